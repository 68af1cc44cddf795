/- The document's against and Versus, by their contracts. Conditions: none. -/
import Derived.Test.YtaahaehgdamkdaaRR5
namespace Go.Proofs.Ytaahaehgdamkdaa
open Go Go.RowKit

set_option maxRecDepth 100000 in
set_option maxHeartbeats 1600000 in
theorem ragainst_any (n u : Nat) (w : World) (hn : n ≤ 4611686018427387904) (hu : u ≤ 18446744073709551615) :
    Calls Try.prog 82 #[.int .i64 (n : Int), .int .u64 (u : Int)] w (Just w (.int .i64 (cmpI ((n : Int) * (Qz : Int)) (valZ u : Int)))) := by
  have m1 := fun W => rman_any u W hu
  have s1 := fun W => rscale_any u W hu
  have hml := man_lt u
  have hsl := scale_lt u
  have hsp := scale_pos u
  have hv := val_parts u
  generalize manZ u = m0 at *
  generalize scaleZ u = e0 at *
  generalize valZ u = V at *
  have HV := hid hv
  obtain ⟨R, hR⟩ : ∃ R, R = cmpI ((n : Int) * (Qz : Int)) (V : Int) := ⟨_, rfl⟩
  have K : Hid (∀ (m e : Nat) (more : Bool), Held V m e more → (e = 1075 ∨ (m = 0 ∧ more = false) ∨ (1075 ≤ e ∧ more = false ∧ 4611686018427387904 < m)) → R = if n < m ∨ (n = m ∧ more = true) then -1 else if n = m then 0 else 1) :=
    fun m e more h he => hR.trans (held_done hn h he)
  rw [← hR]
  clear hv hR
  have hm0 : (m0 : Int) ≤ 9223372036854775808 := by omega
  have hn2 : (n : Int) ≤ 4611686018427387904 := by omega
  clear hml hn
  go_enter Try.func82, Try.ntmps82
  go_wp2_with (first | ((with_reducible show Calls _ 64 _ _ _); refine (m1 _).mono ?_; rintro e w1 ⟨rfl, rfl⟩) | ((with_reducible show Calls _ 63 _ _ _); refine (s1 _).mono ?_; rintro e w1 ⟨rfl, rfl⟩))
  rename World => wb
  go_loopw [5, 6] (fun y z wr => ∃ M E : Nat, y = .int .u64 (M : Int) ∧ z = .int .i64 (E : Int) ∧ 1 ≤ E ∧ E < 2048 ∧ (M : Int) ≤ 9223372036854775808 ∧ Hid (V = M * 2 ^ (E - 1)) ∧ wr = wb)
    (fun _ z _ => (intOf z).toNat)
  case atStart => exact ⟨m0, e0, rfl, rfl, hsp, hsl, hm0, HV, rfl⟩
  case round =>
    clear HV hsp hsl hm0 m1 s1
    obtain ⟨M, E, rfl, rfl, hE1, hE2, hM, hv, rfl⟩ := hrel
    by_cases hgo : (1075 : Int) < (E : Int) ∧ (M : Int) ≤ 4611686018427387904 ∧ (0 : Int) < (M : Int)
    · obtain ⟨c1, c2, c3⟩ := hgo
      have hv2 : V = 2 * M * 2 ^ (E - 1 - 1) := by
        rw [hv.out]
        obtain ⟨j, hj⟩ : ∃ j, E = j + 2 := ⟨E - 2, by omega⟩
        rw [hj, show j + 2 - 1 - 1 = j by omega, show j + 2 - 1 = j + 1 by omega, Nat.pow_succ, Nat.mul_comm (2 ^ j) 2, ← Nat.mul_assoc, Nat.mul_comm M 2]
      have HV2 := hid hv2
      clear hv2
      go_wp2_with fail
      go_roundw
      case rel => exact ⟨2 * M, E - 1, congrArg _ (by omega), congrArg _ (by omega), by omega, by omega, by omega, HV2, trivial⟩
      case measure => simp [intOf]; omega
    · have HH := hid (held_start hv.out)
      have hz : E ≤ 1075 ∨ 4611686018427387904 < M ∨ M = 0 := by omega
      have HZ := hid hz
      clear hz
      by_cases d1 : (1075 : Int) < (E : Int) <;> by_cases d2 : (M : Int) ≤ 4611686018427387904 <;> by_cases d3 : (0 : Int) < (M : Int)
      all_goals first
        | (exfalso; omega)
        | skip
      all_goals clear hgo
      all_goals go_wp2_with fail
      all_goals
        go_loopw [5, 6, 7] (fun y z b wq => ∃ (M E : Nat) (more : Bool), y = .int .u64 (M : Int) ∧ z = .int .i64 (E : Int) ∧ b = .bool more ∧ 1 ≤ E ∧ E < 2048 ∧ (M : Int) ≤ 9223372036854775808 ∧ Hid (Held V M E more) ∧ Hid (E ≤ 1075 ∨ (more = false ∧ (4611686018427387904 < M ∨ M = 0))) ∧ wq = wr)
          (fun _ z _ _ => 2048 - (intOf z).toNat)
        case atStart => exact ⟨M, E, false, rfl, rfl, rfl, hE1, hE2, hM, HH, hid (by have := HZ.out; rcases this with h | h; exact Or.inl h; exact Or.inr ⟨rfl, h⟩), rfl⟩
        case round =>
          clear hE1 hE2 hM HZ HH hv d1 d2 d3
          obtain ⟨M, E, more, rfl, rfl, rfl, hE1, hE2, hM, hh, hz, rfl⟩ := hrel
          by_cases hE : (E : Int) < 1075
          · have hE0 : (0 : Int) < (E : Int) := by omega
            by_cases hgo : (0 : Int) < (M : Int) ∨ more = true
            · have HS := hid (held_step hE1 hh.out)
              have hE15 : Hid (E + 1 ≤ 1075) := by show E + 1 ≤ 1075; omega
              by_cases hodd : (M : Int) % 2 = 1
              · have h1 : decide (M % 2 = 1) = true := decide_eq_true (by omega)
                rw [h1, Bool.or_true] at HS
                by_cases hM0 : (0 : Int) < (M : Int)
                · clear hgo h1
                  cases more
                  all_goals
                    go_wp2_with fail
                    go_roundw
                    case rel => exact ⟨M / 2, E + 1, true, congrArg _ (by omega), rfl, rfl, by omega, by omega, by omega, HS, hid (Or.inl hE15.out), trivial⟩
                    case measure => simp [intOf]; omega
                · exfalso; omega
              · have h1 : decide (M % 2 = 1) = false := decide_eq_false (by omega)
                have h2 : (M : Int) % 2 = 0 := by omega
                rw [h1, Bool.or_false] at HS
                clear h1 hodd
                cases more
                · have hM0 : (0 : Int) < (M : Int) := by rcases hgo with h | h; exact h; cases h
                  clear hgo
                  go_wp2_with fail
                  go_roundw
                  case rel => exact ⟨M / 2, E + 1, false, congrArg _ (by omega), rfl, rfl, by omega, by omega, by omega, HS, hid (Or.inl hE15.out), trivial⟩
                  case measure => simp [intOf]; omega
                · clear hgo
                  by_cases hM0 : (0 : Int) < (M : Int)
                  all_goals
                    go_wp2_with fail
                    go_roundw
                    case rel => exact ⟨M / 2, E + 1, true, congrArg _ (by omega), rfl, rfl, by omega, by omega, by omega, HS, hid (Or.inl hE15.out), trivial⟩
                    case measure => simp [intOf]; omega
            · have hmf : more = false := by cases more; rfl; exact absurd (Or.inr rfl) hgo
              have hM0 : M = 0 := by
                rcases Nat.eq_zero_or_pos M with h | h
                · exact h
                · exact absurd (Or.inl (by omega)) hgo
              subst hmf
              subst hM0
              clear hgo
              have HD := hid (K.out 0 E false hh.out (Or.inr (Or.inl ⟨rfl, rfl⟩)))
              by_cases hn0 : (n : Int) = 0
              · have HR := hid (show R = 0 by rw [HD.out, if_neg (by rintro (h | ⟨_, h⟩); omega; cases h), if_pos (by omega)])
                clear HD K
                go_wp2_with fail
                all_goals go_ret
                all_goals exact Just.mk_int HR.out.symm
              · have HR := hid (show R = 1 by rw [HD.out, if_neg (by rintro (h | ⟨_, h⟩); omega; cases h), if_neg (by omega)])
                clear HD K
                go_wp2_with fail
                all_goals go_ret
                all_goals exact Just.mk_int HR.out.symm
          · have hE5 : 1075 ≤ E := by omega
            have hhe : E = 1075 ∨ (M = 0 ∧ more = false) ∨ (1075 ≤ E ∧ more = false ∧ 4611686018427387904 < M) := by
              rcases hz.out with h | ⟨h, h2 | h2⟩
              · exact Or.inl (by omega)
              · exact Or.inr (Or.inr ⟨hE5, h, h2⟩)
              · exact Or.inr (Or.inl ⟨h2, h⟩)
            have HD := hid (K.out M E more hh.out hhe)
            clear hhe hE5
            cases more
            · by_cases e1 : (n : Int) < (M : Int)
              · have HR := hid (show R = -1 by rw [HD.out, if_pos (Or.inl (by omega))])
                clear HD K
                go_wp2_with fail
                all_goals go_ret
                all_goals exact Just.mk_int HR.out.symm
              · by_cases e2 : (n : Int) = (M : Int)
                · have HR := hid (show R = 0 by rw [HD.out, if_neg (by rintro (h | ⟨_, h⟩); omega; cases h), if_pos (by omega)])
                  clear HD K
                  go_wp2_with fail
                  all_goals go_ret
                  all_goals exact Just.mk_int HR.out.symm
                · have HR := hid (show R = 1 by rw [HD.out, if_neg (by rintro (h | ⟨_, h⟩); omega; cases h), if_neg (by omega)])
                  clear HD K
                  go_wp2_with fail
                  all_goals go_ret
                  all_goals exact Just.mk_int HR.out.symm
            · by_cases e1 : (n : Int) < (M : Int)
              · have HR := hid (show R = -1 by rw [HD.out, if_pos (Or.inl (by omega))])
                clear HD K
                go_wp2_with fail
                all_goals go_ret
                all_goals exact Just.mk_int HR.out.symm
              · by_cases e2 : (n : Int) = (M : Int)
                · have HR := hid (show R = -1 by rw [HD.out, if_pos (Or.inr ⟨by omega, rfl⟩)])
                  clear HD K
                  go_wp2_with fail
                  all_goals go_ret
                  all_goals exact Just.mk_int HR.out.symm
                · have HR := hid (show R = 1 by rw [HD.out, if_neg (by rintro (h | ⟨h, _⟩) <;> omega), if_neg (by omega)])
                  clear HD K
                  go_wp2_with fail
                  all_goals go_ret
                  all_goals exact Just.mk_int HR.out.symm
end Go.Proofs.Ytaahaehgdamkdaa
