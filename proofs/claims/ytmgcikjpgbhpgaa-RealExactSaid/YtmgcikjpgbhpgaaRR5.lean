/- The document's Whole, against and Versus, by their contracts. Conditions: none. -/
import Derived.Test.YtmgcikjpgbhpgaaRR2
import Derived.Test.YtmgcikjpgbhpgaaRWh
namespace Go.Proofs.Ytmgcikjpgbhpgaa
open Go Go.RowKit

/-- a number and a yes or no are told, and the world is as it was -/
def JustB (w : World) (t : Int × Bool) (e : Ending) (w' : World) : Prop := e = .returned (.tuple #[.int .i64 t.1, .bool t.2]) ∧ w' = w
theorem JustB.mk {w : World} {t : Int × Bool} {x n : Int} {b : Bool} (h : t = (n, b)) (hx : x = n) : JustB w t (.returned (.tuple #[.int .i64 x, .bool b])) w := by
  subst h; subst hx
  exact ⟨rfl, rfl⟩

set_option maxRecDepth 100000 in
set_option maxHeartbeats 1600000 in
theorem rwhole_any (u : Nat) (w : World) (hu : u ≤ 18446744073709551615) : Calls Try.prog 25 #[.int .u64 (u : Int)] w (JustB w (wholeZ u)) := by
  have x1 := fun W => rexp_any u W hu
  have hxl := ex_lt u
  by_cases hx : exZ u = 2047
  · have HW := hid (whole_inf hx)
    rw [hx] at x1
    clear hx
    go_enter Try.func25, Try.ntmps25
    go_wp2_with ((with_reducible show Calls _ 30 _ _ _); refine (x1 _).mono ?_; rintro e w1 ⟨rfl, rfl⟩)
    all_goals go_ret2
    all_goals exact JustB.mk HW.out rfl
  · have m1 := fun W => rman_any u W hu
    have s1 := fun W => rscale_any u W hu
    have g1 := fun W => rsign_any u W
    have hml := man_lt u
    have hsl := scale_lt u
    have hsp := scale_pos u
    have hv := val_parts u
    have H1 := fun m e he h hm hv => whole_odd (u := u) (m := m) (e := e) he h hm hv
    have H2 := fun m e h hm hv => whole_big (u := u) (m := m) (e := e) h hm hv
    have H3 := fun m hm hv => whole_is (u := u) (m := m) hx hm hv
    generalize exZ u = x at *
    generalize manZ u = m0 at *
    generalize scaleZ u = e0 at *
    generalize sgZ u = g at *
    generalize wholeZ u = R at *
    generalize valZ u = V at *
    have HV := hid hv
    have K1 := hid H1
    have K2 := hid H2
    have K3 := hid H3
    clear hv H1 H2 H3
    have hxb : ((x : Int) == 2047) = false := by rw [beq_eq_false_iff_ne]; omega
    have hm0 : (m0 : Int) ≤ 9223372036854775808 := by omega
    clear hml hx
    go_enter Try.func25, Try.ntmps25
    go_wp2_with (first | ((with_reducible show Calls _ 30 _ _ _); refine (x1 _).mono ?_; rintro e w1 ⟨rfl, rfl⟩) | ((with_reducible show Calls _ 37 _ _ _); refine (m1 _).mono ?_; rintro e w1 ⟨rfl, rfl⟩) | ((with_reducible show Calls _ 36 _ _ _); refine (s1 _).mono ?_; rintro e w1 ⟨rfl, rfl⟩))
    rename World => wb
    go_loopw [4, 5] (fun y z wr => ∃ M E : Nat, y = .int .u64 (M : Int) ∧ z = .int .i64 (E : Int) ∧ 1 ≤ E ∧ E < 2048 ∧ (M : Int) ≤ 9223372036854775808 ∧ Hid (V = M * 2 ^ (E - 1)) ∧ wr = wb)
      (fun _ z _ => 2048 - (intOf z).toNat)
    case atStart => exact ⟨m0, e0, rfl, rfl, hsp, hsl, hm0, HV, rfl⟩
    case round =>
      clear HV hsp hsl hm0 x1 m1 s1
      obtain ⟨M, E, rfl, rfl, hE1, hE2, hM, hv, rfl⟩ := hrel
      by_cases hgo : (E : Int) < 1075 ∧ (0 : Int) < (M : Int) ∧ (M : Int) % 2 = 0
      · obtain ⟨c1, c2, c3⟩ := hgo
        have hv2 : V = M / 2 * 2 ^ (E + 1 - 1) := by
          rw [hv.out]
          obtain ⟨j, hj⟩ : ∃ j, E = j + 1 := ⟨E - 1, by omega⟩
          rw [hj, show j + 1 + 1 - 1 = j + 1 by omega, show j + 1 - 1 = j by omega, Nat.pow_succ, Nat.mul_comm (2 ^ j) 2, ← Nat.mul_assoc, show M / 2 * 2 = M by omega]
        have HV2 := hid hv2
        clear hv2
        go_wp2_with fail
        go_roundw
        case rel => exact ⟨M / 2, E + 1, congrArg _ (by omega), rfl, by omega, by omega, by omega, HV2, trivial⟩
        case measure => simp [intOf]; omega
      · by_cases hodd : (0 : Int) < (M : Int) ∧ (E : Int) < 1075
        · obtain ⟨c2, c1⟩ := hodd
          have c3 : (M : Int) % 2 = 1 := by omega
          have HW := hid (K1.out M E hE1 (by omega) (by omega) hv.out)
          clear hgo
          go_wp2_with fail
          all_goals go_ret2
          all_goals exact JustB.mk HW.out rfl
        · have hz : M = 0 ∨ 1075 ≤ E := by omega
          have HZ : Hid ((M : Int) = 0 ∨ (1075 : Int) ≤ (E : Int)) := by show _ ∨ _; omega
          clear hz
          by_cases hM0 : (0 : Int) < (M : Int)
          · have hE5 : ¬ (E : Int) < 1075 := by omega
            clear hgo hodd
            go_wp2_with fail
            go_loopw [4, 5] (fun y z wq => ∃ M E : Nat, y = .int .u64 (M : Int) ∧ z = .int .i64 (E : Int) ∧ 1 ≤ E ∧ E < 2048 ∧ (M : Int) ≤ 9223372036854775808 ∧ ((M : Int) = 0 ∨ (1075 : Int) ≤ (E : Int)) ∧ Hid (V = M * 2 ^ (E - 1)) ∧ wq = wr)
              (fun _ z _ => (intOf z).toNat)
            case atStart => exact ⟨M, E, rfl, rfl, hE1, hE2, hM, HZ.out, hv, rfl⟩
            case round =>
              clear hE1 hE2 hM HZ hv
              obtain ⟨M, E, rfl, rfl, hE1, hE2, hM, hz, hv, rfl⟩ := hrel
              have HZ := hid hz
              clear hz
              by_cases hgo : (0 : Int) < (M : Int) ∧ (M : Int) ≤ 4611686018427387904 ∧ (1075 : Int) < (E : Int)
              · obtain ⟨c1, c2, c3⟩ := hgo
                have hv2 : V = 2 * M * 2 ^ (E - 1 - 1) := by
                  rw [hv.out]
                  obtain ⟨j, hj⟩ : ∃ j, E = j + 2 := ⟨E - 2, by omega⟩
                  rw [hj, show j + 2 - 1 - 1 = j by omega, show j + 2 - 1 = j + 1 by omega, Nat.pow_succ, Nat.mul_comm (2 ^ j) 2, ← Nat.mul_assoc, Nat.mul_comm M 2]
                have HV2 := hid hv2
                clear hv2
                go_wp2_with fail
                go_roundw
                case rel => exact ⟨2 * M, E - 1, congrArg _ (by omega), congrArg _ (by omega), by omega, by omega, by omega, Or.inr (by omega), HV2, trivial⟩
                case measure => simp [intOf]; omega
              · by_cases hbig : (4611686018427387904 : Int) < (M : Int)
                · have hE5 : 1075 ≤ E := by rcases HZ.out with h | h <;> omega
                  have HW := hid (K2.out M E hE5 (by omega) hv.out)
                  clear hgo hE5
                  go_wp2_with fail
                  all_goals go_ret2
                  all_goals exact JustB.mk HW.out rfl
                · have hVQ : V = M * Qz := by
                    rcases HZ.out with h | h
                    · have h0 : M = 0 := by omega
                      have h5 := hv.out
                      rw [h0, Nat.zero_mul] at h5
                      rw [h5, h0, Nat.zero_mul]
                    · by_cases h0 : M = 0
                      · have h5 := hv.out
                        rw [h0, Nat.zero_mul] at h5
                        rw [h5, h0, Nat.zero_mul]
                      · have h5 := hv.out
                        rw [Q_at (by omega)] at h5
                        exact h5
                  have HW := hid (K3.out M (by omega) hVQ)
                  clear hVQ
                  by_cases hM0 : (0 : Int) < (M : Int)
                  · have hE5 : ¬ (1075 : Int) < (E : Int) := by omega
                    clear hgo
                    cases g
                    all_goals
                      go_wp2_with ((with_reducible show Calls _ 33 _ _ _); refine (g1 _).mono ?_; rintro e w1 ⟨rfl, rfl⟩)
                      all_goals go_ret2
                      all_goals exact JustB.mk HW.out (by simp [signI])
                  · clear hgo
                    cases g
                    all_goals
                      go_wp2_with ((with_reducible show Calls _ 33 _ _ _); refine (g1 _).mono ?_; rintro e w1 ⟨rfl, rfl⟩)
                      all_goals go_ret2
                      all_goals exact JustB.mk HW.out (by simp [signI])
          · clear hgo hodd
            by_cases hE5 : (E : Int) < 1075
            · skip
              go_wp2_with fail
              go_loopw [4, 5] (fun y z wq => ∃ M E : Nat, y = .int .u64 (M : Int) ∧ z = .int .i64 (E : Int) ∧ 1 ≤ E ∧ E < 2048 ∧ (M : Int) ≤ 9223372036854775808 ∧ ((M : Int) = 0 ∨ (1075 : Int) ≤ (E : Int)) ∧ Hid (V = M * 2 ^ (E - 1)) ∧ wq = wr)
                (fun _ z _ => (intOf z).toNat)
              case atStart => exact ⟨M, E, rfl, rfl, hE1, hE2, hM, HZ.out, hv, rfl⟩
              case round =>
                clear hE1 hE2 hM HZ hv
                obtain ⟨M, E, rfl, rfl, hE1, hE2, hM, hz, hv, rfl⟩ := hrel
                have HZ := hid hz
                clear hz
                by_cases hgo : (0 : Int) < (M : Int) ∧ (M : Int) ≤ 4611686018427387904 ∧ (1075 : Int) < (E : Int)
                · obtain ⟨c1, c2, c3⟩ := hgo
                  have hv2 : V = 2 * M * 2 ^ (E - 1 - 1) := by
                    rw [hv.out]
                    obtain ⟨j, hj⟩ : ∃ j, E = j + 2 := ⟨E - 2, by omega⟩
                    rw [hj, show j + 2 - 1 - 1 = j by omega, show j + 2 - 1 = j + 1 by omega, Nat.pow_succ, Nat.mul_comm (2 ^ j) 2, ← Nat.mul_assoc, Nat.mul_comm M 2]
                  have HV2 := hid hv2
                  clear hv2
                  go_wp2_with fail
                  go_roundw
                  case rel => exact ⟨2 * M, E - 1, congrArg _ (by omega), congrArg _ (by omega), by omega, by omega, by omega, Or.inr (by omega), HV2, trivial⟩
                  case measure => simp [intOf]; omega
                · by_cases hbig : (4611686018427387904 : Int) < (M : Int)
                  · have hE5 : 1075 ≤ E := by rcases HZ.out with h | h <;> omega
                    have HW := hid (K2.out M E hE5 (by omega) hv.out)
                    clear hgo hE5
                    go_wp2_with fail
                    all_goals go_ret2
                    all_goals exact JustB.mk HW.out rfl
                  · have hVQ : V = M * Qz := by
                      rcases HZ.out with h | h
                      · have h0 : M = 0 := by omega
                        have h5 := hv.out
                        rw [h0, Nat.zero_mul] at h5
                        rw [h5, h0, Nat.zero_mul]
                      · by_cases h0 : M = 0
                        · have h5 := hv.out
                          rw [h0, Nat.zero_mul] at h5
                          rw [h5, h0, Nat.zero_mul]
                        · have h5 := hv.out
                          rw [Q_at (by omega)] at h5
                          exact h5
                    have HW := hid (K3.out M (by omega) hVQ)
                    clear hVQ
                    by_cases hM0 : (0 : Int) < (M : Int)
                    · have hE5 : ¬ (1075 : Int) < (E : Int) := by omega
                      clear hgo
                      cases g
                      all_goals
                        go_wp2_with ((with_reducible show Calls _ 33 _ _ _); refine (g1 _).mono ?_; rintro e w1 ⟨rfl, rfl⟩)
                        all_goals go_ret2
                        all_goals exact JustB.mk HW.out (by simp [signI])
                    · clear hgo
                      cases g
                      all_goals
                        go_wp2_with ((with_reducible show Calls _ 33 _ _ _); refine (g1 _).mono ?_; rintro e w1 ⟨rfl, rfl⟩)
                        all_goals go_ret2
                        all_goals exact JustB.mk HW.out (by simp [signI])
            · skip
              go_wp2_with fail
              go_loopw [4, 5] (fun y z wq => ∃ M E : Nat, y = .int .u64 (M : Int) ∧ z = .int .i64 (E : Int) ∧ 1 ≤ E ∧ E < 2048 ∧ (M : Int) ≤ 9223372036854775808 ∧ ((M : Int) = 0 ∨ (1075 : Int) ≤ (E : Int)) ∧ Hid (V = M * 2 ^ (E - 1)) ∧ wq = wr)
                (fun _ z _ => (intOf z).toNat)
              case atStart => exact ⟨M, E, rfl, rfl, hE1, hE2, hM, HZ.out, hv, rfl⟩
              case round =>
                clear hE1 hE2 hM HZ hv
                obtain ⟨M, E, rfl, rfl, hE1, hE2, hM, hz, hv, rfl⟩ := hrel
                have HZ := hid hz
                clear hz
                by_cases hgo : (0 : Int) < (M : Int) ∧ (M : Int) ≤ 4611686018427387904 ∧ (1075 : Int) < (E : Int)
                · obtain ⟨c1, c2, c3⟩ := hgo
                  have hv2 : V = 2 * M * 2 ^ (E - 1 - 1) := by
                    rw [hv.out]
                    obtain ⟨j, hj⟩ : ∃ j, E = j + 2 := ⟨E - 2, by omega⟩
                    rw [hj, show j + 2 - 1 - 1 = j by omega, show j + 2 - 1 = j + 1 by omega, Nat.pow_succ, Nat.mul_comm (2 ^ j) 2, ← Nat.mul_assoc, Nat.mul_comm M 2]
                  have HV2 := hid hv2
                  clear hv2
                  go_wp2_with fail
                  go_roundw
                  case rel => exact ⟨2 * M, E - 1, congrArg _ (by omega), congrArg _ (by omega), by omega, by omega, by omega, Or.inr (by omega), HV2, trivial⟩
                  case measure => simp [intOf]; omega
                · by_cases hbig : (4611686018427387904 : Int) < (M : Int)
                  · have hE5 : 1075 ≤ E := by rcases HZ.out with h | h <;> omega
                    have HW := hid (K2.out M E hE5 (by omega) hv.out)
                    clear hgo hE5
                    go_wp2_with fail
                    all_goals go_ret2
                    all_goals exact JustB.mk HW.out rfl
                  · have hVQ : V = M * Qz := by
                      rcases HZ.out with h | h
                      · have h0 : M = 0 := by omega
                        have h5 := hv.out
                        rw [h0, Nat.zero_mul] at h5
                        rw [h5, h0, Nat.zero_mul]
                      · by_cases h0 : M = 0
                        · have h5 := hv.out
                          rw [h0, Nat.zero_mul] at h5
                          rw [h5, h0, Nat.zero_mul]
                        · have h5 := hv.out
                          rw [Q_at (by omega)] at h5
                          exact h5
                    have HW := hid (K3.out M (by omega) hVQ)
                    clear hVQ
                    by_cases hM0 : (0 : Int) < (M : Int)
                    · have hE5 : ¬ (1075 : Int) < (E : Int) := by omega
                      clear hgo
                      cases g
                      all_goals
                        go_wp2_with ((with_reducible show Calls _ 33 _ _ _); refine (g1 _).mono ?_; rintro e w1 ⟨rfl, rfl⟩)
                        all_goals go_ret2
                        all_goals exact JustB.mk HW.out (by simp [signI])
                    · clear hgo
                      cases g
                      all_goals
                        go_wp2_with ((with_reducible show Calls _ 33 _ _ _); refine (g1 _).mono ?_; rintro e w1 ⟨rfl, rfl⟩)
                        all_goals go_ret2
                        all_goals exact JustB.mk HW.out (by simp [signI])
end Go.Proofs.Ytmgcikjpgbhpgaa
