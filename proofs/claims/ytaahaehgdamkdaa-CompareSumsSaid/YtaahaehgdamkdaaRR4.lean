/- The document's whole numbers as doubles, and held against doubles, by their contracts. Conditions: none. -/
import Derived.Test.YtaahaehgdamkdaaRR2
import Derived.Test.YtaahaehgdamkdaaBase
namespace Go.Proofs.Ytaahaehgdamkdaa
open Go Go.RowKit

theorem two_pow (i : Nat) (h : i ≤ 3) : 2 ^ (63 - i) ≤ 9223372036854775808 := by
  have : i = 0 ∨ i = 1 ∨ i = 2 ∨ i = 3 := by omega
  rcases this with rfl | rfl | rfl | rfl <;> decide
theorem two_half (i D M : Nat) (h : i ≤ 2) (hM : M ≤ 2 ^ (63 - i)) (hD : D ≤ (M + 1) / 2) : D ≤ 2 ^ (63 - (i + 1)) := by
  have : i = 0 ∨ i = 1 ∨ i = 2 := by omega
  rcases this with rfl | rfl | rfl <;> simp at hM ⊢ <;> omega
theorem two_few (i M : Nat) (h : i ≤ 3) (hM : M ≤ 2 ^ (63 - i)) (hb : 2305843009213693952 ≤ M) : i ≤ 2 := by
  rcases Nat.lt_or_ge i 3 with h1 | h1
  · omega
  · have : i = 3 := by omega
    subst this
    simp at hM
    omega

set_option maxRecDepth 100000 in
set_option maxHeartbeats 1600000 in
theorem rofint_any (n : Int) (w : World) (h0 : -9223372036854775808 ≤ n) (h1 : n ≤ 9223372036854775807) : Calls Try.prog 68 #[.int .i64 n] w (Just w (.int .u64 (intZ n : Int))) := by
  obtain ⟨k, hk⟩ : ∃ k : Nat, k = n.natAbs := ⟨_, rfl⟩
  obtain ⟨s, hs⟩ : ∃ s : Bool, s = decide (n < 0) := ⟨_, rfl⟩
  have hI : intZ n = rdZ s (k * Qz) := by rw [intZ_Q, hk, hs]
  have hG := going_int k
  generalize intZ n = D at *
  by_cases hn0 : n = 0
  · have hk0 : k = 0 := by omega
    have hs0 : s = false := by rw [hs]; exact decide_eq_false (by omega)
    rw [hk0, hs0, Nat.zero_mul, rd_zero] at hI
    have HD := hid hI
    clear hG hI hs hk hs0 hk0
    subst hn0
    go_enter Try.func68, Try.ntmps68
    go_wp2_with fail
    all_goals go_ret
    all_goals exact Just.mk_int (by rw [HD.out]; rfl)
  · have HI := hid hI
    have HG := hid hG
    generalize k * Qz = N at *
    clear hI hG
    have HK63 : Hid (k ≤ 2 ^ (63 - 0)) := by show k ≤ 9223372036854775808; omega
    by_cases hneg : n < 0
    · rw [hs, decide_eq_true hneg] at HI
      have hw : IntKind.u64.wrap (-IntKind.u64.wrap n) = (k : Int) := by rw [IntKind.wrap_u64, IntKind.wrap_u64]; omega
      have hkb : ((k : Int) == 0) = false := by rw [beq_eq_false_iff_ne]; omega
      have hkl : k ≤ 9223372036854775808 := by omega
      clear hs hk
      go_enter Try.func68, Try.ntmps68
      go_wp2_with fail
      try rw [hw]
      go_loopw [4, 5] (fun x y wr => ∃ M E i : Nat, x = .int .u64 (M : Int) ∧ y = .int .i64 (E : Int) ∧ E = 1078 + i ∧ i ≤ 3 ∧ Hid (M ≤ 2 ^ (63 - i)) ∧ Hid (Going M N E) ∧ wr = w)
        (fun x _ _ => (intOf x).toNat)
      case atStart => exact ⟨k, 1078, 0, rfl, rfl, rfl, by omega, hid HK63.out, hid HG.out, rfl⟩
      case round =>
        clear HG HK63
        obtain ⟨M, E, i, rfl, rfl, hE, hi, hMi, hG, rfl⟩ := hrel
        have hE1 : 1 ≤ E := by omega
        have hE3 : E ≤ 1081 := by omega
        have HE := hid hE
        clear hE
        have hM63 : M ≤ 9223372036854775808 := Nat.le_trans hMi.out (two_pow i hi)
        by_cases hM : (2305843009213693952 : Int) ≤ (M : Int)
        · have hi2 := two_few i M hi hMi.out (by omega)
          have hgd := hid (going_down hE1 (by omega) hG.out)
          have hd := rdown_any M 1 wr (by omega) (by omega)
          rw [stk_one] at hd
          have hdl := d1_le M
          have HDI := hid (two_half i (d1 M) M hi2 hMi.out hdl)
          generalize d1 M = D1 at *
          have HD1 := hid hd
          clear hd
          go_wp2_with fail
          refine HD1.out.mono ?_
          rintro e1 w1 ⟨rfl, rfl⟩
          go_wp2_with fail
          go_roundw
          case rel => exact ⟨D1, E + 1, i + 1, rfl, rfl, by have := HE.out; omega, by omega, HDI, hgd, trivial⟩
          case measure => simp [intOf]; omega
        · have hr := rround_any true M E N wr (by omega) hE1 (by omega) hG.out
          rw [← HI.out] at hr
          have HR := hid hr
          clear hr
          go_wp2_with fail
          refine HR.out.mono ?_
          rintro e1 w1 ⟨rfl, rfl⟩
          go_wp2_with fail
          go_ret
          exact ⟨rfl, rfl⟩
    · rw [hs, decide_eq_false hneg] at HI
      have hnk : n = (k : Int) := by omega
      have hkb : ((k : Int) == 0) = false := by rw [beq_eq_false_iff_ne]; omega
      clear hs hk
      subst hnk
      go_enter Try.func68, Try.ntmps68
      go_wp2_with fail
      skip
      go_loopw [4, 5] (fun x y wr => ∃ M E i : Nat, x = .int .u64 (M : Int) ∧ y = .int .i64 (E : Int) ∧ E = 1078 + i ∧ i ≤ 3 ∧ Hid (M ≤ 2 ^ (63 - i)) ∧ Hid (Going M N E) ∧ wr = w)
        (fun x _ _ => (intOf x).toNat)
      case atStart => exact ⟨k, 1078, 0, rfl, rfl, rfl, by omega, hid HK63.out, hid HG.out, rfl⟩
      case round =>
        clear HG HK63
        obtain ⟨M, E, i, rfl, rfl, hE, hi, hMi, hG, rfl⟩ := hrel
        have hE1 : 1 ≤ E := by omega
        have hE3 : E ≤ 1081 := by omega
        have HE := hid hE
        clear hE
        have hM63 : M ≤ 9223372036854775808 := Nat.le_trans hMi.out (two_pow i hi)
        by_cases hM : (2305843009213693952 : Int) ≤ (M : Int)
        · have hi2 := two_few i M hi hMi.out (by omega)
          have hgd := hid (going_down hE1 (by omega) hG.out)
          have hd := rdown_any M 1 wr (by omega) (by omega)
          rw [stk_one] at hd
          have hdl := d1_le M
          have HDI := hid (two_half i (d1 M) M hi2 hMi.out hdl)
          generalize d1 M = D1 at *
          have HD1 := hid hd
          clear hd
          go_wp2_with fail
          refine HD1.out.mono ?_
          rintro e1 w1 ⟨rfl, rfl⟩
          go_wp2_with fail
          go_roundw
          case rel => exact ⟨D1, E + 1, i + 1, rfl, rfl, by have := HE.out; omega, by omega, HDI, hgd, trivial⟩
          case measure => simp [intOf]; omega
        · have hr := rround_any false M E N wr (by omega) hE1 (by omega) hG.out
          rw [← HI.out] at hr
          have HR := hid hr
          clear hr
          go_wp2_with fail
          refine HR.out.mono ?_
          rintro e1 w1 ⟨rfl, rfl⟩
          go_wp2_with fail
          go_ret
          exact ⟨rfl, rfl⟩
end Go.Proofs.Ytaahaehgdamkdaa
