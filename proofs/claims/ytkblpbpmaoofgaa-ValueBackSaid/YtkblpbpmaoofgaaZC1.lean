/- zig.Fold, zig.Back, zig.Size and the document's Fold and Back, by their contracts. Conditions: none. -/
import Derived.Test.YtkblpbpmaoofgaaSay
import Derived.Test.YtkblpbpmaoofgaaZDig
namespace Go.Proofs.Ytkblpbpmaoofgaa
open Go Go.RowKit

theorem fold_raw (n : Int) : IntKind.u64.wrap (IntKind.u64.wrap n * 2) = (2 * n) % 18446744073709551616 := by
  rw [IntKind.wrap_u64, IntKind.wrap_u64]; omega

set_option maxHeartbeats 400000 in
theorem fold_any (n : Int) (w : World) (h0 : -9223372036854775808 ≤ n) (h1 : n ≤ 9223372036854775807) :
    Calls Try.prog 50 #[.int .i64 n] w (Says w (.int .u64 (foldZ n))) := by
  by_cases h : n < 0
  · go_enter Try.func50, Try.ntmps50
    go_wp2_with fail
    go_ret
    refine Says.mk_int ?_ (Ext.refl w)
    rw [fold_raw, fold_neg (by omega), u64_not (by omega) (by omega)]
    omega
  · go_enter Try.func50, Try.ntmps50
    go_wp2_with fail
    go_ret
    refine Says.mk_int ?_ (Ext.refl w)
    rw [fold_pos (by omega)]
    omega

set_option maxHeartbeats 400000 in
theorem back_any (u : Int) (w : World) (h0 : 0 ≤ u) (h1 : u ≤ 18446744073709551615) :
    Calls Try.prog 73 #[.int .u64 u] w (Says w (.int .i64 (backZ u))) := by
  have hb := u64_bit h0 (by omega)
  by_cases h : u % 2 = 1
  · go_enter Try.func73, Try.ntmps73
    go_wp2_with fail
    go_ret
    refine Says.mk_int ?_ (Ext.refl w)
    rw [back_odd (by assumption), i64_not' (by omega) (by omega)]
  · go_enter Try.func73, Try.ntmps73
    go_wp2_with fail
    go_ret
    refine Says.mk_int ?_ (Ext.refl w)
    rw [back_even (by assumption)]

set_option maxHeartbeats 400000 in
theorem size_any (u : Nat) (w : World) (hu : u ≤ 18446744073709551615) :
    Calls Try.prog 53 #[.int .u64 (u : Int)] w (Says w (.int .i64 (zs u : Int))) := by
  go_enter Try.func53, Try.ntmps53
  go_wp2_with fail
  go_loopw [4, 0] (fun i x wr => ∃ j : Nat, j ≤ 9 ∧ i = .int .i64 (j : Int) ∧ x = .int .u64 ((u / 128 ^ j : Nat) : Int) ∧ (j = 0 ∨ 128 ^ j ≤ u) ∧ Ext w wr)
    (fun i _ _ => 10 - (intOf i).toNat)
  case atStart => exact ⟨0, by omega, rfl, by simp, Or.inl rfl, Ext.refl w⟩
  case round =>
    obtain ⟨j, hj, rfl, rfl, hz, hext⟩ := hrel
    have hp : 0 < 128 ^ j := Nat.pow_pos (by decide)
    obtain ⟨x, hx⟩ : ∃ x : Nat, x = u / 128 ^ j := ⟨_, rfl⟩
    have hx' : u / 128 ^ (j + 1) = x / 128 := by rw [hx, Nat.div_div_eq_div_mul, ← Nat.pow_succ]
    rw [← hx]
    have hxl : x ≤ 18446744073709551615 := by rw [hx]; exact Nat.le_trans (Nat.div_le_self _ _) hu
    have HX := hid hx'
    have HZ := hid hz
    clear hx' hx hz
    by_cases hj9 : j < 9
    · by_cases h0 : x / 128 = 0
      · go_wp2_with fail
        go_ret
        refine Says.mk_int ?_ hext
        have h1 := HX.out
        rw [h0] at h1
        have h2 := zs_uniq HZ.out ((Nat.div_eq_zero_iff_lt (Nat.pow_pos (by decide))).1 h1)
        rw [h2]; rfl
      · go_wp2_with fail
        go_roundw
        case rel =>
          refine ⟨j + 1, by omega, rfl, ?_, Or.inr ?_, hext⟩
          · rw [HX.out]; rfl
          · have h1 := HX.out
            rcases Nat.lt_or_ge u (128 ^ (j + 1)) with h2 | h2
            · rw [Nat.div_eq_of_lt h2] at h1; omega
            · exact h2
        case measure => simp [intOf]; omega
    · have h9 : j = 9 := by omega
      have hz : zs u = 10 := zs_uniq (k := 9) (by have := HZ.out; rw [h9] at this; exact this) (by have h3 : (18446744073709551615 : Nat) < 128 ^ (9 + 1) := by decide
                                                                                                   omega)
      have HT := hid hz
      clear hz
      go_wp2_with fail
      go_ret
      exact Says.mk_int (by rw [HT.out]; rfl) hext
end Go.Proofs.Ytkblpbpmaoofgaa
