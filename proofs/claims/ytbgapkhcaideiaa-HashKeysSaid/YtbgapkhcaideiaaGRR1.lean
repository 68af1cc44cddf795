/- Several texts in one: RR1, VR1. Conditions: those of each. -/
import Derived.BigQuiet
import Derived.Test.YtbgapkhcaideiaaBase
/- The document's doubles, by their contracts: what they are, ranks, order, signs. Conditions: none. -/
namespace Go.Proofs.Ytbgapkhcaideiaa
open Go Go.RowKit

set_option maxHeartbeats 400000 in
theorem rexp_any (u : Nat) (w : World) (hu : u ≤ 18446744073709551615) : Calls Try.prog 43 #[.int .u64 (u : Int)] w (Just w (.int .i64 (exZ u : Int))) := by
  go_enter Try.func43, Try.ntmps43
  go_wp2_with fail
  go_ret
  exact Just.mk_int (by unfold exZ; omega)

set_option maxHeartbeats 400000 in
theorem rfrac_any (u : Nat) (w : World) (hu : u ≤ 18446744073709551615) : Calls Try.prog 44 #[.int .u64 (u : Int)] w (Just w (.int .u64 (frZ u : Int))) := by
  go_enter Try.func44, Try.ntmps44
  go_wp2_with fail
  go_ret
  exact Just.mk_int (by unfold frZ; omega)

set_option maxHeartbeats 400000 in
theorem rkind_any (u : Nat) (w : World) (hu : u ≤ 18446744073709551615) : Calls Try.prog 42 #[.int .u64 (u : Int)] w (Just w (.int .u8 (kindZ u : Int))) := by
  have h1 := fun W => rexp_any u W hu
  have h2 := fun W => rfrac_any u W hu
  have hx := ex_lt u
  have hf := fr_lt u
  have hk : kindZ u = if exZ u = 2047 ∧ frZ u ≠ 0 then 5 else if exZ u = 2047 then 4 else if exZ u ≠ 0 then 3 else if frZ u ≠ 0 then 2 else 1 := rfl
  generalize exZ u = x at *
  generalize frZ u = f at *
  have HK := hid hk
  clear hk
  by_cases hx1 : x = 2047 <;> by_cases hf1 : f = 0 <;> by_cases hx0 : x = 0
  all_goals first
    | (exfalso; omega)
    | (go_enter Try.func42, Try.ntmps42
       go_wp2_with (first | ((with_reducible show Calls _ 43 _ _ _); refine (h1 _).mono ?_; rintro e w1 ⟨rfl, rfl⟩) | ((with_reducible show Calls _ 44 _ _ _); refine (h2 _).mono ?_; rintro e w1 ⟨rfl, rfl⟩))
       go_ret
       exact Just.mk_int (by rw [HK.out]; (repeat' split) <;> omega))

theorem kind_le (u : Nat) : kindZ u ≤ 5 := by unfold kindZ; (repeat' split) <;> omega

set_option maxHeartbeats 400000 in
theorem rclean_any (u : Nat) (w : World) (hu : u ≤ 18446744073709551615) : Calls Try.prog 40 #[.int .u64 (u : Int)] w (Just w (.int .u64 (cleanZ u : Int))) := by
  have h1 := fun W => rkind_any u W hu
  have hk5 := kind_le u
  have hc : cleanZ u = if kindZ u = 5 then 9221120237041090560 else u := rfl
  generalize kindZ u = k at *
  have HC := hid hc
  clear hc
  by_cases hk : k = 5
  all_goals
    go_enter Try.func40, Try.ntmps40
    go_wp2_with ((with_reducible show Calls _ 42 _ _ _); refine (h1 _).mono ?_; rintro e w1 ⟨rfl, rfl⟩)
    go_ret
    exact Just.mk_int (by rw [HC.out]; split <;> omega)

end Go.Proofs.Ytbgapkhcaideiaa

/- The document's Check, Rank, OfInt, OfFlag, OfReal, OfText, Word, by their contracts. Conditions: numbers within their kinds. -/
namespace Go.Proofs.Ytbgapkhcaideiaa
open Go Go.RowKit

theorem box4 {w1 : World} {g : Nat} {a b c d : Value} {t : TypeId} (h : w1.heap[g]? = some (.cells #[a, b, c, d] t (0, 0))) :
    (w1.cell? ⟨g, 0, none⟩ = some a ∧ w1.cell? ⟨g, 1, none⟩ = some b ∧ w1.cell? ⟨g, 2, none⟩ = some c ∧ w1.cell? ⟨g, 3, none⟩ = some d) ∧ (w1.frozen? ⟨g, 0, none⟩ = false ∧ w1.frozen? ⟨g, 1, none⟩ = false ∧ w1.frozen? ⟨g, 2, none⟩ = false ∧ w1.frozen? ⟨g, 3, none⟩ = false) ∧ g < w1.heap.size :=
  ⟨⟨cell_of_row _ _ 0 _ _ _ h, cell_of_row _ _ 1 _ _ _ h, cell_of_row _ _ 2 _ _ _ h, cell_of_row _ _ 3 _ _ _ h⟩, ⟨frozen_of_row _ _ 0 _ _ h, frozen_of_row _ _ 1 _ _ h, frozen_of_row _ _ 2 _ _ h, frozen_of_row _ _ 3 _ _ h⟩, (Array.getElem?_eq_some_iff.1 h).1⟩

theorem rcheck_kind (k : Nat) (n : Int) (b : Nat) (t : ByteArray) (w : World) (hk : k < 1 ∨ 4 < k) : Calls Try.prog 31 #[vv k n b t] w (Says w (.int .i64 (checkV k n b t))) := by
  rw [check_kind hk]
  unfold vv
  rcases hk with h | h
  · have h' : (k : Int) < 1 := by omega
    go_enter Try.func31, Try.ntmps31
    go_wp2_with fail
    go_ret
    exact ⟨rfl, Ext.alloc _ _⟩
  · have h' : ¬ (k : Int) < 1 := by omega
    have h2 : (4 : Int) < (k : Int) := by omega
    go_enter Try.func31, Try.ntmps31
    go_wp2_with fail
    go_ret
    exact ⟨rfl, Ext.alloc _ _⟩

theorem text_empty (t : ByteArray) : t.toList.isEmpty = decide (t.size = 0) := by
  rw [ByteArray.toList_eq, Bool.eq_iff_iff, List.isEmpty_iff, decide_eq_true_iff, ← List.length_eq_zero_iff]
  rfl
theorem text_none (t : ByteArray) : t = ByteArray.empty ↔ t.size = 0 := by
  constructor
  · intro h; rw [h]; rfl
  · intro h
    refine ba_eq ?_
    have : t.data.toList.length = 0 := h
    rw [List.length_eq_zero_iff.1 this]
    rfl

set_option maxHeartbeats 2000000 in
theorem rcheck_int (n : Int) (b : Nat) (t : ByteArray) (w : World) : Calls Try.prog 31 #[.agg #[.int .u8 1, .int .i64 n, .int .u64 (b : Int), .string t]] w (Says w (.int .i64 (checkV 1 n b t))) := by
  have hc := @check_int n b t
  have he := text_empty t
  generalize checkV 1 n b t = C at *
  go_enter Try.func31, Try.ntmps31
  go_wp2_with fail
  all_goals first | (go_quiet (fail); go_wp2_with fail) | skip
  all_goals go_ret
  all_goals refine Says.mk_int ?_ (by first | exact Ext.alloc _ _ | exact (Ext.alloc _ _).trans (Ext.drewN _ _))
  all_goals (try simp only [ne_eq, Bool.not_eq_true', Bool.not_eq_false', decide_eq_true_eq, decide_eq_false_iff_not, text_none] at *)
  all_goals ((repeat' split at hc) <;> omega)

set_option maxHeartbeats 2000000 in
theorem rcheck_flag (n : Int) (b : Nat) (t : ByteArray) (w : World) : Calls Try.prog 31 #[.agg #[.int .u8 2, .int .i64 n, .int .u64 (b : Int), .string t]] w (Says w (.int .i64 (checkV 2 n b t))) := by
  have hc := @check_flag n b t
  have he := text_empty t
  generalize checkV 2 n b t = C at *
  go_enter Try.func31, Try.ntmps31
  go_wp2_with fail
  all_goals first | (go_quiet (fail); go_wp2_with fail) | skip
  all_goals go_ret
  all_goals refine Says.mk_int ?_ (by first | exact Ext.alloc _ _ | exact (Ext.alloc _ _).trans (Ext.drewN _ _))
  all_goals (try simp only [ne_eq, Bool.not_eq_true', Bool.not_eq_false', decide_eq_true_eq, decide_eq_false_iff_not, text_none] at *)
  all_goals ((repeat' split at hc) <;> omega)

set_option maxHeartbeats 2000000 in
theorem rcheck_text (n : Int) (b : Nat) (t : ByteArray) (w : World) : Calls Try.prog 31 #[.agg #[.int .u8 4, .int .i64 n, .int .u64 (b : Int), .string t]] w (Says w (.int .i64 (checkV 4 n b t))) := by
  have hc := @check_text n b t
  have he := text_empty t
  generalize checkV 4 n b t = C at *
  go_enter Try.func31, Try.ntmps31
  go_wp2_with fail
  all_goals first | (go_quiet (fail); go_wp2_with fail) | skip
  all_goals go_ret
  all_goals refine Says.mk_int ?_ (by first | exact Ext.alloc _ _ | exact (Ext.alloc _ _).trans (Ext.drewN _ _))
  all_goals (try simp only [ne_eq] at *)
  all_goals ((repeat' split at hc) <;> omega)

set_option maxHeartbeats 2000000 in
theorem rcheck_real (n : Int) (b : Nat) (t : ByteArray) (w : World) (hb : b ≤ 18446744073709551615) : Calls Try.prog 31 #[.agg #[.int .u8 3, .int .i64 n, .int .u64 (b : Int), .string t]] w (Says w (.int .i64 (checkV 3 n b t))) := by
  have hc := @check_real n b t
  have he := text_empty t
  have kc := fun W => rclean_any b W hb
  generalize cleanZ b = c at *
  generalize checkV 3 n b t = C at *
  go_enter Try.func31, Try.ntmps31
  go_wp2_with fail
  all_goals first | (go_quiet (first | (go_at_call 40; refine Calls.quiet_of_same (kc _))); go_wp2_with fail) | skip
  all_goals go_ret
  all_goals refine Says.mk_int ?_ (by first | exact Ext.alloc _ _ | exact (Ext.alloc _ _).trans (Ext.drewN _ _))
  all_goals (try simp only [bne_iff_ne, ne_eq, bne_eq_false_iff_eq, Bool.not_eq_true', Bool.not_eq_false', decide_eq_true_eq, decide_eq_false_iff_not, text_none] at *)
  all_goals ((repeat' split at hc) <;> omega)

theorem rcheck_any (k : Nat) (n : Int) (b : Nat) (t : ByteArray) (w : World) (hb : b ≤ 18446744073709551615) : Calls Try.prog 31 #[vv k n b t] w (Says w (.int .i64 (checkV k n b t))) := by
  by_cases h : k < 1 ∨ 4 < k
  · exact rcheck_kind k n b t w h
  · have : k = 1 ∨ k = 2 ∨ k = 3 ∨ k = 4 := by omega
    rcases this with rfl | rfl | rfl | rfl
    · exact rcheck_int n b t w
    · exact rcheck_flag n b t w
    · exact rcheck_real n b t w hb
    · exact rcheck_text n b t w

end Go.Proofs.Ytbgapkhcaideiaa

