/- The document's Rank and the makers and words of values, by their contracts. Conditions: numbers within their kinds. -/
import Derived.Test.YtaahaehgdamkdaaVR1
import Derived.Test.YtaahaehgdamkdaaBase
import Derived.BigQuiet
namespace Go.Proofs.Ytaahaehgdamkdaa
open Go Go.RowKit

set_option maxHeartbeats 1000000 in
theorem rrank_apart (k : Nat) (n : Int) (b : Nat) (t : ByteArray) (l : Nat) (m : Int) (c : Nat) (u : ByteArray) (w : World) (h : k ≠ l) :
    Calls Try.prog 58 #[vv k n b t, vv l m c u] w (Says w (.int .i64 (rankV k n b t l m c u))) := by
  have hr : rankV k n b t l m c u = if k < l then -1 else 1 := if_pos h
  have hb : ((k : Int) != (l : Int)) = true := bne_iff_ne.2 (by omega)
  generalize rankV k n b t l m c u = R at *
  unfold vv
  by_cases h2 : k < l
  · have h3 : (k : Int) < (l : Int) := by omega
    rw [if_pos h2] at hr
    subst hr
    clear h h2
    go_enter Try.func58, Try.ntmps58
    go_wp2_with fail
    go_ret
    exact ⟨rfl, (Ext.alloc _ _).then_alloc _⟩
  · have h3 : ¬ (k : Int) < (l : Int) := by omega
    rw [if_neg h2] at hr
    subst hr
    clear h h2
    go_enter Try.func58, Try.ntmps58
    go_wp2_with fail
    go_ret
    exact ⟨rfl, (Ext.alloc _ _).then_alloc _⟩

set_option maxHeartbeats 2000000 in
theorem rrank_int (n : Int) (b : Nat) (t : ByteArray) (m : Int) (c : Nat) (u : ByteArray) (w : World) (hb : b ≤ 18446744073709551615) (hc : c ≤ 18446744073709551615) :
    Calls Try.prog 58 #[.agg #[.int .u8 1, .int .i64 n, .int .u64 (b : Int), .string t], .agg #[.int .u8 1, .int .i64 m, .int .u64 (c : Int), .string u]] w (Says w (.int .i64 (cmpI n m))) := by
  have HE := hid (show cmpI n m = if n < m then -1 else if n = m then 0 else 1 from rfl)
  generalize cmpI n m = R at *
  rcases Int.lt_trichotomy n m with h | h | h
  all_goals
    go_enter Try.func58, Try.ntmps58
    go_wp2_with fail
    go_quiet (first | (go_at_call 83; refine Calls.quiet_of_same (rrank_any _ _ (by assumption))))
    go_wp2_with fail
    all_goals go_ret
    all_goals exact Says.mk_int (by rw [HE.out]; (repeat' split) <;> omega) (((Ext.alloc _ _).then_alloc _).trans (Ext.drewN _ _))

set_option maxHeartbeats 2000000 in
theorem rrank_flag (n : Int) (b : Nat) (t : ByteArray) (m : Int) (c : Nat) (u : ByteArray) (w : World) (hb : b ≤ 18446744073709551615) (hc : c ≤ 18446744073709551615) :
    Calls Try.prog 58 #[.agg #[.int .u8 2, .int .i64 n, .int .u64 (b : Int), .string t], .agg #[.int .u8 2, .int .i64 m, .int .u64 (c : Int), .string u]] w (Says w (.int .i64 (cmpI n m))) := by
  have HE := hid (show cmpI n m = if n < m then -1 else if n = m then 0 else 1 from rfl)
  generalize cmpI n m = R at *
  rcases Int.lt_trichotomy n m with h | h | h
  all_goals
    go_enter Try.func58, Try.ntmps58
    go_wp2_with fail
    go_quiet (first | (go_at_call 83; refine Calls.quiet_of_same (rrank_any _ _ (by assumption))))
    go_wp2_with fail
    all_goals go_ret
    all_goals exact Says.mk_int (by rw [HE.out]; (repeat' split) <;> omega) (((Ext.alloc _ _).then_alloc _).trans (Ext.drewN _ _))

set_option maxHeartbeats 2000000 in
theorem rrank_real (n : Int) (b : Nat) (t : ByteArray) (m : Int) (c : Nat) (u : ByteArray) (w : World) (hb : b ≤ 18446744073709551615) (hc : c ≤ 18446744073709551615) :
    Calls Try.prog 58 #[.agg #[.int .u8 3, .int .i64 n, .int .u64 (b : Int), .string t], .agg #[.int .u8 3, .int .i64 m, .int .u64 (c : Int), .string u]] w (Says w (.int .i64 (cmpI (rankZ b : Int) (rankZ c : Int)))) := by
  have HE := hid (show cmpI (rankZ b : Int) (rankZ c : Int) = if (rankZ b : Int) < (rankZ c : Int) then -1 else if (rankZ b : Int) = (rankZ c : Int) then 0 else 1 from rfl)
  generalize cmpI (rankZ b : Int) (rankZ c : Int) = R at *
  rcases Int.lt_trichotomy (rankZ b : Int) (rankZ c : Int) with h | h | h
  all_goals
    go_enter Try.func58, Try.ntmps58
    go_wp2_with fail
    go_quiet (first | (go_at_call 83; refine Calls.quiet_of_same (rrank_any _ _ (by assumption))))
    go_wp2_with fail
    all_goals go_ret
    all_goals exact Says.mk_int (by rw [HE.out]; (repeat' split) <;> omega) (((Ext.alloc _ _).then_alloc _).trans (Ext.drewN _ _))

set_option maxHeartbeats 2000000 in
theorem rrank_text (n : Int) (b : Nat) (t : ByteArray) (m : Int) (c : Nat) (u : ByteArray) (w : World) (hb : b ≤ 18446744073709551615) (hc : c ≤ 18446744073709551615) :
    Calls Try.prog 58 #[.agg #[.int .u8 4, .int .i64 n, .int .u64 (b : Int), .string t], .agg #[.int .u8 4, .int .i64 m, .int .u64 (c : Int), .string u]] w (Says w (.int .i64 (cmpT t u))) := by
  have hg := less_gt t.toList u.toList
  rcases cmpT_cases t u with ⟨h1, h2, h3, h4⟩ | ⟨h1, h2, h3, h4⟩ | ⟨h1, h2, h3, h4⟩
  all_goals
    rw [h2] at hg
    have hg2 := hg.symm
    rw [h4]
    clear h2 h3 h4 hg
    go_enter Try.func58, Try.ntmps58
    go_wp2_with fail
    go_quiet (first | (go_at_call 83; refine Calls.quiet_of_same (rrank_any _ _ (by assumption))))
    go_wp2_with fail
    all_goals go_ret
    all_goals exact Says.mk_int (by first | rfl | (exfalso; simp_all)) (((Ext.alloc _ _).then_alloc _).trans (Ext.drewN _ _))

set_option maxHeartbeats 2000000 in
theorem rrank_none (k : Nat) (n : Int) (b : Nat) (t : ByteArray) (m : Int) (c : Nat) (u : ByteArray) (w : World) (hk : k < 1 ∨ 4 < k) (hb : b ≤ 18446744073709551615) (hc : c ≤ 18446744073709551615) :
    Calls Try.prog 58 #[.agg #[.int .u8 (k : Int), .int .i64 n, .int .u64 (b : Int), .string t], .agg #[.int .u8 (k : Int), .int .i64 m, .int .u64 (c : Int), .string u]] w (Says w (.int .i64 0)) := by
  have h1 : ((k : Int) == 1) = false := beq_eq_false_iff_ne.2 (by omega)
  have h2 : ((k : Int) == 2) = false := beq_eq_false_iff_ne.2 (by omega)
  have h3 : ((k : Int) == 3) = false := beq_eq_false_iff_ne.2 (by omega)
  have h4 : ((k : Int) == 4) = false := beq_eq_false_iff_ne.2 (by omega)
  clear hk
  go_enter Try.func58, Try.ntmps58
  go_wp2_with fail
  go_quiet (first | (go_at_call 83; refine Calls.quiet_of_same (rrank_any _ _ (by assumption))))
  go_wp2_with fail
  all_goals go_ret
  all_goals exact Says.mk_int rfl (((Ext.alloc _ _).then_alloc _).trans (Ext.drewN _ _))

theorem rrankv_any (k : Nat) (n : Int) (b : Nat) (t : ByteArray) (l : Nat) (m : Int) (c : Nat) (u : ByteArray) (w : World) (hb : b ≤ 18446744073709551615) (hc : c ≤ 18446744073709551615) :
    Calls Try.prog 58 #[vv k n b t, vv l m c u] w (Says w (.int .i64 (rankV k n b t l m c u))) := by
  by_cases h : k = l
  · subst h
    by_cases h1 : k < 1 ∨ 4 < k
    · have e : rankV k n b t k m c u = 0 := by
        unfold rankV
        rw [if_neg (fun h => h rfl), if_neg (by omega), if_neg (by omega), if_neg (by omega)]
      rw [e]
      exact rrank_none k n b t m c u w h1 hb hc
    · have : k = 1 ∨ k = 2 ∨ k = 3 ∨ k = 4 := by omega
      rcases this with rfl | rfl | rfl | rfl
      · exact rrank_int n b t m c u w hb hc
      · exact rrank_flag n b t m c u w hb hc
      · exact rrank_real n b t m c u w hb hc
      · exact rrank_text n b t m c u w hb hc
  · exact rrank_apart k n b t l m c u w h
end Go.Proofs.Ytaahaehgdamkdaa
