/- The landed program's needOf and what the kinds' types tell, Check, the makers and Word, by their contracts. Conditions: numbers within their kinds. -/
import Derived.Test.YtbgapkhcaideiaaVR1
import Derived.Test.YtbgapkhcaideiaaGRR5
import Derived.BigQuiet
namespace Go.Proofs.Ytbgapkhcaideiaa
open Go Go.RowKit

/-- the type that tells what a kind needs -/
def needT (k : Nat) : TypeId := if k = 1 then 56 else if k = 2 then 58 else if k = 3 then 59 else if k = 4 then 61 else 64
def needV (k : Nat) : Value := .iface (needT k) (.agg #[])

set_option maxHeartbeats 1000000 in
theorem need_any (k : Nat) (w : World) : Calls Try.prog 26 #[.int .u8 (k : Int)] w (Just w (needV k)) := by
  by_cases h1 : k = 1
  · subst h1
    go_enter Try.func26, Try.ntmps26
    go_wp2_with fail
    go_ret
    exact ⟨rfl, rfl⟩
  · by_cases h2 : k = 2
    · subst h2
      go_enter Try.func26, Try.ntmps26
      go_wp2_with fail
      go_ret
      exact ⟨rfl, rfl⟩
    · by_cases h3 : k = 3
      · subst h3
        go_enter Try.func26, Try.ntmps26
        go_wp2_with fail
        go_ret
        exact ⟨rfl, rfl⟩
      · by_cases h4 : k = 4
        · subst h4
          go_enter Try.func26, Try.ntmps26
          go_wp2_with fail
          go_ret
          exact ⟨rfl, rfl⟩
        · have hn : needV k = .iface 64 (.agg #[]) := by unfold needV needT; rw [if_neg h1, if_neg h2, if_neg h3, if_neg h4]
          rw [hn]
          have h1' : ((k : Int) == 1) = false := beq_eq_false_iff_ne.2 (by omega)
          have h2' : ((k : Int) == 2) = false := beq_eq_false_iff_ne.2 (by omega)
          have h3' : ((k : Int) == 3) = false := beq_eq_false_iff_ne.2 (by omega)
          have h4' : ((k : Int) == 4) = false := beq_eq_false_iff_ne.2 (by omega)
          clear h1 h2 h3 h4 hn
          go_enter Try.func26, Try.ntmps26
          go_wp2_with fail
          go_ret
          exact ⟨rfl, rfl⟩

theorem need_one : needV 1 = .iface 56 (.agg #[]) := rfl
theorem need_two : needV 2 = .iface 58 (.agg #[]) := rfl
theorem need_three : needV 3 = .iface 59 (.agg #[]) := rfl
theorem need_four : needV 4 = .iface 61 (.agg #[]) := rfl
theorem need_none {k : Nat} (h : k < 1 ∨ 4 < k) : needV k = .iface 64 (.agg #[]) := by
  unfold needV needT
  rw [if_neg (by omega), if_neg (by omega), if_neg (by omega), if_neg (by omega)]

theorem whole_fault (k : Nat) (n : Int) (b : Nat) (t : ByteArray) (w : World) : Calls Try.prog 61 #[.agg #[], vv k n b t] w (Says w (.int .i64 (if n < -4611686018427387904 ∨ 4611686018427387904 < n then 8 else 0))) := by
  unfold vv
  by_cases h1 : n < -4611686018427387904
  · rw [if_pos (Or.inl h1)]
    go_enter Try.func61, Try.ntmps61
    go_wp2_with fail
    go_ret
    exact ⟨rfl, (Ext.alloc _ _).then_alloc _⟩
  · by_cases h2 : 4611686018427387904 < n
    · rw [if_pos (Or.inr h2)]
      go_enter Try.func61, Try.ntmps61
      go_wp2_with fail
      go_ret
      exact ⟨rfl, (Ext.alloc _ _).then_alloc _⟩
    · rw [if_neg (by omega)]
      go_enter Try.func61, Try.ntmps61
      go_wp2_with fail
      go_ret
      exact ⟨rfl, (Ext.alloc _ _).then_alloc _⟩

theorem flag_fault (k : Nat) (n : Int) (b : Nat) (t : ByteArray) (w : World) : Calls Try.prog 63 #[.agg #[], vv k n b t] w (Says w (.int .i64 (if n < 0 ∨ 1 < n then 8 else 0))) := by
  unfold vv
  by_cases h1 : n = 0
  · subst h1
    go_enter Try.func63, Try.ntmps63
    go_wp2_with fail
    go_ret
    exact ⟨rfl, (Ext.alloc _ _).then_alloc _⟩
  · by_cases h2 : n = 1
    · subst h2
      go_enter Try.func63, Try.ntmps63
      go_wp2_with fail
      go_ret
      exact ⟨rfl, (Ext.alloc _ _).then_alloc _⟩
    · rw [if_pos (by omega)]
      have h1' : (n != 0) = true := bne_iff_ne.2 h1
      have h2' : (n != 1) = true := bne_iff_ne.2 h2
      clear h1 h2
      go_enter Try.func63, Try.ntmps63
      go_wp2_with fail
      go_ret
      exact ⟨rfl, (Ext.alloc _ _).then_alloc _⟩

theorem double_fault (k : Nat) (n : Int) (b : Nat) (t : ByteArray) (w : World) (hb : b ≤ 18446744073709551615) : Calls Try.prog 65 #[.agg #[], vv k n b t] w (Says w (.int .i64 (if cleanZ b ≠ b then 4 else 0))) := by
  unfold vv
  have kc := fun W => clean_just b W hb
  generalize cleanZ b = c at *
  by_cases h1 : c = b
  · rw [if_neg (by omega)]
    have h1' : ((c : Int) != (b : Int)) = false := bne_eq_false_iff_eq.2 (by omega)
    clear h1
    go_enter Try.func65, Try.ntmps65
    go_wp2_with fail
    go_quiet (first | (go_at_call 67; refine Calls.quiet_of_same (kc _)))
    go_wp2_with fail
    go_ret
    exact Says.mk_int rfl (((Ext.alloc _ _).then_alloc _).trans (Ext.drewN _ _))
  · rw [if_pos h1]
    have h1' : ((c : Int) != (b : Int)) = true := bne_iff_ne.2 (by omega)
    clear h1
    go_enter Try.func65, Try.ntmps65
    go_wp2_with fail
    go_quiet (first | (go_at_call 67; refine Calls.quiet_of_same (kc _)))
    go_wp2_with fail
    go_ret
    exact Says.mk_int rfl (((Ext.alloc _ _).then_alloc _).trans (Ext.drewN _ _))

theorem text_fault (k : Nat) (n : Int) (b : Nat) (t : ByteArray) (w : World) (ht : t.size ≤ 9223372036854775807) : Calls Try.prog 70 #[.agg #[], vv k n b t] w (Says w (.int .i64 (if 24 < t.size then 5 else 0))) := by
  unfold vv
  by_cases h1 : 24 < t.size
  · rw [if_pos h1]
    have h1' : (24 : Int) < (t.size : Int) := by omega
    go_enter Try.func70, Try.ntmps70
    go_wp2_with fail
    go_ret
    exact ⟨rfl, (Ext.alloc _ _).then_alloc _⟩
  · rw [if_neg h1]
    have h1' : ¬ (24 : Int) < (t.size : Int) := by omega
    go_enter Try.func70, Try.ntmps70
    go_wp2_with fail
    go_ret
    exact ⟨rfl, (Ext.alloc _ _).then_alloc _⟩

theorem none_fault (k : Nat) (n : Int) (b : Nat) (t : ByteArray) (w : World) : Calls Try.prog 72 #[.agg #[], vv k n b t] w (Says w (.int .i64 11)) := by
  unfold vv
  go_enter Try.func72, Try.ntmps72
  go_wp2_with fail
  go_ret
  exact ⟨rfl, (Ext.alloc _ _).then_alloc _⟩

theorem whole_only (k : Nat) (n : Int) (b : Nat) (t : ByteArray) (w : World) : Calls Try.prog 62 #[.agg #[], vv k n b t] w (Says w (vv 1 n 0 noText)) := by
  unfold vv
  go_enter Try.func62, Try.ntmps62
  go_wp2_with fail
  exact bodyPost_ret (v := vv 1 n 0 noText) (by simp [results, vv, noText, Try.results62, go_sem]) rfl ⟨rfl, ((Ext.alloc _ _).then_alloc _).then_alloc _⟩

theorem flag_only (k : Nat) (n : Int) (b : Nat) (t : ByteArray) (w : World) : Calls Try.prog 64 #[.agg #[], vv k n b t] w (Says w (vv 2 n 0 noText)) := by
  unfold vv
  go_enter Try.func64, Try.ntmps64
  go_wp2_with fail
  exact bodyPost_ret (v := vv 2 n 0 noText) (by simp [results, vv, noText, Try.results64, go_sem]) rfl ⟨rfl, ((Ext.alloc _ _).then_alloc _).then_alloc _⟩

theorem double_only (k : Nat) (n : Int) (b : Nat) (t : ByteArray) (w : World) : Calls Try.prog 66 #[.agg #[], vv k n b t] w (Says w (vv 3 0 b noText)) := by
  unfold vv
  go_enter Try.func66, Try.ntmps66
  go_wp2_with fail
  exact bodyPost_ret (v := vv 3 0 b noText) (by simp [results, vv, noText, Try.results66, go_sem]) rfl ⟨rfl, ((Ext.alloc _ _).then_alloc _).then_alloc _⟩

theorem text_only (k : Nat) (n : Int) (b : Nat) (t : ByteArray) (w : World) : Calls Try.prog 71 #[.agg #[], vv k n b t] w (Says w (vv 4 0 0 t)) := by
  unfold vv
  go_enter Try.func71, Try.ntmps71
  go_wp2_with fail
  exact bodyPost_ret (v := vv 4 0 0 t) (by simp [results, vv, Try.results71, go_sem]) rfl ⟨rfl, ((Ext.alloc _ _).then_alloc _).then_alloc _⟩

set_option maxHeartbeats 400000 in
theorem vofint_any (n : Int) (w : World) (hn0 : -9223372036854775808 ≤ n) (hn1 : n ≤ 9223372036854775807) : Calls Try.prog 23 #[.int .i64 n] w (Says w (ofIntV n).v) := by
  have hr : (ofIntV n).v = vv 1 (max (-4611686018427387904) (min 4611686018427387904 n)) 0 noText := rfl
  rw [hr]
  clear hr
  go_enter Try.func23, Try.ntmps23
  go_wp2
  all_goals first
    | exact bodyPost_ret (v := vv 1 4611686018427387904 0 noText) (by simp [results, vv, noText, Try.results23, go_sem]) rfl ⟨by rw [show max (-4611686018427387904) (min 4611686018427387904 n) = 4611686018427387904 by omega], Ext.alloc _ _⟩
    | exact bodyPost_ret (v := vv 1 (-4611686018427387904) 0 noText) (by simp [results, vv, noText, Try.results23, go_sem]) rfl ⟨by rw [show max (-4611686018427387904) (min 4611686018427387904 n) = -4611686018427387904 by omega], Ext.alloc _ _⟩
    | exact bodyPost_ret (v := vv 1 n 0 noText) (by simp [results, vv, noText, Try.results23, go_sem]) rfl ⟨by rw [show max (-4611686018427387904) (min 4611686018427387904 n) = n by omega], Ext.alloc _ _⟩

end Go.Proofs.Ytbgapkhcaideiaa
