/- The landed program's Rank, by its contract; how its switch over types goes. Conditions: numbers within their kinds. -/
import Derived.Test.YtaahaehgdamkdaaVV1
import Derived.Test.YtaahaehgdamkdaaBase
import Derived.BigQuiet
namespace Go.Proofs.Ytaahaehgdamkdaa
open Go Go.RowKit

theorem as_whole_whole (w : World) : (Instr.typeAssert (.iface 84 (.agg #[])) 66 84 true).run Try.prog w = .ok (.tuple #[.agg #[], .bool true]) w := by kernel_rfl
theorem as_whole_flag (w : World) : (Instr.typeAssert (.iface 84 (.agg #[])) 66 85 true).run Try.prog w = .ok (.tuple #[.agg #[], .bool false]) w := by kernel_rfl
theorem as_whole_double (w : World) : (Instr.typeAssert (.iface 84 (.agg #[])) 66 86 true).run Try.prog w = .ok (.tuple #[.agg #[], .bool false]) w := by kernel_rfl
theorem as_whole_text (w : World) : (Instr.typeAssert (.iface 84 (.agg #[])) 66 87 true).run Try.prog w = .ok (.tuple #[.agg #[], .bool false]) w := by kernel_rfl
theorem as_flag_whole (w : World) : (Instr.typeAssert (.iface 85 (.agg #[])) 66 84 true).run Try.prog w = .ok (.tuple #[.agg #[], .bool false]) w := by kernel_rfl
theorem as_flag_flag (w : World) : (Instr.typeAssert (.iface 85 (.agg #[])) 66 85 true).run Try.prog w = .ok (.tuple #[.agg #[], .bool true]) w := by kernel_rfl
theorem as_flag_double (w : World) : (Instr.typeAssert (.iface 85 (.agg #[])) 66 86 true).run Try.prog w = .ok (.tuple #[.agg #[], .bool false]) w := by kernel_rfl
theorem as_flag_text (w : World) : (Instr.typeAssert (.iface 85 (.agg #[])) 66 87 true).run Try.prog w = .ok (.tuple #[.agg #[], .bool false]) w := by kernel_rfl
theorem as_double_whole (w : World) : (Instr.typeAssert (.iface 86 (.agg #[])) 66 84 true).run Try.prog w = .ok (.tuple #[.agg #[], .bool false]) w := by kernel_rfl
theorem as_double_flag (w : World) : (Instr.typeAssert (.iface 86 (.agg #[])) 66 85 true).run Try.prog w = .ok (.tuple #[.agg #[], .bool false]) w := by kernel_rfl
theorem as_double_double (w : World) : (Instr.typeAssert (.iface 86 (.agg #[])) 66 86 true).run Try.prog w = .ok (.tuple #[.agg #[], .bool true]) w := by kernel_rfl
theorem as_double_text (w : World) : (Instr.typeAssert (.iface 86 (.agg #[])) 66 87 true).run Try.prog w = .ok (.tuple #[.agg #[], .bool false]) w := by kernel_rfl
theorem as_text_whole (w : World) : (Instr.typeAssert (.iface 87 (.agg #[])) 66 84 true).run Try.prog w = .ok (.tuple #[.agg #[], .bool false]) w := by kernel_rfl
theorem as_text_flag (w : World) : (Instr.typeAssert (.iface 87 (.agg #[])) 66 85 true).run Try.prog w = .ok (.tuple #[.agg #[], .bool false]) w := by kernel_rfl
theorem as_text_double (w : World) : (Instr.typeAssert (.iface 87 (.agg #[])) 66 86 true).run Try.prog w = .ok (.tuple #[.agg #[], .bool false]) w := by kernel_rfl
theorem as_text_text (w : World) : (Instr.typeAssert (.iface 87 (.agg #[])) 66 87 true).run Try.prog w = .ok (.tuple #[.agg #[], .bool true]) w := by kernel_rfl
theorem as_none_whole (w : World) : (Instr.typeAssert (.iface 88 (.agg #[])) 66 84 true).run Try.prog w = .ok (.tuple #[.agg #[], .bool false]) w := by kernel_rfl
theorem as_none_flag (w : World) : (Instr.typeAssert (.iface 88 (.agg #[])) 66 85 true).run Try.prog w = .ok (.tuple #[.agg #[], .bool false]) w := by kernel_rfl
theorem as_none_double (w : World) : (Instr.typeAssert (.iface 88 (.agg #[])) 66 86 true).run Try.prog w = .ok (.tuple #[.agg #[], .bool false]) w := by kernel_rfl
theorem as_none_text (w : World) : (Instr.typeAssert (.iface 88 (.agg #[])) 66 87 true).run Try.prog w = .ok (.tuple #[.agg #[], .bool false]) w := by kernel_rfl

theorem nanb_just (a : Int) (w : World) : Calls Try.prog 90 #[.int .u8 a] w (Just w (.bool false)) := by
  go_enter Try.func90, Try.ntmps90
  go_wp2
  go_ret
  exact Just.mk_bool (by simp)
theorem nanu_just (a : Int) (w : World) : Calls Try.prog 91 #[.int .u64 a] w (Just w (.bool false)) := by
  go_enter Try.func91, Try.ntmps91
  go_wp2
  go_ret
  exact Just.mk_bool (by simp)
theorem nans_just (a : ByteArray) (w : World) : Calls Try.prog 92 #[.string a] w (Just w (.bool false)) := by
  go_enter Try.func92, Try.ntmps92
  go_wp2
  go_ret
  exact Just.mk_bool (by simp)

set_option maxHeartbeats 400000 in
theorem cmpb_just (x y : Int) (w : World) : Calls Try.prog 78 #[.int .u8 x, .int .u8 y] w (Just w (.int .i64 (cmpI x y))) := by
  have k := nanb_just
  go_enter Try.func78, Try.ntmps78
  go_wp2_with ((with_reducible show Calls _ 90 _ _ _); refine (k _ _).mono ?_; rintro e w1 ⟨rfl, rfl⟩)
  all_goals go_ret
  all_goals refine Just.mk_int ?_
  all_goals unfold cmpI
  all_goals ((repeat' split) <;> first | rfl | (exfalso; omega))
set_option maxHeartbeats 400000 in
theorem cmpu_just (x y : Int) (w : World) : Calls Try.prog 79 #[.int .u64 x, .int .u64 y] w (Just w (.int .i64 (cmpI x y))) := by
  have k := nanu_just
  go_enter Try.func79, Try.ntmps79
  go_wp2_with ((with_reducible show Calls _ 91 _ _ _); refine (k _ _).mono ?_; rintro e w1 ⟨rfl, rfl⟩)
  all_goals go_ret
  all_goals refine Just.mk_int ?_
  all_goals unfold cmpI
  all_goals ((repeat' split) <;> first | rfl | (exfalso; omega))
set_option maxHeartbeats 400000 in
theorem cmps_just (t u : ByteArray) (w : World) : Calls Try.prog 81 #[.string t, .string u] w (Just w (.int .i64 (cmpT t u))) := by
  have k := nans_just
  have hg := less_gt t.toList u.toList
  rcases cmpT_cases t u with ⟨h1, h2, h3, h4⟩ | ⟨h1, h2, h3, h4⟩ | ⟨h1, h2, h3, h4⟩
  all_goals
    rw [h2] at hg
    have hg2 := hg.symm
    rw [h4]
    clear h3 h4 hg
    go_enter Try.func81, Try.ntmps81
    go_wp2_with ((with_reducible show Calls _ 92 _ _ _); refine (k _ _).mono ?_; rintro e w1 ⟨rfl, rfl⟩)
    all_goals go_ret
    all_goals exact Just.mk_int (by first | rfl | (exfalso; simp_all))

set_option maxHeartbeats 1000000 in
theorem vrank_apart (k : Nat) (n : Int) (b : Nat) (t : ByteArray) (l : Nat) (m : Int) (c : Nat) (u : ByteArray) (w : World) (h : k ≠ l) :
    Calls Try.prog 53 #[vv k n b t, vv l m c u] w (Says w (.int .i64 (rankV k n b t l m c u))) := by
  have hr : rankV k n b t l m c u = cmpI (k : Int) (l : Int) := by
    unfold rankV cmpI
    rw [if_pos h]
    by_cases h2 : k < l
    · rw [if_pos h2, if_pos (by omega)]
    · rw [if_neg h2, if_neg (by omega), if_neg (by omega)]
  rw [hr]
  have hb : ((k : Int) != (l : Int)) = true := bne_iff_ne.2 (by omega)
  have kc := fun W => cmpb_just (k : Int) (l : Int) W
  generalize cmpI (k : Int) (l : Int) = R at *
  unfold vv
  clear hr h
  go_enter Try.func53, Try.ntmps53
  go_wp2_with ((with_reducible show Calls _ 78 _ _ _); refine (kc _).mono ?_; rintro e w1 ⟨rfl, rfl⟩)
  go_ret
  exact ⟨rfl, (Ext.alloc _ _).then_alloc _⟩

set_option maxRecDepth 100000 in
set_option maxHeartbeats 1000000 in
theorem vrank_whole (n : Int) (b : Nat) (t : ByteArray) (m : Int) (c : Nat) (u : ByteArray) (w : World) :
    Calls Try.prog 53 #[.agg #[.int .u8 1, .int .i64 n, .int .u64 (b : Int), .string t], .agg #[.int .u8 1, .int .i64 m, .int .u64 (c : Int), .string u]] w (Says w (.int .i64 (cmpI n m))) := by
  have kn := fun W => need_any 1 W
  rw [need_one] at kn
  have a0 := as_whole_whole
  have a1 := as_whole_flag
  have a2 := as_whole_double
  have a3 := as_whole_text
  have kc := fun W => cmpi_just n m W
  generalize cmpI n m = R at *
  go_enter Try.func53, Try.ntmps53
  go_wp2_with (first | ((with_reducible show Calls _ 48 _ _ _); refine (kn _).mono ?_; rintro e w1 ⟨rfl, rfl⟩) | ((with_reducible show Calls _ 75 _ _ _); refine (kc _).mono ?_; rintro e w1 ⟨rfl, rfl⟩))
  go_ret
  exact ⟨rfl, (Ext.alloc _ _).then_alloc _⟩

set_option maxRecDepth 100000 in
set_option maxHeartbeats 1000000 in
theorem vrank_flag (n : Int) (b : Nat) (t : ByteArray) (m : Int) (c : Nat) (u : ByteArray) (w : World) :
    Calls Try.prog 53 #[.agg #[.int .u8 2, .int .i64 n, .int .u64 (b : Int), .string t], .agg #[.int .u8 2, .int .i64 m, .int .u64 (c : Int), .string u]] w (Says w (.int .i64 (cmpI n m))) := by
  have kn := fun W => need_any 2 W
  rw [need_two] at kn
  have a0 := as_flag_whole
  have a1 := as_flag_flag
  have a2 := as_flag_double
  have a3 := as_flag_text
  have kc := fun W => cmpi_just n m W
  generalize cmpI n m = R at *
  go_enter Try.func53, Try.ntmps53
  go_wp2_with (first | ((with_reducible show Calls _ 48 _ _ _); refine (kn _).mono ?_; rintro e w1 ⟨rfl, rfl⟩) | ((with_reducible show Calls _ 75 _ _ _); refine (kc _).mono ?_; rintro e w1 ⟨rfl, rfl⟩))
  go_ret
  exact ⟨rfl, (Ext.alloc _ _).then_alloc _⟩

set_option maxRecDepth 100000 in
set_option maxHeartbeats 1000000 in
theorem vrank_text (n : Int) (b : Nat) (t : ByteArray) (m : Int) (c : Nat) (u : ByteArray) (w : World) :
    Calls Try.prog 53 #[.agg #[.int .u8 4, .int .i64 n, .int .u64 (b : Int), .string t], .agg #[.int .u8 4, .int .i64 m, .int .u64 (c : Int), .string u]] w (Says w (.int .i64 (cmpT t u))) := by
  have kn := fun W => need_any 4 W
  rw [need_four] at kn
  have a0 := as_text_whole
  have a1 := as_text_flag
  have a2 := as_text_double
  have a3 := as_text_text
  have kc := fun W => cmps_just t u W
  generalize cmpT t u = R at *
  go_enter Try.func53, Try.ntmps53
  go_wp2_with (first | ((with_reducible show Calls _ 48 _ _ _); refine (kn _).mono ?_; rintro e w1 ⟨rfl, rfl⟩) | ((with_reducible show Calls _ 81 _ _ _); refine (kc _).mono ?_; rintro e w1 ⟨rfl, rfl⟩))
  go_ret
  exact ⟨rfl, (Ext.alloc _ _).then_alloc _⟩

set_option maxRecDepth 100000 in
set_option maxHeartbeats 1000000 in
theorem vrank_none_any (k : Nat) (n : Int) (b : Nat) (t : ByteArray) (m : Int) (c : Nat) (u : ByteArray) (w : World) (hk : k < 1 ∨ 4 < k) :
    Calls Try.prog 53 #[.agg #[.int .u8 (k : Int), .int .i64 n, .int .u64 (b : Int), .string t], .agg #[.int .u8 (k : Int), .int .i64 m, .int .u64 (c : Int), .string u]] w (Says w (.int .i64 (0))) := by
  have kn := fun W => need_any k W
  rw [need_none hk] at kn
  have a0 := as_none_whole
  have a1 := as_none_flag
  have a2 := as_none_double
  have a3 := as_none_text
  clear hk
  go_enter Try.func53, Try.ntmps53
  go_wp2_with ((with_reducible show Calls _ 48 _ _ _); refine (kn _).mono ?_; rintro e w1 ⟨rfl, rfl⟩)
  go_ret
  exact ⟨rfl, (Ext.alloc _ _).then_alloc _⟩

set_option maxRecDepth 100000 in
set_option maxHeartbeats 2000000 in
theorem vrank_double (n : Int) (b : Nat) (t : ByteArray) (m : Int) (c : Nat) (u : ByteArray) (w : World) (hb : b ≤ 18446744073709551615) (hc : c ≤ 18446744073709551615) :
    Calls Try.prog 53 #[.agg #[.int .u8 3, .int .i64 n, .int .u64 (b : Int), .string t], .agg #[.int .u8 3, .int .i64 m, .int .u64 (c : Int), .string u]] w (Says w (.int .i64 (cmpI (rankZ b : Int) (rankZ c : Int)))) := by
  have kn := fun W => need_any 3 W
  rw [need_three] at kn
  have a0 := as_double_whole
  have a1 := as_double_flag
  have a2 := as_double_double
  have a3 := as_double_text
  go_enter Try.func53, Try.ntmps53
  go_wp2_with ((with_reducible show Calls _ 48 _ _ _); refine (kn _).mono ?_; rintro e w1 ⟨rfl, rfl⟩)
  go_quiet (first | (go_at_call 80; refine Calls.quiet_of_same (rank_just _ _ (by assumption))) | (go_at_call 79; refine Calls.quiet_of_same (cmpu_just _ _ _)))
  go_wp2_with fail
  go_ret
  exact Says.mk_int rfl (((Ext.alloc _ _).then_alloc _).trans (Ext.drewN _ _))

theorem vrank_any (k : Nat) (n : Int) (b : Nat) (t : ByteArray) (l : Nat) (m : Int) (c : Nat) (u : ByteArray) (w : World) (hk : k ≤ 255) (hl : l ≤ 255) (_hn0 : -9223372036854775808 ≤ n) (_hn1 : n ≤ 9223372036854775807) (_hm0 : -9223372036854775808 ≤ m) (_hm1 : m ≤ 9223372036854775807) (hb : b ≤ 18446744073709551615) (hc : c ≤ 18446744073709551615) (_ht : t.size ≤ 9223372036854775807) (_hu : u.size ≤ 9223372036854775807) :
    Calls Try.prog 53 #[vv k n b t, vv l m c u] w (Says w (.int .i64 (rankV k n b t l m c u))) := by
  by_cases h : k = l
  · subst h
    by_cases h1 : k < 1 ∨ 4 < k
    · have e : rankV k n b t k m c u = 0 := by
        unfold rankV
        rw [if_neg (fun h => h rfl), if_neg (by omega), if_neg (by omega), if_neg (by omega)]
      rw [e]
      exact vrank_none_any k n b t m c u w h1
    · have : k = 1 ∨ k = 2 ∨ k = 3 ∨ k = 4 := by omega
      rcases this with rfl | rfl | rfl | rfl
      · exact vrank_whole n b t m c u w
      · exact vrank_flag n b t m c u w
      · exact vrank_double n b t m c u w hb hc
      · exact vrank_text n b t m c u w
  · exact vrank_apart k n b t l m c u w h
end Go.Proofs.Ytaahaehgdamkdaa
