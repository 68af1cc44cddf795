/- The document's doubles, by their contracts: what they are, ranks, order, signs. Conditions: none. -/
import Derived.Test.YtggafdimbddflaaBase
import Derived.Laws.BitsAllLaws
import Derived.Laws.Bits128
namespace Go.Proofs.Ytggafdimbddflaa
open Go Go.RowKit

set_option maxHeartbeats 400000 in
theorem rexp_any (u : Nat) (w : World) (hu : u ≤ 18446744073709551615) : Calls Try.prog 67 #[.int .u64 (u : Int)] w (Just w (.int .i64 (exZ u : Int))) := by
  go_enter Try.func67, Try.ntmps67
  go_wp2_with fail
  go_ret
  exact Just.mk_int (by unfold exZ; omega)

set_option maxHeartbeats 400000 in
theorem rfrac_any (u : Nat) (w : World) (hu : u ≤ 18446744073709551615) : Calls Try.prog 68 #[.int .u64 (u : Int)] w (Just w (.int .u64 (frZ u : Int))) := by
  go_enter Try.func68, Try.ntmps68
  go_wp2_with fail
  go_ret
  exact Just.mk_int (by unfold frZ; omega)

set_option maxHeartbeats 400000 in
theorem rkind_any (u : Nat) (w : World) (hu : u ≤ 18446744073709551615) : Calls Try.prog 64 #[.int .u64 (u : Int)] w (Just w (.int .u8 (kindZ u : Int))) := by
  have h1 := fun W => rexp_any u W hu
  have h2 := fun W => rfrac_any u W hu
  have hx := ex_lt u
  have hf := fr_lt u
  have hk : kindZ u = if exZ u = 2047 ∧ frZ u ≠ 0 then 5 else if exZ u = 2047 then 4 else if exZ u ≠ 0 then 3 else if frZ u ≠ 0 then 2 else 1 := rfl
  generalize exZ u = x at *
  generalize frZ u = f at *
  have HK := hid hk
  clear hk
  by_cases hx1 : x = 2047 <;> by_cases hf1 : f = 0 <;> by_cases hx0 : x = 0
  all_goals first
    | (exfalso; omega)
    | (go_enter Try.func64, Try.ntmps64
       go_wp2_with (first | ((with_reducible show Calls _ 67 _ _ _); refine (h1 _).mono ?_; rintro e w1 ⟨rfl, rfl⟩) | ((with_reducible show Calls _ 68 _ _ _); refine (h2 _).mono ?_; rintro e w1 ⟨rfl, rfl⟩))
       go_ret
       exact Just.mk_int (by rw [HK.out]; (repeat' split) <;> omega))

theorem kind_le (u : Nat) : kindZ u ≤ 5 := by unfold kindZ; (repeat' split) <;> omega

set_option maxHeartbeats 400000 in
theorem rclean_any (u : Nat) (w : World) (hu : u ≤ 18446744073709551615) : Calls Try.prog 58 #[.int .u64 (u : Int)] w (Just w (.int .u64 (cleanZ u : Int))) := by
  have h1 := fun W => rkind_any u W hu
  have hk5 := kind_le u
  have hc : cleanZ u = if kindZ u = 5 then 9221120237041090560 else u := rfl
  generalize kindZ u = k at *
  have HC := hid hc
  clear hc
  by_cases hk : k = 5
  all_goals
    go_enter Try.func58, Try.ntmps58
    go_wp2_with ((with_reducible show Calls _ 64 _ _ _); refine (h1 _).mono ?_; rintro e w1 ⟨rfl, rfl⟩)
    go_ret
    exact Just.mk_int (by rw [HC.out]; split <;> omega)

end Go.Proofs.Ytggafdimbddflaa
