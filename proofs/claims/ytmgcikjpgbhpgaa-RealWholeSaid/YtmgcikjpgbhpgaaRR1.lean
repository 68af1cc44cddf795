/- The document's doubles, by their contracts: what they are, ranks, order, signs. Conditions: none. -/
import Derived.Test.YtmgcikjpgbhpgaaSay
import Derived.Test.YtmgcikjpgbhpgaaRRnd
import Derived.Test.YtmgcikjpgbhpgaaBits
namespace Go.Proofs.Ytmgcikjpgbhpgaa
open Go Go.RowKit

set_option maxHeartbeats 400000 in
theorem rexp_any (u : Nat) (w : World) (hu : u ≤ 18446744073709551615) : Calls Try.prog 30 #[.int .u64 (u : Int)] w (Just w (.int .i64 (exZ u : Int))) := by
  go_enter Try.func30, Try.ntmps30
  go_wp2_with fail
  go_ret
  exact Just.mk_int (by unfold exZ; omega)

set_option maxHeartbeats 400000 in
theorem rfrac_any (u : Nat) (w : World) (hu : u ≤ 18446744073709551615) : Calls Try.prog 31 #[.int .u64 (u : Int)] w (Just w (.int .u64 (frZ u : Int))) := by
  go_enter Try.func31, Try.ntmps31
  go_wp2_with fail
  go_ret
  exact Just.mk_int (by unfold frZ; omega)

set_option maxHeartbeats 400000 in
theorem rsign_any (u : Nat) (w : World) : Calls Try.prog 33 #[.int .u64 (u : Int)] w (Just w (.bool (sgZ u))) := by
  go_enter Try.func33, Try.ntmps33
  go_wp2_with fail
  go_ret
  refine Just.mk_bool ?_
  unfold sgZ
  exact decide_eq_decide.2 (by omega)

set_option maxHeartbeats 400000 in
theorem rkind_any (u : Nat) (w : World) (hu : u ≤ 18446744073709551615) : Calls Try.prog 10 #[.int .u64 (u : Int)] w (Just w (.int .u8 (kindZ u : Int))) := by
  have h1 := fun W => rexp_any u W hu
  have h2 := fun W => rfrac_any u W hu
  have hx := ex_lt u
  have hf := fr_lt u
  have hk : kindZ u = if exZ u = 2047 ∧ frZ u ≠ 0 then 5 else if exZ u = 2047 then 4 else if exZ u ≠ 0 then 3 else if frZ u ≠ 0 then 2 else 1 := rfl
  generalize exZ u = x at *
  generalize frZ u = f at *
  have HK := hid hk
  clear hk
  by_cases hx1 : x = 2047 <;> by_cases hf1 : f = 0 <;> by_cases hx0 : x = 0
  all_goals first
    | (exfalso; omega)
    | (go_enter Try.func10, Try.ntmps10
       go_wp2_with (first | ((with_reducible show Calls _ 30 _ _ _); refine (h1 _).mono ?_; rintro e w1 ⟨rfl, rfl⟩) | ((with_reducible show Calls _ 31 _ _ _); refine (h2 _).mono ?_; rintro e w1 ⟨rfl, rfl⟩))
       go_ret
       exact Just.mk_int (by rw [HK.out]; (repeat' split) <;> omega))

theorem kind_le (u : Nat) : kindZ u ≤ 5 := by unfold kindZ; (repeat' split) <;> omega

end Go.Proofs.Ytmgcikjpgbhpgaa
