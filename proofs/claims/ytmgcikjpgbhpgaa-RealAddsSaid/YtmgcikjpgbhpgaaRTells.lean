/- RealTells, RealAdds, RealWhole: the walks. -/
import Derived.Test.YtmgcikjpgbhpgaaRAwk
namespace Go.Proofs.Ytmgcikjpgbhpgaa
open Go Go.RowKit

set_option maxHeartbeats 800000 in
theorem adds_any (a b : Nat) (w : World) (ha : a ≤ 18446744073709551615) (hb : b ≤ 18446744073709551615) : Calls Try.prog 4 #[.int .u64 (a : Int), .int .u64 (b : Int)] w (Says w (.bool true)) := by
  have k1 := fun W => add_any a b W ha hb
  have k2 := fun W => radd_any a b W ha hb
  generalize addZ a b = k at *
  have HX := hid (Ext.refl w)
  go_enter Try.func4, Try.ntmps4
  go_wp2_with (first | ((with_reducible show Calls _ 22 #[.int .u64 (a : Int), .int .u64 (b : Int)] _ _); refine (k1 _).mono ?_; rintro e w1 ⟨rfl, hx⟩; replace HX := hid (HX.out.trans hx); clear hx) | ((with_reducible show Calls _ 23 #[.int .u64 (a : Int), .int .u64 (b : Int)] _ _); refine (k2 _).mono ?_; rintro e w1 ⟨rfl, rfl⟩) | ((with_reducible show Calls _ 21 _ _ _); refine (awake_any _).mono ?_; rintro e w1 ⟨rfl, hx⟩; replace HX := hid (HX.out.trans hx); clear hx))
  go_ret
  exact ⟨rfl, HX.out⟩

end Go.Proofs.Ytmgcikjpgbhpgaa
