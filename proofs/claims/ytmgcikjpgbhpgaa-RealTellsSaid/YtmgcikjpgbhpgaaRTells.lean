/- RealTells, RealAdds, RealWhole: the walks. -/
import Derived.Test.YtmgcikjpgbhpgaaRAwk
namespace Go.Proofs.Ytmgcikjpgbhpgaa
open Go Go.RowKit

set_option maxRecDepth 100000 in
set_option maxHeartbeats 1600000 in
theorem tells_any (a b : Nat) (w : World) (ha : a ≤ 18446744073709551615) (hb : b ≤ 18446744073709551615) : Calls Try.prog 3 #[.int .u64 (a : Int), .int .u64 (b : Int)] w (Says w (.bool true)) := by
  have k1 := fun W => kind_any a W ha
  have k2 := fun W => rkind_any a W ha
  have c1 := fun W => clean_any a W ha
  have c2 := fun W => rclean_any a W ha
  have r1 := fun W => rank_any a W ha
  have r2 := fun W => rrank_any a W ha
  have n1 := fun W => neg_any a W ha
  have n2 := fun W => rneg_any a W ha
  have l1 := fun W => less_any a b W ha hb
  have l2 := fun W => rless_any a b W ha hb
  have e1 := fun W => equal_any a b W ha hb
  have e2 := fun W => requal_any a b W ha hb
  generalize kindZ a = k at *
  generalize cleanZ a = c at *
  generalize rankZ a = r at *
  generalize negZ a = n at *
  generalize lessZ a b = l at *
  generalize equalZ a b = q at *
  have HX := hid (Ext.refl w)
  go_enter Try.func3, Try.ntmps3
  go_wp2_with (first | ((with_reducible show Calls _ 9 #[.int .u64 (a : Int)] _ _); refine (k1 _).mono ?_; rintro e w1 ⟨rfl, hx⟩; replace HX := hid (HX.out.trans hx); clear hx) | ((with_reducible show Calls _ 10 #[.int .u64 (a : Int)] _ _); refine (k2 _).mono ?_; rintro e w1 ⟨rfl, rfl⟩) | ((with_reducible show Calls _ 11 #[.int .u64 (a : Int)] _ _); refine (c1 _).mono ?_; rintro e w1 ⟨rfl, hx⟩; replace HX := hid (HX.out.trans hx); clear hx) | ((with_reducible show Calls _ 12 #[.int .u64 (a : Int)] _ _); refine (c2 _).mono ?_; rintro e w1 ⟨rfl, rfl⟩) | ((with_reducible show Calls _ 13 #[.int .u64 (a : Int)] _ _); refine (r1 _).mono ?_; rintro e w1 ⟨rfl, hx⟩; replace HX := hid (HX.out.trans hx); clear hx) | ((with_reducible show Calls _ 14 #[.int .u64 (a : Int)] _ _); refine (r2 _).mono ?_; rintro e w1 ⟨rfl, rfl⟩) | ((with_reducible show Calls _ 15 #[.int .u64 (a : Int)] _ _); refine (n1 _).mono ?_; rintro e w1 ⟨rfl, hx⟩; replace HX := hid (HX.out.trans hx); clear hx) | ((with_reducible show Calls _ 16 #[.int .u64 (a : Int)] _ _); refine (n2 _).mono ?_; rintro e w1 ⟨rfl, rfl⟩) | ((with_reducible show Calls _ 17 #[.int .u64 (a : Int), .int .u64 (b : Int)] _ _); refine (l1 _).mono ?_; rintro e w1 ⟨rfl, hx⟩; replace HX := hid (HX.out.trans hx); clear hx) | ((with_reducible show Calls _ 18 #[.int .u64 (a : Int), .int .u64 (b : Int)] _ _); refine (l2 _).mono ?_; rintro e w1 ⟨rfl, rfl⟩) | ((with_reducible show Calls _ 19 #[.int .u64 (a : Int), .int .u64 (b : Int)] _ _); refine (e1 _).mono ?_; rintro e w1 ⟨rfl, hx⟩; replace HX := hid (HX.out.trans hx); clear hx) | ((with_reducible show Calls _ 20 #[.int .u64 (a : Int), .int .u64 (b : Int)] _ _); refine (e2 _).mono ?_; rintro e w1 ⟨rfl, rfl⟩) | ((with_reducible show Calls _ 21 _ _ _); refine (awake_any _).mono ?_; rintro e w1 ⟨rfl, hx⟩; replace HX := hid (HX.out.trans hx); clear hx))
  go_ret
  exact ⟨rfl, HX.out⟩

end Go.Proofs.Ytmgcikjpgbhpgaa
