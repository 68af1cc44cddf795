/- RealTells, RealAdds, RealWhole: the walks. -/
import Derived.Test.YtmgcikjpgbhpgaaRAwk
namespace Go.Proofs.Ytmgcikjpgbhpgaa
open Go Go.RowKit

set_option maxRecDepth 100000 in
set_option maxHeartbeats 1600000 in
theorem whole_law (n : Int) (u : Nat) (w : World) (h0 : -9223372036854775808 ≤ n) (h1 : n ≤ 9223372036854775807) (hu : u ≤ 18446744073709551615) : Calls Try.prog 5 #[.int .i64 n, .int .u64 (u : Int)] w (Says w (.bool true)) := by
  have k1 := fun W => whole_any u W hu
  have k2 := fun W => rwhole_any u W hu
  have v1 := fun W => versus_any n u W h0 h1 hu
  have v2 := fun W => rversus_any n u W h0 h1 hu
  have i1 := fun W => ofint_any n W h0 h1
  have i2 := fun W => rofint_any n W h0 h1
  generalize wholeZ u = k at *
  generalize versusZ n u = v at *
  generalize intZ n = i at *
  obtain ⟨ka, kb⟩ := k
  obtain ⟨va, vb⟩ := v
  have HX := hid (Ext.refl w)
  go_enter Try.func5, Try.ntmps5
  go_wp2_with (first | ((with_reducible show Calls _ 24 _ _ _); refine (k1 _).mono ?_; rintro e w1 ⟨rfl, hx⟩; replace HX := hid (HX.out.trans hx); clear hx) | ((with_reducible show Calls _ 25 _ _ _); refine (k2 _).mono ?_; rintro e w1 ⟨rfl, rfl⟩) | ((with_reducible show Calls _ 26 _ _ _); refine (v1 _).mono ?_; rintro e w1 ⟨rfl, hx⟩; replace HX := hid (HX.out.trans hx); clear hx) | ((with_reducible show Calls _ 27 _ _ _); refine (v2 _).mono ?_; rintro e w1 ⟨rfl, rfl⟩) | ((with_reducible show Calls _ 28 _ _ _); refine (i1 _).mono ?_; rintro e w1 ⟨rfl, hx⟩; replace HX := hid (HX.out.trans hx); clear hx) | ((with_reducible show Calls _ 29 _ _ _); refine (i2 _).mono ?_; rintro e w1 ⟨rfl, rfl⟩) | ((with_reducible show Calls _ 21 _ _ _); refine (awake_any _).mono ?_; rintro e w1 ⟨rfl, hx⟩; replace HX := hid (HX.out.trans hx); clear hx))
  go_ret
  exact ⟨rfl, HX.out⟩
end Go.Proofs.Ytmgcikjpgbhpgaa
