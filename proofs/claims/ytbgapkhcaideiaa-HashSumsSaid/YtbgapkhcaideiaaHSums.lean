/- telltalelaw08.HashSums answers true. Conditions: the reach of a text. -/
import Derived.Test.YtbgapkhcaideiaaHAwk
namespace Go.Proofs.Ytbgapkhcaideiaa
open Go Go.RowKit

set_option maxRecDepth 100000 in
set_option maxHeartbeats 1000000 in
theorem hsums_any (u : Nat) (s : ByteArray) (w : World) (hu : u ≤ 18446744073709551615) (hs : s.size ≤ 9223372036854775807) : Calls Try.prog 3 #[.int .u64 (u : Int), .string s] w (Says w (.bool true)) := by
  by_cases h3 : 300 < s.size
  · have h3' : (300 : Int) < (s.size : Int) := by omega
    go_enter Try.func3, Try.ntmps3
    go_wp2_with ((with_reducible show Calls _ 7 _ _ _); refine (hawake_any _).mono ?_; rintro e w1 ⟨rfl, hx⟩)
    go_ret
    exact ⟨rfl, hx⟩
  · have h3' : ¬ (300 : Int) < (s.size : Int) := by omega
    have k1 := fun W => add_any u s W hu hs
    have k2 := fun W => radd_any u s W hu hs
    have k3 := fun W => hsum_any s W hs
    have k4 := fun W => radd_any 14695981039346656037 s W (by decide) hs
    have k5 := fun W => mix_any u W hu
    have k6 := fun W => rmix_any u W hu
    generalize addH u s.data.toList = A at *
    generalize addH 14695981039346656037 s.data.toList = B at *
    generalize mixH u = C at *
    clear hu hs h3
    go_enter Try.func3, Try.ntmps3
    go_wp2_with (first
      | ((with_reducible show Calls _ 8 _ _ _); refine (k1 _).mono ?_; rintro e w1 ⟨rfl, rfl⟩)
      | ((with_reducible show Calls _ 9 #[.int .u64 (u : Int), _] _ _); refine (k2 _).mono ?_; rintro e w1 ⟨rfl, rfl⟩)
      | ((with_reducible show Calls _ 10 _ _ _); refine (k3 _).mono ?_; rintro e w1 ⟨rfl, rfl⟩)
      | ((with_reducible show Calls _ 9 #[.int .u64 14695981039346656037, _] _ _); refine (k4 _).mono ?_; rintro e w1 ⟨rfl, rfl⟩)
      | ((with_reducible show Calls _ 11 _ _ _); refine (k5 _).mono ?_; rintro e w1 ⟨rfl, rfl⟩)
      | ((with_reducible show Calls _ 12 _ _ _); refine (k6 _).mono ?_; rintro e w1 ⟨rfl, rfl⟩)
      | ((with_reducible show Calls _ 7 _ _ _); refine (hawake_any _).mono ?_; rintro e w1 ⟨rfl, hx⟩))
    go_ret
    exact ⟨rfl, hx⟩
end Go.Proofs.Ytbgapkhcaideiaa
