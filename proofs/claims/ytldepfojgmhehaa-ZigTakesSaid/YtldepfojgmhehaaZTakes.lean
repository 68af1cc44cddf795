/- ZigTakes: the walk. -/
import Derived.Test.YtldepfojgmhehaaZAwk
namespace Go.Proofs.Ytldepfojgmhehaa
open Go Go.RowKit

set_option maxHeartbeats 800000 in
theorem takes_any (s : ByteArray) (p : Int) (w : World) (hs : s.size ≤ maxLen) :
    Calls Try.prog 4 #[.string s, .int .i64 p] w (Says w (.bool true)) := by
  unfold maxLen at hs
  by_cases hl : 300 < s.size
  · go_enter Try.func4, Try.ntmps4
    go_wp2_with fail
    refine (awake_any _).mono ?_
    rintro e w1 ⟨rfl, hx⟩
    go_wp2_with fail
    go_ret
    exact ⟨rfl, hx⟩
  · obtain ⟨⟨U, N, E⟩, hT⟩ : ∃ t, t = takeZ s p := ⟨_, rfl⟩
    have hz : E ≠ 0 → U = 0 := by have h := takeZ_zero s p; rw [← hT] at h; exact h
    have hU : U ≤ 18446744073709551615 := by have h := takeZ_bound s p; rw [← hT] at h; exact h
    have HT := hid hT.symm
    have HZ := hid hz
    clear hT hz
    go_enter Try.func4, Try.ntmps4
    go_wp2_with fail
    refine (take_is _ _ _ _ HT.out (by omega)).mono ?_
    rintro e w1 ⟨rfl, hx⟩
    have HX := hid hx
    clear hx
    go_wp2_with fail
    refine (rtake_is _ _ _ _ HT.out (by omega)).mono ?_
    rintro e w2 ⟨rfl, hx⟩
    replace HX := hid (HX.out.trans hx)
    clear hx
    go_wp2_with fail
    refine (takeint_is _ _ _ _ _ _ HT.out (by omega)).mono ?_
    rintro e w3 ⟨rfl, hx⟩
    replace HX := hid (HX.out.trans hx)
    clear hx
    by_cases hE : E = 0
    · go_wp2_with fail
      refine (rback_any _ _ (by omega) (by omega)).mono ?_
      rintro e w4 ⟨rfl, hx⟩
      replace HX := hid (HX.out.trans hx)
      clear hx
      go_wp2_with fail
      refine (awake_any _).mono ?_
      rintro e w5 ⟨rfl, hx⟩
      replace HX := hid (HX.out.trans hx)
      clear hx
      go_wp2_with fail
      go_ret
      exact ⟨rfl, HX.out⟩
    · have hU0 := HZ.out hE
      subst hU0
      have hb : backZ ((0 : Nat) : Int) = 0 := rfl
      rw [hb]
      go_wp2_with fail
      refine (awake_any _).mono ?_
      rintro e w5 ⟨rfl, hx⟩
      replace HX := hid (HX.out.trans hx)
      clear hx
      go_wp2_with fail
      go_ret
      exact ⟨rfl, HX.out⟩
end Go.Proofs.Ytldepfojgmhehaa
