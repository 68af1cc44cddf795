/- telltalelaw02.awake answers true, and changes nothing that was there. Conditions: none. -/
import Derived.Test.YtldepfojgmhehaaZR1
import Derived.Test.YtldepfojgmhehaaZR2
import Derived.Lib.SmallJoins
namespace Go.Proofs.Ytldepfojgmhehaa
open Go Go.RowKit

theorem zb_300 : zb 300 = [172, 2] := by
  have hz : zs 300 = 2 := by rw [zs_big (by omega), zs_small (by omega)]
  unfold zb
  rw [hz]
  decide
theorem zs_300 : zs 300 = 2 := by rw [zs_big (by omega), zs_small (by omega)]
theorem tz_a : takeZ ⟨#[172, 2, 120]⟩ 0 = (300, 2, 0) := by decide
theorem tz_b : takeZ ⟨#[128, 0]⟩ 0 = (0, 0, 4) := by decide
theorem tz_c : takeZ ⟨#[128]⟩ 0 = (0, 0, 3) := by decide
theorem tz_d : takeZ ⟨#[255, 255, 255, 255, 255, 255, 255, 255, 255, 2]⟩ 0 = (0, 0, 8) := by decide

theorem take_is (s : ByteArray) (p : Int) (w : World) (t : Nat × Int × Int) (ht : takeZ s p = t) (hs : s.size ≤ 9223372036854775807) :
    Calls Try.prog 17 #[.string s, .int .i64 p] w (SaysT w t) := by
  subst ht
  exact take_any s p w hs

theorem takeZ_zero (s : ByteArray) (p : Int) : (takeZ s p).2.2 ≠ 0 → (takeZ s p).1 = 0 := by
  unfold takeZ
  split
  · intro _; rfl
  · intro h
    exact tk_zero (n := (tk (s.data.toList.drop p.toNat) 0 0).2.1) (e := (tk (s.data.toList.drop p.toNat) 0 0).2.2) rfl h

theorem takeint_is (s : ByteArray) (p : Int) (w : World) (U : Nat) (N E : Int) (ht : takeZ s p = (U, N, E)) (hs : s.size ≤ 9223372036854775807) :
    Calls Try.prog 19 #[.string s, .int .i64 p] w (SaysI w (backZ U, N, E)) := by
  have h := takeint_any s p w hs
  unfold takeI at h
  rw [ht] at h
  exact h
theorem rtake_is (s : ByteArray) (p : Int) (w : World) (t : Nat × Int × Int) (ht : takeZ s p = t) (hs : s.size ≤ 9223372036854775807) :
    Calls Try.prog 18 #[.string s, .int .i64 p] w (SaysT w t) := by
  subst ht
  exact rtake_any s p w hs

set_option maxHeartbeats 1000000 in
theorem awake_any (w : World) : Calls Try.prog 7 #[] w (Says w (.bool true)) := by
  have kc := fun (W : World) (C : Array Value) (n c : Nat) => Go.Lib.run_convert_bytes_const (P := Try.prog) W 22 5 C n c Try.underlying22 Try.underlying5
  go_enter Try.func7, Try.ntmps7
  go_wp2_with fail
  refine (take_is _ _ _ _ tz_a (by decide)).mono ?_
  rintro e w1 ⟨rfl, hx⟩
  have HX := hid hx
  clear hx
  go_wp2_with fail
  refine (take_is _ _ _ _ tz_b (by decide)).mono ?_
  rintro e w2 ⟨rfl, hx⟩
  replace HX := hid (HX.out.trans hx)
  clear hx
  go_wp2_with fail
  refine (take_is _ _ _ _ tz_c (by decide)).mono ?_
  rintro e w3 ⟨rfl, hx⟩
  replace HX := hid (HX.out.trans hx)
  clear hx
  go_wp2_with fail
  refine (take_is _ _ _ _ tz_d (by decide)).mono ?_
  rintro e w4 ⟨rfl, hx⟩
  replace HX := hid (HX.out.trans hx)
  clear hx
  go_wp2_with fail
  refine (put_at _ [121] 300 _ (Bytes.of_row (l := [121]) (heap_alloc_new w4 _) (by simp [maxLen])) (by simp) (by omega)).mono ?_
  rintro e w5 ⟨r, rfl, ho, hx⟩
  replace HX := hid ((HX.out.then_alloc _).trans hx)
  have hcv : (convert 22 9 r).run Try.prog w5 = .ok (.string ⟨#[121, 172, 2]⟩) w5 := by
    have h := run_string_bytes (P := Try.prog) Try.underlying22 Try.underlying5 Try.underlying9 (Bytes.of_own ho)
    rw [zb_300] at h
    exact h
  clear hx ho
  go_wp2_with fail
  refine (fold_any (-3) _ (by omega) (by omega)).mono ?_
  rintro e w6 ⟨rfl, hx⟩
  rw [show foldZ (-3) = 5 from rfl]
  replace HX := hid (HX.out.trans hx)
  clear hx hcv
  go_wp2_with fail
  refine (back_any 5 _ (by omega) (by omega)).mono ?_
  rintro e w7 ⟨rfl, hx⟩
  rw [show backZ 5 = -3 from rfl]
  replace HX := hid (HX.out.trans hx)
  clear hx
  go_wp2_with fail
  refine (size_any 300 _ (by omega)).mono ?_
  rintro e w8 ⟨rfl, hx⟩
  rw [zs_300]
  replace HX := hid (HX.out.trans hx)
  clear hx
  go_wp2_with fail
  go_ret
  exact ⟨rfl, HX.out⟩
end Go.Proofs.Ytldepfojgmhehaa
