/- The signs of tests, the tests of signs, which kinds may be tested how, and the kinds of sums, are told as the document says (the walk). Conditions: the reach of a string, numbers within their kinds. -/
import Derived.Test.YtaahaehgdamkdaaCAwk
import Derived.Test.YtaahaehgdamkdaaVR1
import Derived.Test.YtaahaehgdamkdaaVOrd
import Derived.Test.YtaahaehgdamkdaaReg2
import Derived.Test.YtaahaehgdamkdaaMem3
import Derived.Test.YtaahaehgdamkdaaZC3
import Derived.Test.YtaahaehgdamkdaaOct4
import Derived.Test.YtaahaehgdamkdaaVR5
import Derived.Test.YtaahaehgdamkdaaVV1
import Derived.Test.YtaahaehgdamkdaaVV2
import Derived.Test.YtaahaehgdamkdaaVV3
import Derived.Test.YtaahaehgdamkdaaVV4
import Derived.Test.YtaahaehgdamkdaaVV5
import Derived.Test.YtaahaehgdamkdaaSay
import Derived.Test.YtaahaehgdamkdaaZDig
import Derived.Test.YtaahaehgdamkdaaReg
import Derived.Lib.AppendZeros
import Derived.BigQuiet
namespace Go.Proofs.Ytaahaehgdamkdaa
open Go Go.RowKit


set_option maxRecDepth 100000 in
set_option maxHeartbeats 2000000 in
theorem ckinds_law (o k l : Nat) (s : ByteArray) (w : World) (ho : o ≤ 255) (hk : k ≤ 255) (hl : l ≤ 255) (hs : s.size ≤ 9223372036854775807) : Calls Try.prog 5 #[.int .u8 (o : Int), .agg #[.int .u8 (k : Int), .int .u8 (l : Int)], .string s] w (Says w (.bool true)) := by
  have p1 := fun W => csign_any o W ho
  have r1 := fun W => rsign5_any o W
  have p2 := fun W => cop_any s W
  have r2 := fun W => rop5_any s W
  have p3 := fun W => cfits_any o k l W ho hk hl
  have r3 := fun W => rfits_any o k l W
  have p4 := fun W => csum_any k l W hk hl
  have r4 := fun W => rsum_any k l W
  generalize signV o = S at *
  generalize opV s = O at *
  generalize fitsV o k l = F at *
  generalize sumK k l = U at *
  by_cases h : 100 < s.size
  · have h' : (100 : Int) < (s.size : Int) := by omega
    clear h
    go_enter Try.func5, Try.ntmps5
    go_wp2_with fail
    refine (awake5_any _).mono ?_
    rintro e w9 ⟨rfl, hx⟩
    go_wp2_with fail
    go_ret
    exact ⟨rfl, (Ext.alloc _ _).trans hx⟩
  · have h' : (s.size : Int) ≤ 100 := by omega
    clear h
    go_enter Try.func5, Try.ntmps5
    go_wp2_with fail
    go_quiet (fail)
    have HX : Hid (Ext w ((w.alloc (.cells #[.int .u8 (k : Int), .int .u8 (l : Int)] 5)).drewN 0)) := (Ext.alloc _ _).trans (Ext.drewN _ _)
    go_wp2_with (first | ((with_reducible show Calls _ 17 _ _ _); refine (p1 _).mono ?_; rintro e w9 ⟨rfl, hx⟩; (first | replace HX := hid (HX.out.trans hx) | replace HX := hid (((Ext.alloc _ _).trans (Ext.drewN _ _)).trans hx)); clear hx) | ((with_reducible show Calls _ 18 _ _ _); refine (r1 _).mono ?_; rintro e w9 ⟨rfl, hx⟩; (first | replace HX := hid (HX.out.trans hx) | replace HX := hid (((Ext.alloc _ _).trans (Ext.drewN _ _)).trans hx)); clear hx) | ((with_reducible show Calls _ 19 _ _ _); refine (p2 _).mono ?_; rintro e w9 ⟨rfl, hx⟩; (first | replace HX := hid (HX.out.trans hx) | replace HX := hid (((Ext.alloc _ _).trans (Ext.drewN _ _)).trans hx)); clear hx) | ((with_reducible show Calls _ 20 _ _ _); refine (r2 _).mono ?_; rintro e w9 ⟨rfl, hx⟩; (first | replace HX := hid (HX.out.trans hx) | replace HX := hid (((Ext.alloc _ _).trans (Ext.drewN _ _)).trans hx)); clear hx) | ((with_reducible show Calls _ 21 _ _ _); refine (p3 _).mono ?_; rintro e w9 ⟨rfl, hx⟩; (first | replace HX := hid (HX.out.trans hx) | replace HX := hid (((Ext.alloc _ _).trans (Ext.drewN _ _)).trans hx)); clear hx) | ((with_reducible show Calls _ 22 _ _ _); refine (r3 _).mono ?_; rintro e w9 ⟨rfl, hx⟩; (first | replace HX := hid (HX.out.trans hx) | replace HX := hid (((Ext.alloc _ _).trans (Ext.drewN _ _)).trans hx)); clear hx) | ((with_reducible show Calls _ 23 _ _ _); refine (p4 _).mono ?_; rintro e w9 ⟨rfl, hx⟩; (first | replace HX := hid (HX.out.trans hx) | replace HX := hid (((Ext.alloc _ _).trans (Ext.drewN _ _)).trans hx)); clear hx) | ((with_reducible show Calls _ 24 _ _ _); refine (r4 _).mono ?_; rintro e w9 ⟨rfl, hx⟩; (first | replace HX := hid (HX.out.trans hx) | replace HX := hid (((Ext.alloc _ _).trans (Ext.drewN _ _)).trans hx)); clear hx) | ((with_reducible show Calls _ 10 _ _ _); refine (awake5_any _).mono ?_; rintro e w9 ⟨rfl, hx⟩; (first | replace HX := hid (HX.out.trans hx) | replace HX := hid (((Ext.alloc _ _).trans (Ext.drewN _ _)).trans hx)); clear hx))
    go_ret
    exact ⟨rfl, HX.out⟩
end Go.Proofs.Ytaahaehgdamkdaa
