/- telltalelaw03.awake answers true, and changes nothing that was there. Conditions: none. -/
import Derived.Test.YtmgcikjpgbhpgaaReal
namespace Go.Proofs.Ytmgcikjpgbhpgaa
open Go Go.RowKit

theorem kind_is (u : Nat) (w : World) (r : Int) (h : ((kindZ u : Nat) : Int) = r) (hu : u ≤ 18446744073709551615) : Calls Try.prog 9 #[.int .u64 (u : Int)] w (Says w (.int .u8 r)) := by
  subst h
  exact kind_any u w hu
theorem clean_is (u : Nat) (w : World) (r : Int) (h : ((cleanZ u : Nat) : Int) = r) (hu : u ≤ 18446744073709551615) : Calls Try.prog 11 #[.int .u64 (u : Int)] w (Says w (.int .u64 r)) := by
  subst h
  exact clean_any u w hu
theorem rank_is (u : Nat) (w : World) (r : Int) (h : ((rankZ u : Nat) : Int) = r) (hu : u ≤ 18446744073709551615) : Calls Try.prog 13 #[.int .u64 (u : Int)] w (Says w (.int .u64 r)) := by
  subst h
  exact rank_any u w hu
theorem neg_is (u : Nat) (w : World) (r : Int) (h : ((negZ u : Nat) : Int) = r) (hu : u ≤ 18446744073709551615) : Calls Try.prog 15 #[.int .u64 (u : Int)] w (Says w (.int .u64 r)) := by
  subst h
  exact neg_any u w hu
theorem add_is (a b : Nat) (w : World) (r : Int) (h : ((addZ a b : Nat) : Int) = r) (ha : a ≤ 18446744073709551615) (hb : b ≤ 18446744073709551615) : Calls Try.prog 22 #[.int .u64 (a : Int), .int .u64 (b : Int)] w (Says w (.int .u64 r)) := by
  subst h
  exact add_any a b w ha hb
theorem less_is (a b : Nat) (w : World) (r : Bool) (h : lessZ a b = r) (ha : a ≤ 18446744073709551615) (hb : b ≤ 18446744073709551615) : Calls Try.prog 17 #[.int .u64 (a : Int), .int .u64 (b : Int)] w (Says w (.bool r)) := by
  subst h
  exact less_any a b w ha hb
theorem equal_is (a b : Nat) (w : World) (r : Bool) (h : equalZ a b = r) (ha : a ≤ 18446744073709551615) (hb : b ≤ 18446744073709551615) : Calls Try.prog 19 #[.int .u64 (a : Int), .int .u64 (b : Int)] w (Says w (.bool r)) := by
  subst h
  exact equal_any a b w ha hb
theorem ofint_is (n : Int) (w : World) (r : Int) (h : ((intZ n : Nat) : Int) = r) (h0 : -9223372036854775808 ≤ n) (h1 : n ≤ 9223372036854775807) : Calls Try.prog 28 #[.int .i64 n] w (Says w (.int .u64 r)) := by
  subst h
  exact ofint_any n w h0 h1
theorem whole_is' (u : Nat) (w : World) (r : Int × Bool) (h : wholeZ u = r) (hu : u ≤ 18446744073709551615) : Calls Try.prog 24 #[.int .u64 (u : Int)] w (SaysB w r) := by
  subst h
  exact whole_any u w hu
theorem versus_is (n : Int) (u : Nat) (w : World) (r : Int × Bool) (h : versusZ n u = r) (h0 : -9223372036854775808 ≤ n) (h1 : n ≤ 9223372036854775807) (hu : u ≤ 18446744073709551615) : Calls Try.prog 26 #[.int .i64 n, .int .u64 (u : Int)] w (SaysB w r) := by
  subst h
  exact versus_any n u w h0 h1 hu

theorem aw1 : wholeZ 4611686018427387904 = (2, true) := by decide +kernel
theorem aw2 : wholeZ 4607182418800017409 = (0, false) := by decide +kernel
theorem aw3 : ((intZ 9007199254740992 : Nat) : Int) = 4845873199050653696 := by decide +kernel
theorem aw4 : versusZ 9007199254740993 4845873199050653696 = (1, true) := by decide +kernel
theorem aw5 : versusZ 0 9221120237041090560 = (0, false) := by decide +kernel
theorem aw6 : ((kindZ 0 : Nat) : Int) = 1 := by decide +kernel
theorem aw7 : ((kindZ 1 : Nat) : Int) = 2 := by decide +kernel
theorem aw8 : ((kindZ 4607182418800017408 : Nat) : Int) = 3 := by decide +kernel
theorem aw9 : ((kindZ 9218868437227405312 : Nat) : Int) = 4 := by decide +kernel
theorem aw10 : ((kindZ 9218868437227405313 : Nat) : Int) = 5 := by decide +kernel
theorem aw11 : ((cleanZ 9218868437227405313 : Nat) : Int) = 9221120237041090560 := by decide +kernel
theorem aw12 : ((addZ 4607182418800017408 4607182418800017408 : Nat) : Int) = 4611686018427387904 := by decide +kernel
theorem aw13 : ((addZ 9218868437227405312 18442240474082181120 : Nat) : Int) = 9221120237041090560 := by decide +kernel
theorem aw14 : ((negZ 0 : Nat) : Int) = 9223372036854775808 := by decide +kernel
theorem aw15 : equalZ 0 9223372036854775808 = true := by decide +kernel
theorem aw16 : lessZ 9223372036854775808 0 = false := by decide +kernel
theorem aw17 : ((rankZ 9223372036854775808 : Nat) : Int) = 9223372036854775807 := by decide +kernel
theorem aw18 : ((rankZ 0 : Nat) : Int) = 9223372036854775808 := by decide +kernel
theorem aw19 : equalZ 9221120237041090560 9221120237041090560 = false := by decide +kernel
theorem aw20 : ((intZ (-1) : Nat) : Int) = 13830554455654793216 := by decide +kernel

set_option maxRecDepth 100000 in
set_option maxHeartbeats 1600000 in
theorem awake_any (w : World) : Calls Try.prog 21 #[] w (Says w (.bool true)) := by
  have HX := hid (Ext.refl w)
  go_enter Try.func21, Try.ntmps21
  go_wp2_with fail
  refine (whole_is' 4611686018427387904 _ _ aw1 (by decide)).mono ?_
  rintro e w1 ⟨rfl, hx⟩
  replace HX := hid (HX.out.trans hx)
  clear hx
  go_wp2_with fail
  refine (whole_is' 4607182418800017409 _ _ aw2 (by decide)).mono ?_
  rintro e w2 ⟨rfl, hx⟩
  replace HX := hid (HX.out.trans hx)
  clear hx
  go_wp2_with fail
  refine (ofint_is 9007199254740992 _ _ aw3 (by decide) (by decide)).mono ?_
  rintro e w3 ⟨rfl, hx⟩
  replace HX := hid (HX.out.trans hx)
  clear hx
  go_wp2_with fail
  refine (versus_is 9007199254740993 4845873199050653696 _ _ aw4 (by decide) (by decide) (by decide)).mono ?_
  rintro e w4 ⟨rfl, hx⟩
  replace HX := hid (HX.out.trans hx)
  clear hx
  go_wp2_with fail
  refine (versus_is 0 9221120237041090560 _ _ aw5 (by decide) (by decide) (by decide)).mono ?_
  rintro e w5 ⟨rfl, hx⟩
  replace HX := hid (HX.out.trans hx)
  clear hx
  go_wp2_with fail
  refine (kind_is 0 _ _ aw6 (by decide)).mono ?_
  rintro e w6 ⟨rfl, hx⟩
  replace HX := hid (HX.out.trans hx)
  clear hx
  go_wp2_with fail
  refine (kind_is 1 _ _ aw7 (by decide)).mono ?_
  rintro e w7 ⟨rfl, hx⟩
  replace HX := hid (HX.out.trans hx)
  clear hx
  go_wp2_with fail
  refine (kind_is 4607182418800017408 _ _ aw8 (by decide)).mono ?_
  rintro e w8 ⟨rfl, hx⟩
  replace HX := hid (HX.out.trans hx)
  clear hx
  go_wp2_with fail
  refine (kind_is 9218868437227405312 _ _ aw9 (by decide)).mono ?_
  rintro e w9 ⟨rfl, hx⟩
  replace HX := hid (HX.out.trans hx)
  clear hx
  go_wp2_with fail
  refine (kind_is 9218868437227405313 _ _ aw10 (by decide)).mono ?_
  rintro e w10 ⟨rfl, hx⟩
  replace HX := hid (HX.out.trans hx)
  clear hx
  go_wp2_with fail
  refine (clean_is 9218868437227405313 _ _ aw11 (by decide)).mono ?_
  rintro e w11 ⟨rfl, hx⟩
  replace HX := hid (HX.out.trans hx)
  clear hx
  go_wp2_with fail
  refine (add_is 4607182418800017408 4607182418800017408 _ _ aw12 (by decide) (by decide)).mono ?_
  rintro e w12 ⟨rfl, hx⟩
  replace HX := hid (HX.out.trans hx)
  clear hx
  go_wp2_with fail
  refine (add_is 9218868437227405312 18442240474082181120 _ _ aw13 (by decide) (by decide)).mono ?_
  rintro e w13 ⟨rfl, hx⟩
  replace HX := hid (HX.out.trans hx)
  clear hx
  go_wp2_with fail
  refine (neg_is 0 _ _ aw14 (by decide)).mono ?_
  rintro e w14 ⟨rfl, hx⟩
  replace HX := hid (HX.out.trans hx)
  clear hx
  go_wp2_with fail
  refine (equal_is 0 9223372036854775808 _ _ aw15 (by decide) (by decide)).mono ?_
  rintro e w15 ⟨rfl, hx⟩
  replace HX := hid (HX.out.trans hx)
  clear hx
  go_wp2_with fail
  refine (less_is 9223372036854775808 0 _ _ aw16 (by decide) (by decide)).mono ?_
  rintro e w16 ⟨rfl, hx⟩
  replace HX := hid (HX.out.trans hx)
  clear hx
  go_wp2_with fail
  refine (rank_is 9223372036854775808 _ _ aw17 (by decide)).mono ?_
  rintro e w17 ⟨rfl, hx⟩
  replace HX := hid (HX.out.trans hx)
  clear hx
  go_wp2_with fail
  refine (rank_is 0 _ _ aw18 (by decide)).mono ?_
  rintro e w18 ⟨rfl, hx⟩
  replace HX := hid (HX.out.trans hx)
  clear hx
  go_wp2_with fail
  refine (equal_is 9221120237041090560 9221120237041090560 _ _ aw19 (by decide) (by decide)).mono ?_
  rintro e w19 ⟨rfl, hx⟩
  replace HX := hid (HX.out.trans hx)
  clear hx
  go_wp2_with fail
  refine (ofint_is (-1) _ _ aw20 (by decide) (by decide)).mono ?_
  rintro e w20 ⟨rfl, hx⟩
  replace HX := hid (HX.out.trans hx)
  clear hx
  go_wp2_with fail
  go_ret
  exact ⟨rfl, HX.out⟩
end Go.Proofs.Ytmgcikjpgbhpgaa
