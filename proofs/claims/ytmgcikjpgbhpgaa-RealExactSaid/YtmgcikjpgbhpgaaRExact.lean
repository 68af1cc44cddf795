/- RealExact: the walk. -/
import Derived.Test.YtmgcikjpgbhpgaaRAwk
import Derived.BigQuiet
import Derived.Deep.QuietTactic
import Derived.Deep.CutRange
namespace Go.Proofs.Ytmgcikjpgbhpgaa
open Go Go.RowKit

set_option maxRecDepth 100000 in
set_option maxHeartbeats 800000 in
theorem exact_out (a b : Int) (u : Nat) (w : World) (h : a < -4611686018427387904 ∨ b < a ∨ 4611686018427387904 < b) (ha0 : -9223372036854775808 ≤ a) (ha1 : a ≤ 9223372036854775807) (hb0 : -9223372036854775808 ≤ b) (hb1 : b ≤ 9223372036854775807) :
    Calls Try.prog 8 #[.agg #[.int .i64 a, .int .i64 b], .int .u64 (u : Int)] w (Says w (.bool true)) := by
  by_cases c1 : a < -4611686018427387904 <;> by_cases c2 : b < a <;> by_cases c3 : 4611686018427387904 < b
  all_goals first
    | (exfalso; omega)
    | (clear h
       have HX := hid (Ext.alloc w (.cells #[.int .i64 a, .int .i64 b] 34))
       go_enter Try.func8, Try.ntmps8
       go_wp2_with fail
       go_quiet (fail)
       replace HX := hid (HX.out.trans (Ext.drewN _ nq))
       go_wp2_with ((with_reducible show Calls _ 21 _ _ _); refine (awake_any _).mono ?_; rintro e w1 ⟨rfl, hx⟩; replace HX := hid (HX.out.trans hx); clear hx)
       all_goals go_ret
       all_goals exact ⟨rfl, HX.out⟩)

set_option maxRecDepth 100000 in
set_option maxHeartbeats 4000000 in
theorem exact_in (a b : Int) (u : Nat) (w : World) (ha0 : -4611686018427387904 ≤ a) (hab : a ≤ b) (hb1 : b ≤ 4611686018427387904) (hu : u ≤ 18446744073709551615) :
    Calls Try.prog 8 #[.agg #[.int .i64 a, .int .i64 b], .int .u64 (u : Int)] w (Says w (.bool true)) := by
  have lu : u < 18446744073709551616 := by omega
  have pa := int_parts (n := a) ha0 (by omega)
  have pb := int_parts (n := b) (by omega) hb1
  have v1 := fun W => versus_any a u W (by omega) (by omega) hu
  have v2 := fun W => versus_any b u W (by omega) (by omega) hu
  have o1 := fun W => whole_any u W hu
  have k1 := fun W => kind_any u W hu
  have i1 := fun W => ofint_any a W (by omega) (by omega)
  have i2 := fun W => ofint_any b W (by omega) (by omega)
  have l1 := fun W => less_any (intZ b) (intZ a) W (by omega) (by omega)
  have k2 := fun W => kind_any (intZ a) W (by omega)
  have o2 := fun W => whole_any (intZ a) W (by omega)
  have l2 := fun W => less_any (intZ a) u W (by omega) hu
  have q1 := fun W => equal_any (intZ a) u W (by omega) hu
  rw [int_less hab] at l1
  have t1 := versus_told (n := a) (u := u) ha0 (by omega)
  have t2 := versus_told (n := b) (u := u) (by omega) hb1
  have tm := versus_mono (u := u) ha0 hab hb1
  have tz := fun h => versus_zero_iff (n := a) (u := u) ha0 (by omega) h
  have tl := fun h => versus_less (n := a) (u := u) ha0 (by omega) h
  have tb := fun h0 h1 => int_back (n := a) h0 h1
  have hku := kind_le u
  have hkf := kind_le (intZ a)
  have hk5 := pa.2.2.2.1
  have hk4 := pa.2.2.2.2.1
  clear pa pb
  generalize versusZ a u = vx at *
  generalize versusZ b u = vy at *
  generalize wholeZ u = wz at *
  generalize wholeZ (intZ a) = bz at *
  generalize lessZ (intZ a) u = L at *
  generalize equalZ (intZ a) u = Q at *
  generalize kindZ (intZ a) = kf at *
  generalize kindZ u = k at *
  generalize intZ a = f at *
  generalize intZ b = g at *
  obtain ⟨x, is⟩ := vx
  obtain ⟨y, was⟩ := vy
  obtain ⟨wh, ww⟩ := wz
  obtain ⟨bk, ok⟩ := bz
  have ti : is = decide (k ≠ 5) := t1.1
  have tw : was = decide (k ≠ 5) := t2.1
  have hx0 : -1 ≤ x := t1.2.1
  have hy1 : y ≤ 1 := t2.2.2
  have hxy : x ≤ y := tm
  have TZ : Hid (k ≠ 5 → (x = 0 ↔ ww = true ∧ wh = a)) := tz
  have TL : Hid (k ≠ 5 → x ≠ 0 → (decide (x < 0) = L ∨ Q = true)) := tl
  have TB : Hid (-9007199254740992 ≤ a → a ≤ 9007199254740992 → ((bk, ok) : Int × Bool) = (a, true)) := tb
  have hkf4 : ((kf : Int) == 4) = false := by rw [beq_eq_false_iff_ne]; omega
  have hkf5 : ((kf : Int) == 5) = false := by rw [beq_eq_false_iff_ne]; omega
  have TI := hid ti
  have TW := hid tw
  clear t1 t2 tm tz tl tb hk4 hk5 lu ti tw
  have HX := hid (Ext.alloc w (.cells #[.int .i64 a, .int .i64 b] 34))
  go_enter Try.func8, Try.ntmps8
  go_wp2_with fail
  go_quiet (fail)
  replace HX := hid (HX.out.trans (Ext.drewN _ nq))
  go_upto_region 7 with (first | ((with_reducible show Calls _ 26 #[.int .i64 a, .int .u64 (u : Int)] _ _); refine (v1 _).mono ?_; rintro e w1 ⟨rfl, hx⟩; replace HX := hid (HX.out.trans hx); clear hx) | ((with_reducible show Calls _ 26 #[.int .i64 b, .int .u64 (u : Int)] _ _); refine (v2 _).mono ?_; rintro e w1 ⟨rfl, hx⟩; replace HX := hid (HX.out.trans hx); clear hx) | ((with_reducible show Calls _ 24 #[.int .u64 (u : Int)] _ _); refine (o1 _).mono ?_; rintro e w1 ⟨rfl, hx⟩; replace HX := hid (HX.out.trans hx); clear hx) | ((with_reducible show Calls _ 9 #[.int .u64 (u : Int)] _ _); refine (k1 _).mono ?_; rintro e w1 ⟨rfl, hx⟩; replace HX := hid (HX.out.trans hx); clear hx) | ((with_reducible show Calls _ 28 #[.int .i64 a] _ _); refine (i1 _).mono ?_; rintro e w1 ⟨rfl, hx⟩; replace HX := hid (HX.out.trans hx); clear hx) | ((with_reducible show Calls _ 28 #[.int .i64 b] _ _); refine (i2 _).mono ?_; rintro e w1 ⟨rfl, hx⟩; replace HX := hid (HX.out.trans hx); clear hx) | ((with_reducible show Calls _ 17 #[.int .u64 (g : Int), .int .u64 (f : Int)] _ _); refine (l1 _).mono ?_; rintro e w1 ⟨rfl, hx⟩; replace HX := hid (HX.out.trans hx); clear hx) | ((with_reducible show Calls _ 9 #[.int .u64 (f : Int)] _ _); refine (k2 _).mono ?_; rintro e w1 ⟨rfl, hx⟩; replace HX := hid (HX.out.trans hx); clear hx) | ((with_reducible show Calls _ 24 #[.int .u64 (f : Int)] _ _); refine (o2 _).mono ?_; rintro e w1 ⟨rfl, hx⟩; replace HX := hid (HX.out.trans hx); clear hx) | ((with_reducible show Calls _ 17 #[.int .u64 (f : Int), .int .u64 (u : Int)] _ _); refine (l2 _).mono ?_; rintro e w1 ⟨rfl, hx⟩; replace HX := hid (HX.out.trans hx); clear hx) | ((with_reducible show Calls _ 19 #[.int .u64 (f : Int), .int .u64 (u : Int)] _ _); refine (q1 _).mono ?_; rintro e w1 ⟨rfl, hx⟩; replace HX := hid (HX.out.trans hx); clear hx) | ((with_reducible show Calls _ 21 _ _ _); refine (awake_any _).mono ?_; rintro e w1 ⟨rfl, hx⟩; replace HX := hid (HX.out.trans hx); clear hx))
  go_cut [86] from 17 to 145 (fun v wx => v = .bool false ∧ Ext w wx)
  case first =>
    by_cases hk : k = 5
    · have hi : is = false := by rw [TI.out]; exact decide_eq_false (by omega)
      have hw : was = false := by rw [TW.out]; exact decide_eq_false (by omega)
      have hkb : ((k : Int) != 5) = false := by rw [bne_eq_false_iff_eq]; omega
      subst hi
      subst hw
      clear TI TW TZ TL TB
      go_wp2_with (first | ((with_reducible show Calls _ 26 #[.int .i64 a, .int .u64 (u : Int)] _ _); refine (v1 _).mono ?_; rintro e w1 ⟨rfl, hx⟩; replace HX := hid (HX.out.trans hx); clear hx) | ((with_reducible show Calls _ 26 #[.int .i64 b, .int .u64 (u : Int)] _ _); refine (v2 _).mono ?_; rintro e w1 ⟨rfl, hx⟩; replace HX := hid (HX.out.trans hx); clear hx) | ((with_reducible show Calls _ 24 #[.int .u64 (u : Int)] _ _); refine (o1 _).mono ?_; rintro e w1 ⟨rfl, hx⟩; replace HX := hid (HX.out.trans hx); clear hx) | ((with_reducible show Calls _ 9 #[.int .u64 (u : Int)] _ _); refine (k1 _).mono ?_; rintro e w1 ⟨rfl, hx⟩; replace HX := hid (HX.out.trans hx); clear hx) | ((with_reducible show Calls _ 28 #[.int .i64 a] _ _); refine (i1 _).mono ?_; rintro e w1 ⟨rfl, hx⟩; replace HX := hid (HX.out.trans hx); clear hx) | ((with_reducible show Calls _ 28 #[.int .i64 b] _ _); refine (i2 _).mono ?_; rintro e w1 ⟨rfl, hx⟩; replace HX := hid (HX.out.trans hx); clear hx) | ((with_reducible show Calls _ 17 #[.int .u64 (g : Int), .int .u64 (f : Int)] _ _); refine (l1 _).mono ?_; rintro e w1 ⟨rfl, hx⟩; replace HX := hid (HX.out.trans hx); clear hx) | ((with_reducible show Calls _ 9 #[.int .u64 (f : Int)] _ _); refine (k2 _).mono ?_; rintro e w1 ⟨rfl, hx⟩; replace HX := hid (HX.out.trans hx); clear hx) | ((with_reducible show Calls _ 24 #[.int .u64 (f : Int)] _ _); refine (o2 _).mono ?_; rintro e w1 ⟨rfl, hx⟩; replace HX := hid (HX.out.trans hx); clear hx) | ((with_reducible show Calls _ 17 #[.int .u64 (f : Int), .int .u64 (u : Int)] _ _); refine (l2 _).mono ?_; rintro e w1 ⟨rfl, hx⟩; replace HX := hid (HX.out.trans hx); clear hx) | ((with_reducible show Calls _ 19 #[.int .u64 (f : Int), .int .u64 (u : Int)] _ _); refine (q1 _).mono ?_; rintro e w1 ⟨rfl, hx⟩; replace HX := hid (HX.out.trans hx); clear hx) | ((with_reducible show Calls _ 21 _ _ _); refine (awake_any _).mono ?_; rintro e w1 ⟨rfl, hx⟩; replace HX := hid (HX.out.trans hx); clear hx))
      all_goals go_meet
      all_goals first
        | exact ⟨rfl, HX.out⟩
        | exact ⟨congrArg Value.bool (by simp; omega), HX.out⟩
    · have hi : is = true := by rw [TI.out]; exact decide_eq_true hk
      have hw : was = true := by rw [TW.out]; exact decide_eq_true hk
      have hkb : ((k : Int) != 5) = true := by rw [bne_iff_ne]; omega
      have hz := TZ.out hk
      have hl := TL.out hk
      subst hi
      subst hw
      clear TI TW TZ TL TB
      by_cases hx : x = 0
      · obtain ⟨hw1, hw2⟩ := hz.1 hx
        subst hw1
        have hw3 := hw2.symm
        subst hw3
        subst hx
        clear hz hl
        go_wp2_with (first | ((with_reducible show Calls _ 26 #[.int .i64 a, .int .u64 (u : Int)] _ _); refine (v1 _).mono ?_; rintro e w1 ⟨rfl, hx⟩; replace HX := hid (HX.out.trans hx); clear hx) | ((with_reducible show Calls _ 26 #[.int .i64 b, .int .u64 (u : Int)] _ _); refine (v2 _).mono ?_; rintro e w1 ⟨rfl, hx⟩; replace HX := hid (HX.out.trans hx); clear hx) | ((with_reducible show Calls _ 24 #[.int .u64 (u : Int)] _ _); refine (o1 _).mono ?_; rintro e w1 ⟨rfl, hx⟩; replace HX := hid (HX.out.trans hx); clear hx) | ((with_reducible show Calls _ 9 #[.int .u64 (u : Int)] _ _); refine (k1 _).mono ?_; rintro e w1 ⟨rfl, hx⟩; replace HX := hid (HX.out.trans hx); clear hx) | ((with_reducible show Calls _ 28 #[.int .i64 a] _ _); refine (i1 _).mono ?_; rintro e w1 ⟨rfl, hx⟩; replace HX := hid (HX.out.trans hx); clear hx) | ((with_reducible show Calls _ 28 #[.int .i64 b] _ _); refine (i2 _).mono ?_; rintro e w1 ⟨rfl, hx⟩; replace HX := hid (HX.out.trans hx); clear hx) | ((with_reducible show Calls _ 17 #[.int .u64 (g : Int), .int .u64 (f : Int)] _ _); refine (l1 _).mono ?_; rintro e w1 ⟨rfl, hx⟩; replace HX := hid (HX.out.trans hx); clear hx) | ((with_reducible show Calls _ 9 #[.int .u64 (f : Int)] _ _); refine (k2 _).mono ?_; rintro e w1 ⟨rfl, hx⟩; replace HX := hid (HX.out.trans hx); clear hx) | ((with_reducible show Calls _ 24 #[.int .u64 (f : Int)] _ _); refine (o2 _).mono ?_; rintro e w1 ⟨rfl, hx⟩; replace HX := hid (HX.out.trans hx); clear hx) | ((with_reducible show Calls _ 17 #[.int .u64 (f : Int), .int .u64 (u : Int)] _ _); refine (l2 _).mono ?_; rintro e w1 ⟨rfl, hx⟩; replace HX := hid (HX.out.trans hx); clear hx) | ((with_reducible show Calls _ 19 #[.int .u64 (f : Int), .int .u64 (u : Int)] _ _); refine (q1 _).mono ?_; rintro e w1 ⟨rfl, hx⟩; replace HX := hid (HX.out.trans hx); clear hx) | ((with_reducible show Calls _ 21 _ _ _); refine (awake_any _).mono ?_; rintro e w1 ⟨rfl, hx⟩; replace HX := hid (HX.out.trans hx); clear hx))
        all_goals go_meet
        all_goals first
          | exact ⟨rfl, HX.out⟩
          | exact ⟨congrArg Value.bool (by simp; omega), HX.out⟩
      · have hxb : ((x : Int) == 0) = false := by rw [beq_eq_false_iff_ne]; exact hx
        have hwz : ¬ (ww = true ∧ wh = a) := fun h => hx (hz.2 h)
        clear hz hl
        cases ww
        · clear hwz
          go_wp2_with (first | ((with_reducible show Calls _ 26 #[.int .i64 a, .int .u64 (u : Int)] _ _); refine (v1 _).mono ?_; rintro e w1 ⟨rfl, hx⟩; replace HX := hid (HX.out.trans hx); clear hx) | ((with_reducible show Calls _ 26 #[.int .i64 b, .int .u64 (u : Int)] _ _); refine (v2 _).mono ?_; rintro e w1 ⟨rfl, hx⟩; replace HX := hid (HX.out.trans hx); clear hx) | ((with_reducible show Calls _ 24 #[.int .u64 (u : Int)] _ _); refine (o1 _).mono ?_; rintro e w1 ⟨rfl, hx⟩; replace HX := hid (HX.out.trans hx); clear hx) | ((with_reducible show Calls _ 9 #[.int .u64 (u : Int)] _ _); refine (k1 _).mono ?_; rintro e w1 ⟨rfl, hx⟩; replace HX := hid (HX.out.trans hx); clear hx) | ((with_reducible show Calls _ 28 #[.int .i64 a] _ _); refine (i1 _).mono ?_; rintro e w1 ⟨rfl, hx⟩; replace HX := hid (HX.out.trans hx); clear hx) | ((with_reducible show Calls _ 28 #[.int .i64 b] _ _); refine (i2 _).mono ?_; rintro e w1 ⟨rfl, hx⟩; replace HX := hid (HX.out.trans hx); clear hx) | ((with_reducible show Calls _ 17 #[.int .u64 (g : Int), .int .u64 (f : Int)] _ _); refine (l1 _).mono ?_; rintro e w1 ⟨rfl, hx⟩; replace HX := hid (HX.out.trans hx); clear hx) | ((with_reducible show Calls _ 9 #[.int .u64 (f : Int)] _ _); refine (k2 _).mono ?_; rintro e w1 ⟨rfl, hx⟩; replace HX := hid (HX.out.trans hx); clear hx) | ((with_reducible show Calls _ 24 #[.int .u64 (f : Int)] _ _); refine (o2 _).mono ?_; rintro e w1 ⟨rfl, hx⟩; replace HX := hid (HX.out.trans hx); clear hx) | ((with_reducible show Calls _ 17 #[.int .u64 (f : Int), .int .u64 (u : Int)] _ _); refine (l2 _).mono ?_; rintro e w1 ⟨rfl, hx⟩; replace HX := hid (HX.out.trans hx); clear hx) | ((with_reducible show Calls _ 19 #[.int .u64 (f : Int), .int .u64 (u : Int)] _ _); refine (q1 _).mono ?_; rintro e w1 ⟨rfl, hx⟩; replace HX := hid (HX.out.trans hx); clear hx) | ((with_reducible show Calls _ 21 _ _ _); refine (awake_any _).mono ?_; rintro e w1 ⟨rfl, hx⟩; replace HX := hid (HX.out.trans hx); clear hx))
          all_goals go_meet
          all_goals first
            | exact ⟨rfl, HX.out⟩
            | exact ⟨congrArg Value.bool (by simp; omega), HX.out⟩
        · have hwa : ((wh : Int) == a) = false := by rw [beq_eq_false_iff_ne]; exact fun h => hwz ⟨rfl, h⟩
          clear hwz
          go_wp2_with (first | ((with_reducible show Calls _ 26 #[.int .i64 a, .int .u64 (u : Int)] _ _); refine (v1 _).mono ?_; rintro e w1 ⟨rfl, hx⟩; replace HX := hid (HX.out.trans hx); clear hx) | ((with_reducible show Calls _ 26 #[.int .i64 b, .int .u64 (u : Int)] _ _); refine (v2 _).mono ?_; rintro e w1 ⟨rfl, hx⟩; replace HX := hid (HX.out.trans hx); clear hx) | ((with_reducible show Calls _ 24 #[.int .u64 (u : Int)] _ _); refine (o1 _).mono ?_; rintro e w1 ⟨rfl, hx⟩; replace HX := hid (HX.out.trans hx); clear hx) | ((with_reducible show Calls _ 9 #[.int .u64 (u : Int)] _ _); refine (k1 _).mono ?_; rintro e w1 ⟨rfl, hx⟩; replace HX := hid (HX.out.trans hx); clear hx) | ((with_reducible show Calls _ 28 #[.int .i64 a] _ _); refine (i1 _).mono ?_; rintro e w1 ⟨rfl, hx⟩; replace HX := hid (HX.out.trans hx); clear hx) | ((with_reducible show Calls _ 28 #[.int .i64 b] _ _); refine (i2 _).mono ?_; rintro e w1 ⟨rfl, hx⟩; replace HX := hid (HX.out.trans hx); clear hx) | ((with_reducible show Calls _ 17 #[.int .u64 (g : Int), .int .u64 (f : Int)] _ _); refine (l1 _).mono ?_; rintro e w1 ⟨rfl, hx⟩; replace HX := hid (HX.out.trans hx); clear hx) | ((with_reducible show Calls _ 9 #[.int .u64 (f : Int)] _ _); refine (k2 _).mono ?_; rintro e w1 ⟨rfl, hx⟩; replace HX := hid (HX.out.trans hx); clear hx) | ((with_reducible show Calls _ 24 #[.int .u64 (f : Int)] _ _); refine (o2 _).mono ?_; rintro e w1 ⟨rfl, hx⟩; replace HX := hid (HX.out.trans hx); clear hx) | ((with_reducible show Calls _ 17 #[.int .u64 (f : Int), .int .u64 (u : Int)] _ _); refine (l2 _).mono ?_; rintro e w1 ⟨rfl, hx⟩; replace HX := hid (HX.out.trans hx); clear hx) | ((with_reducible show Calls _ 19 #[.int .u64 (f : Int), .int .u64 (u : Int)] _ _); refine (q1 _).mono ?_; rintro e w1 ⟨rfl, hx⟩; replace HX := hid (HX.out.trans hx); clear hx) | ((with_reducible show Calls _ 21 _ _ _); refine (awake_any _).mono ?_; rintro e w1 ⟨rfl, hx⟩; replace HX := hid (HX.out.trans hx); clear hx))
          all_goals go_meet
          all_goals first
            | exact ⟨rfl, HX.out⟩
            | exact ⟨congrArg Value.bool (by simp; omega), HX.out⟩
  case rest =>
    obtain ⟨rfl, hE⟩ := hcut
    replace HX := hid hE
    clear hE
    go_upto_region 13 with (first | ((with_reducible show Calls _ 26 #[.int .i64 a, .int .u64 (u : Int)] _ _); refine (v1 _).mono ?_; rintro e w1 ⟨rfl, hx⟩; replace HX := hid (HX.out.trans hx); clear hx) | ((with_reducible show Calls _ 26 #[.int .i64 b, .int .u64 (u : Int)] _ _); refine (v2 _).mono ?_; rintro e w1 ⟨rfl, hx⟩; replace HX := hid (HX.out.trans hx); clear hx) | ((with_reducible show Calls _ 24 #[.int .u64 (u : Int)] _ _); refine (o1 _).mono ?_; rintro e w1 ⟨rfl, hx⟩; replace HX := hid (HX.out.trans hx); clear hx) | ((with_reducible show Calls _ 9 #[.int .u64 (u : Int)] _ _); refine (k1 _).mono ?_; rintro e w1 ⟨rfl, hx⟩; replace HX := hid (HX.out.trans hx); clear hx) | ((with_reducible show Calls _ 28 #[.int .i64 a] _ _); refine (i1 _).mono ?_; rintro e w1 ⟨rfl, hx⟩; replace HX := hid (HX.out.trans hx); clear hx) | ((with_reducible show Calls _ 28 #[.int .i64 b] _ _); refine (i2 _).mono ?_; rintro e w1 ⟨rfl, hx⟩; replace HX := hid (HX.out.trans hx); clear hx) | ((with_reducible show Calls _ 17 #[.int .u64 (g : Int), .int .u64 (f : Int)] _ _); refine (l1 _).mono ?_; rintro e w1 ⟨rfl, hx⟩; replace HX := hid (HX.out.trans hx); clear hx) | ((with_reducible show Calls _ 9 #[.int .u64 (f : Int)] _ _); refine (k2 _).mono ?_; rintro e w1 ⟨rfl, hx⟩; replace HX := hid (HX.out.trans hx); clear hx) | ((with_reducible show Calls _ 24 #[.int .u64 (f : Int)] _ _); refine (o2 _).mono ?_; rintro e w1 ⟨rfl, hx⟩; replace HX := hid (HX.out.trans hx); clear hx) | ((with_reducible show Calls _ 17 #[.int .u64 (f : Int), .int .u64 (u : Int)] _ _); refine (l2 _).mono ?_; rintro e w1 ⟨rfl, hx⟩; replace HX := hid (HX.out.trans hx); clear hx) | ((with_reducible show Calls _ 19 #[.int .u64 (f : Int), .int .u64 (u : Int)] _ _); refine (q1 _).mono ?_; rintro e w1 ⟨rfl, hx⟩; replace HX := hid (HX.out.trans hx); clear hx) | ((with_reducible show Calls _ 21 _ _ _); refine (awake_any _).mono ?_; rintro e w1 ⟨rfl, hx⟩; replace HX := hid (HX.out.trans hx); clear hx))
    go_cut [123] from 17 to 145 (fun v wx => v = .bool false ∧ Ext w wx)
    case first =>
      clear TI TW TZ TL
      by_cases hs : -9007199254740992 ≤ a ∧ a ≤ 9007199254740992
      · obtain ⟨hs1, hs2⟩ := hs
        have hbb := TB.out hs1 hs2
        simp only [Prod.mk.injEq] at hbb
        obtain ⟨hb2, hb3⟩ := hbb
        subst hb3
        have hbkb : ((bk : Int) != a) = false := by rw [bne_eq_false_iff_eq]; exact hb2
        clear TB hb2
        go_wp2_with (first | ((with_reducible show Calls _ 26 #[.int .i64 a, .int .u64 (u : Int)] _ _); refine (v1 _).mono ?_; rintro e w1 ⟨rfl, hx⟩; replace HX := hid (HX.out.trans hx); clear hx) | ((with_reducible show Calls _ 26 #[.int .i64 b, .int .u64 (u : Int)] _ _); refine (v2 _).mono ?_; rintro e w1 ⟨rfl, hx⟩; replace HX := hid (HX.out.trans hx); clear hx) | ((with_reducible show Calls _ 24 #[.int .u64 (u : Int)] _ _); refine (o1 _).mono ?_; rintro e w1 ⟨rfl, hx⟩; replace HX := hid (HX.out.trans hx); clear hx) | ((with_reducible show Calls _ 9 #[.int .u64 (u : Int)] _ _); refine (k1 _).mono ?_; rintro e w1 ⟨rfl, hx⟩; replace HX := hid (HX.out.trans hx); clear hx) | ((with_reducible show Calls _ 28 #[.int .i64 a] _ _); refine (i1 _).mono ?_; rintro e w1 ⟨rfl, hx⟩; replace HX := hid (HX.out.trans hx); clear hx) | ((with_reducible show Calls _ 28 #[.int .i64 b] _ _); refine (i2 _).mono ?_; rintro e w1 ⟨rfl, hx⟩; replace HX := hid (HX.out.trans hx); clear hx) | ((with_reducible show Calls _ 17 #[.int .u64 (g : Int), .int .u64 (f : Int)] _ _); refine (l1 _).mono ?_; rintro e w1 ⟨rfl, hx⟩; replace HX := hid (HX.out.trans hx); clear hx) | ((with_reducible show Calls _ 9 #[.int .u64 (f : Int)] _ _); refine (k2 _).mono ?_; rintro e w1 ⟨rfl, hx⟩; replace HX := hid (HX.out.trans hx); clear hx) | ((with_reducible show Calls _ 24 #[.int .u64 (f : Int)] _ _); refine (o2 _).mono ?_; rintro e w1 ⟨rfl, hx⟩; replace HX := hid (HX.out.trans hx); clear hx) | ((with_reducible show Calls _ 17 #[.int .u64 (f : Int), .int .u64 (u : Int)] _ _); refine (l2 _).mono ?_; rintro e w1 ⟨rfl, hx⟩; replace HX := hid (HX.out.trans hx); clear hx) | ((with_reducible show Calls _ 19 #[.int .u64 (f : Int), .int .u64 (u : Int)] _ _); refine (q1 _).mono ?_; rintro e w1 ⟨rfl, hx⟩; replace HX := hid (HX.out.trans hx); clear hx) | ((with_reducible show Calls _ 21 _ _ _); refine (awake_any _).mono ?_; rintro e w1 ⟨rfl, hx⟩; replace HX := hid (HX.out.trans hx); clear hx))
        all_goals go_meet
        all_goals first
          | exact ⟨rfl, HX.out⟩
          | exact ⟨congrArg Value.bool (by simp; omega), HX.out⟩
      · clear TB
        by_cases hs1 : -9007199254740992 ≤ a
        · have hs2 : ¬ a ≤ 9007199254740992 := fun h => hs ⟨hs1, h⟩
          clear hs
          go_wp2_with (first | ((with_reducible show Calls _ 26 #[.int .i64 a, .int .u64 (u : Int)] _ _); refine (v1 _).mono ?_; rintro e w1 ⟨rfl, hx⟩; replace HX := hid (HX.out.trans hx); clear hx) | ((with_reducible show Calls _ 26 #[.int .i64 b, .int .u64 (u : Int)] _ _); refine (v2 _).mono ?_; rintro e w1 ⟨rfl, hx⟩; replace HX := hid (HX.out.trans hx); clear hx) | ((with_reducible show Calls _ 24 #[.int .u64 (u : Int)] _ _); refine (o1 _).mono ?_; rintro e w1 ⟨rfl, hx⟩; replace HX := hid (HX.out.trans hx); clear hx) | ((with_reducible show Calls _ 9 #[.int .u64 (u : Int)] _ _); refine (k1 _).mono ?_; rintro e w1 ⟨rfl, hx⟩; replace HX := hid (HX.out.trans hx); clear hx) | ((with_reducible show Calls _ 28 #[.int .i64 a] _ _); refine (i1 _).mono ?_; rintro e w1 ⟨rfl, hx⟩; replace HX := hid (HX.out.trans hx); clear hx) | ((with_reducible show Calls _ 28 #[.int .i64 b] _ _); refine (i2 _).mono ?_; rintro e w1 ⟨rfl, hx⟩; replace HX := hid (HX.out.trans hx); clear hx) | ((with_reducible show Calls _ 17 #[.int .u64 (g : Int), .int .u64 (f : Int)] _ _); refine (l1 _).mono ?_; rintro e w1 ⟨rfl, hx⟩; replace HX := hid (HX.out.trans hx); clear hx) | ((with_reducible show Calls _ 9 #[.int .u64 (f : Int)] _ _); refine (k2 _).mono ?_; rintro e w1 ⟨rfl, hx⟩; replace HX := hid (HX.out.trans hx); clear hx) | ((with_reducible show Calls _ 24 #[.int .u64 (f : Int)] _ _); refine (o2 _).mono ?_; rintro e w1 ⟨rfl, hx⟩; replace HX := hid (HX.out.trans hx); clear hx) | ((with_reducible show Calls _ 17 #[.int .u64 (f : Int), .int .u64 (u : Int)] _ _); refine (l2 _).mono ?_; rintro e w1 ⟨rfl, hx⟩; replace HX := hid (HX.out.trans hx); clear hx) | ((with_reducible show Calls _ 19 #[.int .u64 (f : Int), .int .u64 (u : Int)] _ _); refine (q1 _).mono ?_; rintro e w1 ⟨rfl, hx⟩; replace HX := hid (HX.out.trans hx); clear hx) | ((with_reducible show Calls _ 21 _ _ _); refine (awake_any _).mono ?_; rintro e w1 ⟨rfl, hx⟩; replace HX := hid (HX.out.trans hx); clear hx))
          all_goals go_meet
          all_goals first
            | exact ⟨rfl, HX.out⟩
            | exact ⟨congrArg Value.bool (by simp; omega), HX.out⟩
        · clear hs
          go_wp2_with (first | ((with_reducible show Calls _ 26 #[.int .i64 a, .int .u64 (u : Int)] _ _); refine (v1 _).mono ?_; rintro e w1 ⟨rfl, hx⟩; replace HX := hid (HX.out.trans hx); clear hx) | ((with_reducible show Calls _ 26 #[.int .i64 b, .int .u64 (u : Int)] _ _); refine (v2 _).mono ?_; rintro e w1 ⟨rfl, hx⟩; replace HX := hid (HX.out.trans hx); clear hx) | ((with_reducible show Calls _ 24 #[.int .u64 (u : Int)] _ _); refine (o1 _).mono ?_; rintro e w1 ⟨rfl, hx⟩; replace HX := hid (HX.out.trans hx); clear hx) | ((with_reducible show Calls _ 9 #[.int .u64 (u : Int)] _ _); refine (k1 _).mono ?_; rintro e w1 ⟨rfl, hx⟩; replace HX := hid (HX.out.trans hx); clear hx) | ((with_reducible show Calls _ 28 #[.int .i64 a] _ _); refine (i1 _).mono ?_; rintro e w1 ⟨rfl, hx⟩; replace HX := hid (HX.out.trans hx); clear hx) | ((with_reducible show Calls _ 28 #[.int .i64 b] _ _); refine (i2 _).mono ?_; rintro e w1 ⟨rfl, hx⟩; replace HX := hid (HX.out.trans hx); clear hx) | ((with_reducible show Calls _ 17 #[.int .u64 (g : Int), .int .u64 (f : Int)] _ _); refine (l1 _).mono ?_; rintro e w1 ⟨rfl, hx⟩; replace HX := hid (HX.out.trans hx); clear hx) | ((with_reducible show Calls _ 9 #[.int .u64 (f : Int)] _ _); refine (k2 _).mono ?_; rintro e w1 ⟨rfl, hx⟩; replace HX := hid (HX.out.trans hx); clear hx) | ((with_reducible show Calls _ 24 #[.int .u64 (f : Int)] _ _); refine (o2 _).mono ?_; rintro e w1 ⟨rfl, hx⟩; replace HX := hid (HX.out.trans hx); clear hx) | ((with_reducible show Calls _ 17 #[.int .u64 (f : Int), .int .u64 (u : Int)] _ _); refine (l2 _).mono ?_; rintro e w1 ⟨rfl, hx⟩; replace HX := hid (HX.out.trans hx); clear hx) | ((with_reducible show Calls _ 19 #[.int .u64 (f : Int), .int .u64 (u : Int)] _ _); refine (q1 _).mono ?_; rintro e w1 ⟨rfl, hx⟩; replace HX := hid (HX.out.trans hx); clear hx) | ((with_reducible show Calls _ 21 _ _ _); refine (awake_any _).mono ?_; rintro e w1 ⟨rfl, hx⟩; replace HX := hid (HX.out.trans hx); clear hx))
          all_goals go_meet
          all_goals first
            | exact ⟨rfl, HX.out⟩
            | exact ⟨congrArg Value.bool (by simp; omega), HX.out⟩
    case rest =>
      obtain ⟨rfl, hE⟩ := hcut
      replace HX := hid hE
      clear hE
      by_cases hk : k = 5
      · have hi : is = false := by rw [TI.out]; exact decide_eq_false (by omega)
        have hw : was = false := by rw [TW.out]; exact decide_eq_false (by omega)
        have hkb : ((k : Int) != 5) = false := by rw [bne_eq_false_iff_eq]; omega
        subst hi
        subst hw
        clear TI TW TZ TL TB
        go_wp2_with (first | ((with_reducible show Calls _ 26 #[.int .i64 a, .int .u64 (u : Int)] _ _); refine (v1 _).mono ?_; rintro e w1 ⟨rfl, hx⟩; replace HX := hid (HX.out.trans hx); clear hx) | ((with_reducible show Calls _ 26 #[.int .i64 b, .int .u64 (u : Int)] _ _); refine (v2 _).mono ?_; rintro e w1 ⟨rfl, hx⟩; replace HX := hid (HX.out.trans hx); clear hx) | ((with_reducible show Calls _ 24 #[.int .u64 (u : Int)] _ _); refine (o1 _).mono ?_; rintro e w1 ⟨rfl, hx⟩; replace HX := hid (HX.out.trans hx); clear hx) | ((with_reducible show Calls _ 9 #[.int .u64 (u : Int)] _ _); refine (k1 _).mono ?_; rintro e w1 ⟨rfl, hx⟩; replace HX := hid (HX.out.trans hx); clear hx) | ((with_reducible show Calls _ 28 #[.int .i64 a] _ _); refine (i1 _).mono ?_; rintro e w1 ⟨rfl, hx⟩; replace HX := hid (HX.out.trans hx); clear hx) | ((with_reducible show Calls _ 28 #[.int .i64 b] _ _); refine (i2 _).mono ?_; rintro e w1 ⟨rfl, hx⟩; replace HX := hid (HX.out.trans hx); clear hx) | ((with_reducible show Calls _ 17 #[.int .u64 (g : Int), .int .u64 (f : Int)] _ _); refine (l1 _).mono ?_; rintro e w1 ⟨rfl, hx⟩; replace HX := hid (HX.out.trans hx); clear hx) | ((with_reducible show Calls _ 9 #[.int .u64 (f : Int)] _ _); refine (k2 _).mono ?_; rintro e w1 ⟨rfl, hx⟩; replace HX := hid (HX.out.trans hx); clear hx) | ((with_reducible show Calls _ 24 #[.int .u64 (f : Int)] _ _); refine (o2 _).mono ?_; rintro e w1 ⟨rfl, hx⟩; replace HX := hid (HX.out.trans hx); clear hx) | ((with_reducible show Calls _ 17 #[.int .u64 (f : Int), .int .u64 (u : Int)] _ _); refine (l2 _).mono ?_; rintro e w1 ⟨rfl, hx⟩; replace HX := hid (HX.out.trans hx); clear hx) | ((with_reducible show Calls _ 19 #[.int .u64 (f : Int), .int .u64 (u : Int)] _ _); refine (q1 _).mono ?_; rintro e w1 ⟨rfl, hx⟩; replace HX := hid (HX.out.trans hx); clear hx) | ((with_reducible show Calls _ 21 _ _ _); refine (awake_any _).mono ?_; rintro e w1 ⟨rfl, hx⟩; replace HX := hid (HX.out.trans hx); clear hx))
        all_goals go_ret
        all_goals exact ⟨rfl, HX.out⟩
      · have hi : is = true := by rw [TI.out]; exact decide_eq_true hk
        have hw : was = true := by rw [TW.out]; exact decide_eq_true hk
        have hkb : ((k : Int) != 5) = true := by rw [bne_iff_ne]; omega
        have hz := TZ.out hk
        have hl := TL.out hk
        subst hi
        subst hw
        clear TI TW TZ TL TB
        by_cases hx : x = 0
        · subst hx
          clear hz hl
          go_wp2_with (first | ((with_reducible show Calls _ 26 #[.int .i64 a, .int .u64 (u : Int)] _ _); refine (v1 _).mono ?_; rintro e w1 ⟨rfl, hx⟩; replace HX := hid (HX.out.trans hx); clear hx) | ((with_reducible show Calls _ 26 #[.int .i64 b, .int .u64 (u : Int)] _ _); refine (v2 _).mono ?_; rintro e w1 ⟨rfl, hx⟩; replace HX := hid (HX.out.trans hx); clear hx) | ((with_reducible show Calls _ 24 #[.int .u64 (u : Int)] _ _); refine (o1 _).mono ?_; rintro e w1 ⟨rfl, hx⟩; replace HX := hid (HX.out.trans hx); clear hx) | ((with_reducible show Calls _ 9 #[.int .u64 (u : Int)] _ _); refine (k1 _).mono ?_; rintro e w1 ⟨rfl, hx⟩; replace HX := hid (HX.out.trans hx); clear hx) | ((with_reducible show Calls _ 28 #[.int .i64 a] _ _); refine (i1 _).mono ?_; rintro e w1 ⟨rfl, hx⟩; replace HX := hid (HX.out.trans hx); clear hx) | ((with_reducible show Calls _ 28 #[.int .i64 b] _ _); refine (i2 _).mono ?_; rintro e w1 ⟨rfl, hx⟩; replace HX := hid (HX.out.trans hx); clear hx) | ((with_reducible show Calls _ 17 #[.int .u64 (g : Int), .int .u64 (f : Int)] _ _); refine (l1 _).mono ?_; rintro e w1 ⟨rfl, hx⟩; replace HX := hid (HX.out.trans hx); clear hx) | ((with_reducible show Calls _ 9 #[.int .u64 (f : Int)] _ _); refine (k2 _).mono ?_; rintro e w1 ⟨rfl, hx⟩; replace HX := hid (HX.out.trans hx); clear hx) | ((with_reducible show Calls _ 24 #[.int .u64 (f : Int)] _ _); refine (o2 _).mono ?_; rintro e w1 ⟨rfl, hx⟩; replace HX := hid (HX.out.trans hx); clear hx) | ((with_reducible show Calls _ 17 #[.int .u64 (f : Int), .int .u64 (u : Int)] _ _); refine (l2 _).mono ?_; rintro e w1 ⟨rfl, hx⟩; replace HX := hid (HX.out.trans hx); clear hx) | ((with_reducible show Calls _ 19 #[.int .u64 (f : Int), .int .u64 (u : Int)] _ _); refine (q1 _).mono ?_; rintro e w1 ⟨rfl, hx⟩; replace HX := hid (HX.out.trans hx); clear hx) | ((with_reducible show Calls _ 21 _ _ _); refine (awake_any _).mono ?_; rintro e w1 ⟨rfl, hx⟩; replace HX := hid (HX.out.trans hx); clear hx))
          all_goals go_ret
          all_goals exact ⟨rfl, HX.out⟩
        · have hl2 := hl hx
          have hxb : ((x : Int) == 0) = false := by rw [beq_eq_false_iff_ne]; exact hx
          clear hz hl
          by_cases hneg : x < 0
          · rw [decide_eq_true hneg] at hl2
            rcases hl2 with hl2 | hl2
            · subst hl2
              cases Q
              all_goals
                go_wp2_with (first | ((with_reducible show Calls _ 26 #[.int .i64 a, .int .u64 (u : Int)] _ _); refine (v1 _).mono ?_; rintro e w1 ⟨rfl, hx⟩; replace HX := hid (HX.out.trans hx); clear hx) | ((with_reducible show Calls _ 26 #[.int .i64 b, .int .u64 (u : Int)] _ _); refine (v2 _).mono ?_; rintro e w1 ⟨rfl, hx⟩; replace HX := hid (HX.out.trans hx); clear hx) | ((with_reducible show Calls _ 24 #[.int .u64 (u : Int)] _ _); refine (o1 _).mono ?_; rintro e w1 ⟨rfl, hx⟩; replace HX := hid (HX.out.trans hx); clear hx) | ((with_reducible show Calls _ 9 #[.int .u64 (u : Int)] _ _); refine (k1 _).mono ?_; rintro e w1 ⟨rfl, hx⟩; replace HX := hid (HX.out.trans hx); clear hx) | ((with_reducible show Calls _ 28 #[.int .i64 a] _ _); refine (i1 _).mono ?_; rintro e w1 ⟨rfl, hx⟩; replace HX := hid (HX.out.trans hx); clear hx) | ((with_reducible show Calls _ 28 #[.int .i64 b] _ _); refine (i2 _).mono ?_; rintro e w1 ⟨rfl, hx⟩; replace HX := hid (HX.out.trans hx); clear hx) | ((with_reducible show Calls _ 17 #[.int .u64 (g : Int), .int .u64 (f : Int)] _ _); refine (l1 _).mono ?_; rintro e w1 ⟨rfl, hx⟩; replace HX := hid (HX.out.trans hx); clear hx) | ((with_reducible show Calls _ 9 #[.int .u64 (f : Int)] _ _); refine (k2 _).mono ?_; rintro e w1 ⟨rfl, hx⟩; replace HX := hid (HX.out.trans hx); clear hx) | ((with_reducible show Calls _ 24 #[.int .u64 (f : Int)] _ _); refine (o2 _).mono ?_; rintro e w1 ⟨rfl, hx⟩; replace HX := hid (HX.out.trans hx); clear hx) | ((with_reducible show Calls _ 17 #[.int .u64 (f : Int), .int .u64 (u : Int)] _ _); refine (l2 _).mono ?_; rintro e w1 ⟨rfl, hx⟩; replace HX := hid (HX.out.trans hx); clear hx) | ((with_reducible show Calls _ 19 #[.int .u64 (f : Int), .int .u64 (u : Int)] _ _); refine (q1 _).mono ?_; rintro e w1 ⟨rfl, hx⟩; replace HX := hid (HX.out.trans hx); clear hx) | ((with_reducible show Calls _ 21 _ _ _); refine (awake_any _).mono ?_; rintro e w1 ⟨rfl, hx⟩; replace HX := hid (HX.out.trans hx); clear hx))
                all_goals go_ret
                all_goals exact ⟨rfl, HX.out⟩
            · subst hl2
              cases L
              all_goals
                go_wp2_with (first | ((with_reducible show Calls _ 26 #[.int .i64 a, .int .u64 (u : Int)] _ _); refine (v1 _).mono ?_; rintro e w1 ⟨rfl, hx⟩; replace HX := hid (HX.out.trans hx); clear hx) | ((with_reducible show Calls _ 26 #[.int .i64 b, .int .u64 (u : Int)] _ _); refine (v2 _).mono ?_; rintro e w1 ⟨rfl, hx⟩; replace HX := hid (HX.out.trans hx); clear hx) | ((with_reducible show Calls _ 24 #[.int .u64 (u : Int)] _ _); refine (o1 _).mono ?_; rintro e w1 ⟨rfl, hx⟩; replace HX := hid (HX.out.trans hx); clear hx) | ((with_reducible show Calls _ 9 #[.int .u64 (u : Int)] _ _); refine (k1 _).mono ?_; rintro e w1 ⟨rfl, hx⟩; replace HX := hid (HX.out.trans hx); clear hx) | ((with_reducible show Calls _ 28 #[.int .i64 a] _ _); refine (i1 _).mono ?_; rintro e w1 ⟨rfl, hx⟩; replace HX := hid (HX.out.trans hx); clear hx) | ((with_reducible show Calls _ 28 #[.int .i64 b] _ _); refine (i2 _).mono ?_; rintro e w1 ⟨rfl, hx⟩; replace HX := hid (HX.out.trans hx); clear hx) | ((with_reducible show Calls _ 17 #[.int .u64 (g : Int), .int .u64 (f : Int)] _ _); refine (l1 _).mono ?_; rintro e w1 ⟨rfl, hx⟩; replace HX := hid (HX.out.trans hx); clear hx) | ((with_reducible show Calls _ 9 #[.int .u64 (f : Int)] _ _); refine (k2 _).mono ?_; rintro e w1 ⟨rfl, hx⟩; replace HX := hid (HX.out.trans hx); clear hx) | ((with_reducible show Calls _ 24 #[.int .u64 (f : Int)] _ _); refine (o2 _).mono ?_; rintro e w1 ⟨rfl, hx⟩; replace HX := hid (HX.out.trans hx); clear hx) | ((with_reducible show Calls _ 17 #[.int .u64 (f : Int), .int .u64 (u : Int)] _ _); refine (l2 _).mono ?_; rintro e w1 ⟨rfl, hx⟩; replace HX := hid (HX.out.trans hx); clear hx) | ((with_reducible show Calls _ 19 #[.int .u64 (f : Int), .int .u64 (u : Int)] _ _); refine (q1 _).mono ?_; rintro e w1 ⟨rfl, hx⟩; replace HX := hid (HX.out.trans hx); clear hx) | ((with_reducible show Calls _ 21 _ _ _); refine (awake_any _).mono ?_; rintro e w1 ⟨rfl, hx⟩; replace HX := hid (HX.out.trans hx); clear hx))
                all_goals go_ret
                all_goals exact ⟨rfl, HX.out⟩
          · rw [decide_eq_false hneg] at hl2
            rcases hl2 with hl2 | hl2
            · subst hl2
              cases Q
              all_goals
                go_wp2_with (first | ((with_reducible show Calls _ 26 #[.int .i64 a, .int .u64 (u : Int)] _ _); refine (v1 _).mono ?_; rintro e w1 ⟨rfl, hx⟩; replace HX := hid (HX.out.trans hx); clear hx) | ((with_reducible show Calls _ 26 #[.int .i64 b, .int .u64 (u : Int)] _ _); refine (v2 _).mono ?_; rintro e w1 ⟨rfl, hx⟩; replace HX := hid (HX.out.trans hx); clear hx) | ((with_reducible show Calls _ 24 #[.int .u64 (u : Int)] _ _); refine (o1 _).mono ?_; rintro e w1 ⟨rfl, hx⟩; replace HX := hid (HX.out.trans hx); clear hx) | ((with_reducible show Calls _ 9 #[.int .u64 (u : Int)] _ _); refine (k1 _).mono ?_; rintro e w1 ⟨rfl, hx⟩; replace HX := hid (HX.out.trans hx); clear hx) | ((with_reducible show Calls _ 28 #[.int .i64 a] _ _); refine (i1 _).mono ?_; rintro e w1 ⟨rfl, hx⟩; replace HX := hid (HX.out.trans hx); clear hx) | ((with_reducible show Calls _ 28 #[.int .i64 b] _ _); refine (i2 _).mono ?_; rintro e w1 ⟨rfl, hx⟩; replace HX := hid (HX.out.trans hx); clear hx) | ((with_reducible show Calls _ 17 #[.int .u64 (g : Int), .int .u64 (f : Int)] _ _); refine (l1 _).mono ?_; rintro e w1 ⟨rfl, hx⟩; replace HX := hid (HX.out.trans hx); clear hx) | ((with_reducible show Calls _ 9 #[.int .u64 (f : Int)] _ _); refine (k2 _).mono ?_; rintro e w1 ⟨rfl, hx⟩; replace HX := hid (HX.out.trans hx); clear hx) | ((with_reducible show Calls _ 24 #[.int .u64 (f : Int)] _ _); refine (o2 _).mono ?_; rintro e w1 ⟨rfl, hx⟩; replace HX := hid (HX.out.trans hx); clear hx) | ((with_reducible show Calls _ 17 #[.int .u64 (f : Int), .int .u64 (u : Int)] _ _); refine (l2 _).mono ?_; rintro e w1 ⟨rfl, hx⟩; replace HX := hid (HX.out.trans hx); clear hx) | ((with_reducible show Calls _ 19 #[.int .u64 (f : Int), .int .u64 (u : Int)] _ _); refine (q1 _).mono ?_; rintro e w1 ⟨rfl, hx⟩; replace HX := hid (HX.out.trans hx); clear hx) | ((with_reducible show Calls _ 21 _ _ _); refine (awake_any _).mono ?_; rintro e w1 ⟨rfl, hx⟩; replace HX := hid (HX.out.trans hx); clear hx))
                all_goals go_ret
                all_goals exact ⟨rfl, HX.out⟩
            · subst hl2
              cases L
              all_goals
                go_wp2_with (first | ((with_reducible show Calls _ 26 #[.int .i64 a, .int .u64 (u : Int)] _ _); refine (v1 _).mono ?_; rintro e w1 ⟨rfl, hx⟩; replace HX := hid (HX.out.trans hx); clear hx) | ((with_reducible show Calls _ 26 #[.int .i64 b, .int .u64 (u : Int)] _ _); refine (v2 _).mono ?_; rintro e w1 ⟨rfl, hx⟩; replace HX := hid (HX.out.trans hx); clear hx) | ((with_reducible show Calls _ 24 #[.int .u64 (u : Int)] _ _); refine (o1 _).mono ?_; rintro e w1 ⟨rfl, hx⟩; replace HX := hid (HX.out.trans hx); clear hx) | ((with_reducible show Calls _ 9 #[.int .u64 (u : Int)] _ _); refine (k1 _).mono ?_; rintro e w1 ⟨rfl, hx⟩; replace HX := hid (HX.out.trans hx); clear hx) | ((with_reducible show Calls _ 28 #[.int .i64 a] _ _); refine (i1 _).mono ?_; rintro e w1 ⟨rfl, hx⟩; replace HX := hid (HX.out.trans hx); clear hx) | ((with_reducible show Calls _ 28 #[.int .i64 b] _ _); refine (i2 _).mono ?_; rintro e w1 ⟨rfl, hx⟩; replace HX := hid (HX.out.trans hx); clear hx) | ((with_reducible show Calls _ 17 #[.int .u64 (g : Int), .int .u64 (f : Int)] _ _); refine (l1 _).mono ?_; rintro e w1 ⟨rfl, hx⟩; replace HX := hid (HX.out.trans hx); clear hx) | ((with_reducible show Calls _ 9 #[.int .u64 (f : Int)] _ _); refine (k2 _).mono ?_; rintro e w1 ⟨rfl, hx⟩; replace HX := hid (HX.out.trans hx); clear hx) | ((with_reducible show Calls _ 24 #[.int .u64 (f : Int)] _ _); refine (o2 _).mono ?_; rintro e w1 ⟨rfl, hx⟩; replace HX := hid (HX.out.trans hx); clear hx) | ((with_reducible show Calls _ 17 #[.int .u64 (f : Int), .int .u64 (u : Int)] _ _); refine (l2 _).mono ?_; rintro e w1 ⟨rfl, hx⟩; replace HX := hid (HX.out.trans hx); clear hx) | ((with_reducible show Calls _ 19 #[.int .u64 (f : Int), .int .u64 (u : Int)] _ _); refine (q1 _).mono ?_; rintro e w1 ⟨rfl, hx⟩; replace HX := hid (HX.out.trans hx); clear hx) | ((with_reducible show Calls _ 21 _ _ _); refine (awake_any _).mono ?_; rintro e w1 ⟨rfl, hx⟩; replace HX := hid (HX.out.trans hx); clear hx))
                all_goals go_ret
                all_goals exact ⟨rfl, HX.out⟩
theorem exact_any (a b : Int) (u : Nat) (w : World) (ha0 : -9223372036854775808 ≤ a) (ha1 : a ≤ 9223372036854775807) (hb0 : -9223372036854775808 ≤ b) (hb1 : b ≤ 9223372036854775807) (hu : u ≤ 18446744073709551615) :
    Calls Try.prog 8 #[.agg #[.int .i64 a, .int .i64 b], .int .u64 (u : Int)] w (Says w (.bool true)) := by
  by_cases h : a < -4611686018427387904 ∨ b < a ∨ 4611686018427387904 < b
  · exact exact_out a b u w h ha0 ha1 hb0 hb1
  · exact exact_in a b u w (by omega) (by omega) (by omega) hu
end Go.Proofs.Ytmgcikjpgbhpgaa
