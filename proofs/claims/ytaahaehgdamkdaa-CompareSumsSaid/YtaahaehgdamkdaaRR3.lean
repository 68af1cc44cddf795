/- The document's Add, by its contract. Conditions: none. -/
import Derived.Test.YtaahaehgdamkdaaRR2
namespace Go.Proofs.Ytaahaehgdamkdaa
open Go Go.RowKit

set_option maxHeartbeats 1600000 in
theorem radd_any (a b : Nat) (w : World) (ha : a ≤ 18446744073709551615) (hb : b ≤ 18446744073709551615) : Calls Try.prog 42 #[.int .u64 (a : Int), .int .u64 (b : Int)] w (Just w (.int .u64 (addZ a b : Int))) := by
  have k1 := fun W => rkind_any a W ha
  have k2 := fun W => rkind_any b W hb
  have hka := kind_le a
  have hkb := kind_le b
  have hadd : addZ a b = if nanSum a b then nanC else if kindZ a = 4 then a else if kindZ b = 4 then b else sumZ a b := rfl
  have hnan : nanSum a b ↔ kindZ a = 5 ∨ kindZ b = 5 ∨ (kindZ a = 4 ∧ kindZ b = 4 ∧ a ≠ b) := Iff.rfl
  generalize addZ a b = D at *
  generalize kindZ a = x at *
  generalize kindZ b = y at *
  by_cases hn : nanSum a b
  · rw [if_pos hn] at hadd
    have HD := hid hadd
    rw [hnan] at hn
    clear hadd hnan
    by_cases h1 : x = 5
    · go_enter Try.func42, Try.ntmps42
      go_wp2_with (first | ((with_reducible show Calls _ 62 #[.int .u64 (a : Int)] _ _); refine (k1 _).mono ?_; rintro e w1 ⟨rfl, rfl⟩) | ((with_reducible show Calls _ 62 #[.int .u64 (b : Int)] _ _); refine (k2 _).mono ?_; rintro e w1 ⟨rfl, rfl⟩))
      all_goals go_ret
      all_goals exact Just.mk_int (by rw [HD.out]; rfl)
    · by_cases h2 : y = 5
      · go_enter Try.func42, Try.ntmps42
        go_wp2_with (first | ((with_reducible show Calls _ 62 #[.int .u64 (a : Int)] _ _); refine (k1 _).mono ?_; rintro e w1 ⟨rfl, rfl⟩) | ((with_reducible show Calls _ 62 #[.int .u64 (b : Int)] _ _); refine (k2 _).mono ?_; rintro e w1 ⟨rfl, rfl⟩))
        all_goals go_ret
        all_goals exact Just.mk_int (by rw [HD.out]; rfl)
      · obtain ⟨h3, h4, h5⟩ : x = 4 ∧ y = 4 ∧ a ≠ b := by omega
        clear hn
        have h5b : ((a : Int) != (b : Int)) = true := by rw [bne_iff_ne]; omega
        go_enter Try.func42, Try.ntmps42
        go_wp2_with (first | ((with_reducible show Calls _ 62 #[.int .u64 (a : Int)] _ _); refine (k1 _).mono ?_; rintro e w1 ⟨rfl, rfl⟩) | ((with_reducible show Calls _ 62 #[.int .u64 (b : Int)] _ _); refine (k2 _).mono ?_; rintro e w1 ⟨rfl, rfl⟩))
        all_goals go_ret
        all_goals exact Just.mk_int (by rw [HD.out]; rfl)
  · rw [if_neg hn] at hadd
    rw [hnan] at hn
    have hx5 : ¬ x = 5 := by omega
    have hy5 : ¬ y = 5 := by omega
    have hx5b : ((x : Int) == 5) = false := by rw [beq_eq_false_iff_ne]; omega
    have hy5b : ((y : Int) == 5) = false := by rw [beq_eq_false_iff_ne]; omega
    by_cases hx4 : x = 4
    · rw [if_pos hx4] at hadd
      have HD := hid hadd
      clear hadd hnan
      by_cases hy4 : y = 4
      · have hab : a = b := by omega
        have habb : ((a : Int) != (b : Int)) = false := by rw [bne_eq_false_iff_eq]; omega
        clear hn
        go_enter Try.func42, Try.ntmps42
        go_wp2_with (first | ((with_reducible show Calls _ 62 #[.int .u64 (a : Int)] _ _); refine (k1 _).mono ?_; rintro e w1 ⟨rfl, rfl⟩) | ((with_reducible show Calls _ 62 #[.int .u64 (b : Int)] _ _); refine (k2 _).mono ?_; rintro e w1 ⟨rfl, rfl⟩))
        all_goals go_ret
        all_goals exact Just.mk_int (by have := HD.out; omega)
      · clear hn
        go_enter Try.func42, Try.ntmps42
        go_wp2_with (first | ((with_reducible show Calls _ 62 #[.int .u64 (a : Int)] _ _); refine (k1 _).mono ?_; rintro e w1 ⟨rfl, rfl⟩) | ((with_reducible show Calls _ 62 #[.int .u64 (b : Int)] _ _); refine (k2 _).mono ?_; rintro e w1 ⟨rfl, rfl⟩))
        all_goals go_ret
        all_goals exact Just.mk_int (by have := HD.out; omega)
    · rw [if_neg hx4] at hadd
      have hx4b : ((x : Int) == 4) = false := by rw [beq_eq_false_iff_ne]; omega
      by_cases hy4 : y = 4
      · rw [if_pos hy4] at hadd
        have HD := hid hadd
        clear hadd hnan hn
        go_enter Try.func42, Try.ntmps42
        go_wp2_with (first | ((with_reducible show Calls _ 62 #[.int .u64 (a : Int)] _ _); refine (k1 _).mono ?_; rintro e w1 ⟨rfl, rfl⟩) | ((with_reducible show Calls _ 62 #[.int .u64 (b : Int)] _ _); refine (k2 _).mono ?_; rintro e w1 ⟨rfl, rfl⟩))
        all_goals go_ret
        all_goals exact Just.mk_int (by have := HD.out; omega)
      · rw [if_neg hy4] at hadd
        subst hadd
        clear hnan hn
        have s1 := fun W => rscale_any a W ha
        have s2 := fun W => rscale_any b W hb
        have m1 := fun W => rman_any a W ha
        have m2 := fun W => rman_any b W hb
        have g1 := fun W => rsign_any a W
        have g2 := fun W => rsign_any b W
        have hsa := scale_lt a
        have hsb := scale_lt b
        have hpa := scale_pos a
        have hpb := scale_pos b
        have hma := man_lt a
        have hmb := man_lt b
        by_cases hlo : scaleZ a < scaleZ b
        · obtain ⟨f1, f2, f3, f4, f5⟩ := sum_facts b a (by omega)
          have hsm := sum_same (a := b) (b := a)
          have hsn := sum_none (a := b) (b := a)
          have hsg := sum_more (a := b) (b := a)
          have hsf := sum_fewer (a := b) (b := a)
          rw [← sum_comm] at hsm hsn hsg hsf
          have hyl := stk_le (8 * manZ a) (scaleZ b - scaleZ a)
          have hd0 := fun W => rdown_any (8 * manZ a) (scaleZ b - scaleZ a) W (by omega) (by omega)
          generalize hY : stk (8 * manZ a) (scaleZ b - scaleZ a) = Y at *
          clear hY
          have hr1 := fun W => rround_any (sgZ b) (8 * manZ b + Y) (scaleZ b) (valZ b + valZ a) W (by omega) (by omega) (by omega) f1
          have hr2 := fun (h : valZ a ≤ valZ b) W => rround_any (sgZ b) (8 * manZ b - Y) (scaleZ b) (valZ b - valZ a) W (by omega) (by omega) (by omega) (f4 h)
          have hr3 := fun (h : valZ b ≤ valZ a) W => rround_any (sgZ a) (Y - 8 * manZ b) (scaleZ b) (valZ a - valZ b) W (by omega) (by omega) (by omega) (f5 h)
          generalize hS : sumZ a b = S at *
          clear hS f1 f4 f5
          generalize scaleZ a = sa at *
          generalize scaleZ b = sb at *
          generalize manZ a = ma at *
          generalize manZ b = mb at *
          generalize sgZ a = ga at *
          generalize sgZ b = gb at *
          have hd : ∀ W, Calls Try.prog 65 #[.int .u64 (8 * (ma : Int)), .int .i64 ((sb : Int) - (sa : Int))] W (Just W (.int .u64 (Y : Int))) := fun W => by
            have h := hd0 W
            rw [show ((8 * ma : Nat) : Int) = 8 * (ma : Int) by omega, show ((sb - sa : Nat) : Int) = (sb : Int) - (sa : Int) by omega] at h
            exact h
          clear hd0
          by_cases hg : gb = ga
          · have he := hsm hg
            subst hg
            rw [← he] at hr1
            have hr : ∀ W, Calls Try.prog 67 #[.bool gb, .int .u64 (8 * (mb : Int) + (Y : Int)), .int .i64 (sb : Int)] W (Just W (.int .u64 (S : Int))) := fun W => by
              have h := hr1 W
              rw [show ((8 * mb + Y : Nat) : Int) = 8 * (mb : Int) + (Y : Int) by omega] at h
              exact h
            clear hr1 hr2 hr3 hsm hsn hsg hsf he f2 f3
            go_enter Try.func42, Try.ntmps42
            go_wp2_with (first | ((with_reducible show Calls _ 62 #[.int .u64 (a : Int)] _ _); refine (k1 _).mono ?_; rintro e w1 ⟨rfl, rfl⟩) | ((with_reducible show Calls _ 62 #[.int .u64 (b : Int)] _ _); refine (k2 _).mono ?_; rintro e w1 ⟨rfl, rfl⟩) | ((with_reducible show Calls _ 63 #[.int .u64 (a : Int)] _ _); refine (s1 _).mono ?_; rintro e w1 ⟨rfl, rfl⟩) | ((with_reducible show Calls _ 63 #[.int .u64 (b : Int)] _ _); refine (s2 _).mono ?_; rintro e w1 ⟨rfl, rfl⟩) | ((with_reducible show Calls _ 64 #[.int .u64 (a : Int)] _ _); refine (m1 _).mono ?_; rintro e w1 ⟨rfl, rfl⟩) | ((with_reducible show Calls _ 64 #[.int .u64 (b : Int)] _ _); refine (m2 _).mono ?_; rintro e w1 ⟨rfl, rfl⟩) | ((with_reducible show Calls _ 66 #[.int .u64 (a : Int)] _ _); refine (g1 _).mono ?_; rintro e w1 ⟨rfl, rfl⟩) | ((with_reducible show Calls _ 66 #[.int .u64 (b : Int)] _ _); refine (g2 _).mono ?_; rintro e w1 ⟨rfl, rfl⟩) | ((with_reducible show Calls _ 65 _ _ _); refine (hd _).mono ?_; rintro e w1 ⟨rfl, rfl⟩) | ((with_reducible show Calls _ 67 _ _ _); refine (hr _).mono ?_; rintro e w1 ⟨rfl, rfl⟩))
            all_goals go_ret
            all_goals exact ⟨rfl, rfl⟩
          · clear hr1 hsm
            have hgb : (gb == ga) = false := by rw [beq_eq_false_iff_ne]; exact hg
            rcases Nat.lt_trichotomy (valZ a) (valZ b) with hv | hv | hv
            · have he := hsg hg hv
              have hxy := f2.2 hv
              have hr0 := hr2 (by omega)
              rw [← he] at hr0
              have hr : ∀ W, Calls Try.prog 67 #[.bool gb, .int .u64 (8 * (mb : Int) - (Y : Int)), .int .i64 (sb : Int)] W (Just W (.int .u64 (S : Int))) := fun W => by
                have h := hr0 W
                rw [show ((8 * mb - Y : Nat) : Int) = 8 * (mb : Int) - (Y : Int) by omega] at h
                exact h
              clear hr2 hr3 hr0 hsn hsg hsf he f2 f3 hv
              go_enter Try.func42, Try.ntmps42
              go_wp2_with (first | ((with_reducible show Calls _ 62 #[.int .u64 (a : Int)] _ _); refine (k1 _).mono ?_; rintro e w1 ⟨rfl, rfl⟩) | ((with_reducible show Calls _ 62 #[.int .u64 (b : Int)] _ _); refine (k2 _).mono ?_; rintro e w1 ⟨rfl, rfl⟩) | ((with_reducible show Calls _ 63 #[.int .u64 (a : Int)] _ _); refine (s1 _).mono ?_; rintro e w1 ⟨rfl, rfl⟩) | ((with_reducible show Calls _ 63 #[.int .u64 (b : Int)] _ _); refine (s2 _).mono ?_; rintro e w1 ⟨rfl, rfl⟩) | ((with_reducible show Calls _ 64 #[.int .u64 (a : Int)] _ _); refine (m1 _).mono ?_; rintro e w1 ⟨rfl, rfl⟩) | ((with_reducible show Calls _ 64 #[.int .u64 (b : Int)] _ _); refine (m2 _).mono ?_; rintro e w1 ⟨rfl, rfl⟩) | ((with_reducible show Calls _ 66 #[.int .u64 (a : Int)] _ _); refine (g1 _).mono ?_; rintro e w1 ⟨rfl, rfl⟩) | ((with_reducible show Calls _ 66 #[.int .u64 (b : Int)] _ _); refine (g2 _).mono ?_; rintro e w1 ⟨rfl, rfl⟩) | ((with_reducible show Calls _ 65 _ _ _); refine (hd _).mono ?_; rintro e w1 ⟨rfl, rfl⟩) | ((with_reducible show Calls _ 67 _ _ _); refine (hr _).mono ?_; rintro e w1 ⟨rfl, rfl⟩))
              all_goals go_ret
              all_goals exact ⟨rfl, rfl⟩
            · have he := hsn hg hv.symm
              have hxy := f3.2 hv
              clear hr2 hr3 hsn hsg hsf f2 f3 hv
              go_enter Try.func42, Try.ntmps42
              go_wp2_with (first | ((with_reducible show Calls _ 62 #[.int .u64 (a : Int)] _ _); refine (k1 _).mono ?_; rintro e w1 ⟨rfl, rfl⟩) | ((with_reducible show Calls _ 62 #[.int .u64 (b : Int)] _ _); refine (k2 _).mono ?_; rintro e w1 ⟨rfl, rfl⟩) | ((with_reducible show Calls _ 63 #[.int .u64 (a : Int)] _ _); refine (s1 _).mono ?_; rintro e w1 ⟨rfl, rfl⟩) | ((with_reducible show Calls _ 63 #[.int .u64 (b : Int)] _ _); refine (s2 _).mono ?_; rintro e w1 ⟨rfl, rfl⟩) | ((with_reducible show Calls _ 64 #[.int .u64 (a : Int)] _ _); refine (m1 _).mono ?_; rintro e w1 ⟨rfl, rfl⟩) | ((with_reducible show Calls _ 64 #[.int .u64 (b : Int)] _ _); refine (m2 _).mono ?_; rintro e w1 ⟨rfl, rfl⟩) | ((with_reducible show Calls _ 66 #[.int .u64 (a : Int)] _ _); refine (g1 _).mono ?_; rintro e w1 ⟨rfl, rfl⟩) | ((with_reducible show Calls _ 66 #[.int .u64 (b : Int)] _ _); refine (g2 _).mono ?_; rintro e w1 ⟨rfl, rfl⟩) | ((with_reducible show Calls _ 65 _ _ _); refine (hd _).mono ?_; rintro e w1 ⟨rfl, rfl⟩) | ((with_reducible show Calls _ 67 _ _ _); refine (hr _).mono ?_; rintro e w1 ⟨rfl, rfl⟩))
              all_goals go_ret
              all_goals exact Just.mk_int (by omega)
            · have he := hsf hg hv
              have hxy : 8 * mb < Y := by
                have h2 : ¬ Y < 8 * mb := fun h => by have := f2.1 h; omega
                have h3 : ¬ Y = 8 * mb := fun h => by have := f3.1 h; omega
                omega
              have hr0 := hr3 (by omega)
              rw [← he] at hr0
              have hr : ∀ W, Calls Try.prog 67 #[.bool ga, .int .u64 ((Y : Int) - 8 * (mb : Int)), .int .i64 (sb : Int)] W (Just W (.int .u64 (S : Int))) := fun W => by
                have h := hr0 W
                rw [show ((Y - 8 * mb : Nat) : Int) = (Y : Int) - 8 * (mb : Int) by omega] at h
                exact h
              clear hr2 hr3 hr0 hsn hsg hsf he f2 f3 hv
              go_enter Try.func42, Try.ntmps42
              go_wp2_with (first | ((with_reducible show Calls _ 62 #[.int .u64 (a : Int)] _ _); refine (k1 _).mono ?_; rintro e w1 ⟨rfl, rfl⟩) | ((with_reducible show Calls _ 62 #[.int .u64 (b : Int)] _ _); refine (k2 _).mono ?_; rintro e w1 ⟨rfl, rfl⟩) | ((with_reducible show Calls _ 63 #[.int .u64 (a : Int)] _ _); refine (s1 _).mono ?_; rintro e w1 ⟨rfl, rfl⟩) | ((with_reducible show Calls _ 63 #[.int .u64 (b : Int)] _ _); refine (s2 _).mono ?_; rintro e w1 ⟨rfl, rfl⟩) | ((with_reducible show Calls _ 64 #[.int .u64 (a : Int)] _ _); refine (m1 _).mono ?_; rintro e w1 ⟨rfl, rfl⟩) | ((with_reducible show Calls _ 64 #[.int .u64 (b : Int)] _ _); refine (m2 _).mono ?_; rintro e w1 ⟨rfl, rfl⟩) | ((with_reducible show Calls _ 66 #[.int .u64 (a : Int)] _ _); refine (g1 _).mono ?_; rintro e w1 ⟨rfl, rfl⟩) | ((with_reducible show Calls _ 66 #[.int .u64 (b : Int)] _ _); refine (g2 _).mono ?_; rintro e w1 ⟨rfl, rfl⟩) | ((with_reducible show Calls _ 65 _ _ _); refine (hd _).mono ?_; rintro e w1 ⟨rfl, rfl⟩) | ((with_reducible show Calls _ 67 _ _ _); refine (hr _).mono ?_; rintro e w1 ⟨rfl, rfl⟩))
              all_goals go_ret
              all_goals exact ⟨rfl, rfl⟩
        · obtain ⟨f1, f2, f3, f4, f5⟩ := sum_facts a b (by omega)
          have hsm := sum_same (a := a) (b := b)
          have hsn := sum_none (a := a) (b := b)
          have hsg := sum_more (a := a) (b := b)
          have hsf := sum_fewer (a := a) (b := b)
          have hyl := stk_le (8 * manZ b) (scaleZ a - scaleZ b)
          have hd0 := fun W => rdown_any (8 * manZ b) (scaleZ a - scaleZ b) W (by omega) (by omega)
          generalize hY : stk (8 * manZ b) (scaleZ a - scaleZ b) = Y at *
          clear hY
          have hr1 := fun W => rround_any (sgZ a) (8 * manZ a + Y) (scaleZ a) (valZ a + valZ b) W (by omega) (by omega) (by omega) f1
          have hr2 := fun (h : valZ b ≤ valZ a) W => rround_any (sgZ a) (8 * manZ a - Y) (scaleZ a) (valZ a - valZ b) W (by omega) (by omega) (by omega) (f4 h)
          have hr3 := fun (h : valZ a ≤ valZ b) W => rround_any (sgZ b) (Y - 8 * manZ a) (scaleZ a) (valZ b - valZ a) W (by omega) (by omega) (by omega) (f5 h)
          generalize hS : sumZ a b = S at *
          clear hS f1 f4 f5
          generalize scaleZ a = sa at *
          generalize scaleZ b = sb at *
          generalize manZ a = ma at *
          generalize manZ b = mb at *
          generalize sgZ a = ga at *
          generalize sgZ b = gb at *
          have hd : ∀ W, Calls Try.prog 65 #[.int .u64 (8 * (mb : Int)), .int .i64 ((sa : Int) - (sb : Int))] W (Just W (.int .u64 (Y : Int))) := fun W => by
            have h := hd0 W
            rw [show ((8 * mb : Nat) : Int) = 8 * (mb : Int) by omega, show ((sa - sb : Nat) : Int) = (sa : Int) - (sb : Int) by omega] at h
            exact h
          clear hd0
          by_cases hg : ga = gb
          · have he := hsm hg
            subst hg
            rw [← he] at hr1
            have hr : ∀ W, Calls Try.prog 67 #[.bool ga, .int .u64 (8 * (ma : Int) + (Y : Int)), .int .i64 (sa : Int)] W (Just W (.int .u64 (S : Int))) := fun W => by
              have h := hr1 W
              rw [show ((8 * ma + Y : Nat) : Int) = 8 * (ma : Int) + (Y : Int) by omega] at h
              exact h
            clear hr1 hr2 hr3 hsm hsn hsg hsf he f2 f3
            go_enter Try.func42, Try.ntmps42
            go_wp2_with (first | ((with_reducible show Calls _ 62 #[.int .u64 (a : Int)] _ _); refine (k1 _).mono ?_; rintro e w1 ⟨rfl, rfl⟩) | ((with_reducible show Calls _ 62 #[.int .u64 (b : Int)] _ _); refine (k2 _).mono ?_; rintro e w1 ⟨rfl, rfl⟩) | ((with_reducible show Calls _ 63 #[.int .u64 (a : Int)] _ _); refine (s1 _).mono ?_; rintro e w1 ⟨rfl, rfl⟩) | ((with_reducible show Calls _ 63 #[.int .u64 (b : Int)] _ _); refine (s2 _).mono ?_; rintro e w1 ⟨rfl, rfl⟩) | ((with_reducible show Calls _ 64 #[.int .u64 (a : Int)] _ _); refine (m1 _).mono ?_; rintro e w1 ⟨rfl, rfl⟩) | ((with_reducible show Calls _ 64 #[.int .u64 (b : Int)] _ _); refine (m2 _).mono ?_; rintro e w1 ⟨rfl, rfl⟩) | ((with_reducible show Calls _ 66 #[.int .u64 (a : Int)] _ _); refine (g1 _).mono ?_; rintro e w1 ⟨rfl, rfl⟩) | ((with_reducible show Calls _ 66 #[.int .u64 (b : Int)] _ _); refine (g2 _).mono ?_; rintro e w1 ⟨rfl, rfl⟩) | ((with_reducible show Calls _ 65 _ _ _); refine (hd _).mono ?_; rintro e w1 ⟨rfl, rfl⟩) | ((with_reducible show Calls _ 67 _ _ _); refine (hr _).mono ?_; rintro e w1 ⟨rfl, rfl⟩))
            all_goals go_ret
            all_goals exact ⟨rfl, rfl⟩
          · clear hr1 hsm
            have hgb : (ga == gb) = false := by rw [beq_eq_false_iff_ne]; exact hg
            rcases Nat.lt_trichotomy (valZ b) (valZ a) with hv | hv | hv
            · have he := hsg hg hv
              have hxy := f2.2 hv
              have hr0 := hr2 (by omega)
              rw [← he] at hr0
              have hr : ∀ W, Calls Try.prog 67 #[.bool ga, .int .u64 (8 * (ma : Int) - (Y : Int)), .int .i64 (sa : Int)] W (Just W (.int .u64 (S : Int))) := fun W => by
                have h := hr0 W
                rw [show ((8 * ma - Y : Nat) : Int) = 8 * (ma : Int) - (Y : Int) by omega] at h
                exact h
              clear hr2 hr3 hr0 hsn hsg hsf he f2 f3 hv
              go_enter Try.func42, Try.ntmps42
              go_wp2_with (first | ((with_reducible show Calls _ 62 #[.int .u64 (a : Int)] _ _); refine (k1 _).mono ?_; rintro e w1 ⟨rfl, rfl⟩) | ((with_reducible show Calls _ 62 #[.int .u64 (b : Int)] _ _); refine (k2 _).mono ?_; rintro e w1 ⟨rfl, rfl⟩) | ((with_reducible show Calls _ 63 #[.int .u64 (a : Int)] _ _); refine (s1 _).mono ?_; rintro e w1 ⟨rfl, rfl⟩) | ((with_reducible show Calls _ 63 #[.int .u64 (b : Int)] _ _); refine (s2 _).mono ?_; rintro e w1 ⟨rfl, rfl⟩) | ((with_reducible show Calls _ 64 #[.int .u64 (a : Int)] _ _); refine (m1 _).mono ?_; rintro e w1 ⟨rfl, rfl⟩) | ((with_reducible show Calls _ 64 #[.int .u64 (b : Int)] _ _); refine (m2 _).mono ?_; rintro e w1 ⟨rfl, rfl⟩) | ((with_reducible show Calls _ 66 #[.int .u64 (a : Int)] _ _); refine (g1 _).mono ?_; rintro e w1 ⟨rfl, rfl⟩) | ((with_reducible show Calls _ 66 #[.int .u64 (b : Int)] _ _); refine (g2 _).mono ?_; rintro e w1 ⟨rfl, rfl⟩) | ((with_reducible show Calls _ 65 _ _ _); refine (hd _).mono ?_; rintro e w1 ⟨rfl, rfl⟩) | ((with_reducible show Calls _ 67 _ _ _); refine (hr _).mono ?_; rintro e w1 ⟨rfl, rfl⟩))
              all_goals go_ret
              all_goals exact ⟨rfl, rfl⟩
            · have he := hsn hg hv.symm
              have hxy := f3.2 hv
              clear hr2 hr3 hsn hsg hsf f2 f3 hv
              go_enter Try.func42, Try.ntmps42
              go_wp2_with (first | ((with_reducible show Calls _ 62 #[.int .u64 (a : Int)] _ _); refine (k1 _).mono ?_; rintro e w1 ⟨rfl, rfl⟩) | ((with_reducible show Calls _ 62 #[.int .u64 (b : Int)] _ _); refine (k2 _).mono ?_; rintro e w1 ⟨rfl, rfl⟩) | ((with_reducible show Calls _ 63 #[.int .u64 (a : Int)] _ _); refine (s1 _).mono ?_; rintro e w1 ⟨rfl, rfl⟩) | ((with_reducible show Calls _ 63 #[.int .u64 (b : Int)] _ _); refine (s2 _).mono ?_; rintro e w1 ⟨rfl, rfl⟩) | ((with_reducible show Calls _ 64 #[.int .u64 (a : Int)] _ _); refine (m1 _).mono ?_; rintro e w1 ⟨rfl, rfl⟩) | ((with_reducible show Calls _ 64 #[.int .u64 (b : Int)] _ _); refine (m2 _).mono ?_; rintro e w1 ⟨rfl, rfl⟩) | ((with_reducible show Calls _ 66 #[.int .u64 (a : Int)] _ _); refine (g1 _).mono ?_; rintro e w1 ⟨rfl, rfl⟩) | ((with_reducible show Calls _ 66 #[.int .u64 (b : Int)] _ _); refine (g2 _).mono ?_; rintro e w1 ⟨rfl, rfl⟩) | ((with_reducible show Calls _ 65 _ _ _); refine (hd _).mono ?_; rintro e w1 ⟨rfl, rfl⟩) | ((with_reducible show Calls _ 67 _ _ _); refine (hr _).mono ?_; rintro e w1 ⟨rfl, rfl⟩))
              all_goals go_ret
              all_goals exact Just.mk_int (by omega)
            · have he := hsf hg hv
              have hxy : 8 * ma < Y := by
                have h2 : ¬ Y < 8 * ma := fun h => by have := f2.1 h; omega
                have h3 : ¬ Y = 8 * ma := fun h => by have := f3.1 h; omega
                omega
              have hr0 := hr3 (by omega)
              rw [← he] at hr0
              have hr : ∀ W, Calls Try.prog 67 #[.bool gb, .int .u64 ((Y : Int) - 8 * (ma : Int)), .int .i64 (sa : Int)] W (Just W (.int .u64 (S : Int))) := fun W => by
                have h := hr0 W
                rw [show ((Y - 8 * ma : Nat) : Int) = (Y : Int) - 8 * (ma : Int) by omega] at h
                exact h
              clear hr2 hr3 hr0 hsn hsg hsf he f2 f3 hv
              go_enter Try.func42, Try.ntmps42
              go_wp2_with (first | ((with_reducible show Calls _ 62 #[.int .u64 (a : Int)] _ _); refine (k1 _).mono ?_; rintro e w1 ⟨rfl, rfl⟩) | ((with_reducible show Calls _ 62 #[.int .u64 (b : Int)] _ _); refine (k2 _).mono ?_; rintro e w1 ⟨rfl, rfl⟩) | ((with_reducible show Calls _ 63 #[.int .u64 (a : Int)] _ _); refine (s1 _).mono ?_; rintro e w1 ⟨rfl, rfl⟩) | ((with_reducible show Calls _ 63 #[.int .u64 (b : Int)] _ _); refine (s2 _).mono ?_; rintro e w1 ⟨rfl, rfl⟩) | ((with_reducible show Calls _ 64 #[.int .u64 (a : Int)] _ _); refine (m1 _).mono ?_; rintro e w1 ⟨rfl, rfl⟩) | ((with_reducible show Calls _ 64 #[.int .u64 (b : Int)] _ _); refine (m2 _).mono ?_; rintro e w1 ⟨rfl, rfl⟩) | ((with_reducible show Calls _ 66 #[.int .u64 (a : Int)] _ _); refine (g1 _).mono ?_; rintro e w1 ⟨rfl, rfl⟩) | ((with_reducible show Calls _ 66 #[.int .u64 (b : Int)] _ _); refine (g2 _).mono ?_; rintro e w1 ⟨rfl, rfl⟩) | ((with_reducible show Calls _ 65 _ _ _); refine (hd _).mono ?_; rintro e w1 ⟨rfl, rfl⟩) | ((with_reducible show Calls _ 67 _ _ _); refine (hr _).mono ?_; rintro e w1 ⟨rfl, rfl⟩))
              all_goals go_ret
              all_goals exact ⟨rfl, rfl⟩
end Go.Proofs.Ytaahaehgdamkdaa
