/- The document's Versus, by its contract. Conditions: none. -/
import Derived.Test.YtaahaehgdamkdaaRR6
namespace Go.Proofs.Ytaahaehgdamkdaa
open Go Go.RowKit

set_option maxRecDepth 100000 in
set_option maxHeartbeats 1600000 in
theorem rversus_any (n : Int) (u : Nat) (w : World) (h0 : -9223372036854775808 ≤ n) (h1 : n ≤ 9223372036854775807) (hu : u ≤ 18446744073709551615) :
    Calls Try.prog 55 #[.int .i64 n, .int .u64 (u : Int)] w (JustB w (versusZ n u)) := by
  have k1 := fun W => rkind_any u W hu
  have g1 := fun W => rsign_any u W
  have hkl := kind_le u
  by_cases hbad : kindZ u = 5 ∨ n < -4611686018427387904 ∨ 4611686018427387904 < n
  · have HV := hid (versus_out hbad)
    generalize kindZ u = k at *
    generalize versusZ n u = R at *
    by_cases hk : k = 5
    · clear hbad
      go_enter Try.func55, Try.ntmps55
      go_wp2_with (first | ((with_reducible show Calls _ 62 _ _ _); refine (k1 _).mono ?_; rintro e w1 ⟨rfl, rfl⟩) | ((with_reducible show Calls _ 66 _ _ _); refine (g1 _).mono ?_; rintro e w1 ⟨rfl, rfl⟩))
      all_goals go_ret2
      all_goals exact JustB.mk HV.out rfl
    · have hkb : ((k : Int) == 5) = false := by rw [beq_eq_false_iff_ne]; omega
      by_cases hn : n < -4611686018427387904
      · clear hbad
        go_enter Try.func55, Try.ntmps55
        go_wp2_with (first | ((with_reducible show Calls _ 62 _ _ _); refine (k1 _).mono ?_; rintro e w1 ⟨rfl, rfl⟩) | ((with_reducible show Calls _ 66 _ _ _); refine (g1 _).mono ?_; rintro e w1 ⟨rfl, rfl⟩))
        all_goals go_ret2
        all_goals exact JustB.mk HV.out rfl
      · have hn2 : 4611686018427387904 < n := by omega
        clear hbad
        go_enter Try.func55, Try.ntmps55
        go_wp2_with (first | ((with_reducible show Calls _ 62 _ _ _); refine (k1 _).mono ?_; rintro e w1 ⟨rfl, rfl⟩) | ((with_reducible show Calls _ 66 _ _ _); refine (g1 _).mono ?_; rintro e w1 ⟨rfl, rfl⟩))
        all_goals go_ret2
        all_goals exact JustB.mk HV.out rfl
  · have hz := versus_zero hbad
    have hb := versus_below hbad
    have ha := versus_above hbad
    have hr := ragainst_any
    generalize hV : valZ u = V at *
    have hkb : ¬ kindZ u = 5 := by omega
    have hn0 : ¬ n < -4611686018427387904 := by omega
    have hn1 : ¬ 4611686018427387904 < n := by omega
    generalize kindZ u = k at *
    generalize versusZ n u = R at *
    clear hbad
    have hkb5 : ((k : Int) == 5) = false := by rw [beq_eq_false_iff_ne]; omega
    by_cases hk1 : k = 1
    · have HZ := hid (hz hk1)
      clear hz hb ha hr
      by_cases c1 : n < 0 <;> by_cases c2 : n < 1
      all_goals first
        | (exfalso; omega)
        | (go_enter Try.func55, Try.ntmps55
           go_wp2_with (first | ((with_reducible show Calls _ 62 _ _ _); refine (k1 _).mono ?_; rintro e w1 ⟨rfl, rfl⟩) | ((with_reducible show Calls _ 66 _ _ _); refine (g1 _).mono ?_; rintro e w1 ⟨rfl, rfl⟩))
           all_goals go_ret2
           all_goals exact JustB.mk HZ.out (by (repeat' split) <;> omega))
    · have hk1b : ((k : Int) == 1) = false := by rw [beq_eq_false_iff_ne]; omega
      cases hs : sgZ u
      · have HA := hid (ha hk1 hs)
        rw [hs] at g1
        clear hz hb ha
        by_cases c1 : n ≤ 0
        · have HA2 := hid (show R = (-1, true) by rw [HA.out, if_pos (Or.inl c1)])
          clear HA hr
          go_enter Try.func55, Try.ntmps55
          go_wp2_with (first | ((with_reducible show Calls _ 62 _ _ _); refine (k1 _).mono ?_; rintro e w1 ⟨rfl, rfl⟩) | ((with_reducible show Calls _ 66 _ _ _); refine (g1 _).mono ?_; rintro e w1 ⟨rfl, rfl⟩))
          all_goals go_ret2
          all_goals exact JustB.mk HA2.out rfl
        · by_cases hk4 : k = 4
          · have HA2 := hid (show R = (-1, true) by rw [HA.out, if_pos (Or.inr hk4)])
            clear HA hr
            go_enter Try.func55, Try.ntmps55
            go_wp2_with (first | ((with_reducible show Calls _ 62 _ _ _); refine (k1 _).mono ?_; rintro e w1 ⟨rfl, rfl⟩) | ((with_reducible show Calls _ 66 _ _ _); refine (g1 _).mono ?_; rintro e w1 ⟨rfl, rfl⟩))
            all_goals go_ret2
            all_goals exact JustB.mk HA2.out rfl
          · have hk4b : ((k : Int) == 4) = false := by rw [beq_eq_false_iff_ne]; omega
            have hra := fun W => hr n.toNat u W (by omega) hu
            rw [hV, show (n.toNat : Int) = n by omega] at hra
            have HA2 := hid (show R = (cmpI (n * (Qz : Int)) (V : Int), true) by rw [HA.out, if_neg (by omega), show (n.toNat : Int) = n by omega])
            have hcb := cmp_bound (n * (Qz : Int)) (V : Int)
            generalize cmpI (n * (Qz : Int)) (V : Int) = C at *
            have a1 := hra
            clear HA hr hra
            go_enter Try.func55, Try.ntmps55
            go_wp2_with (first | ((with_reducible show Calls _ 62 _ _ _); refine (k1 _).mono ?_; rintro e w1 ⟨rfl, rfl⟩) | ((with_reducible show Calls _ 66 _ _ _); refine (g1 _).mono ?_; rintro e w1 ⟨rfl, rfl⟩) | ((with_reducible show Calls _ 82 _ _ _); refine (a1 _).mono ?_; rintro e w1 ⟨rfl, rfl⟩))
            all_goals go_ret2
            all_goals exact JustB.mk HA2.out rfl
      · have HA := hid (hb hk1 hs)
        rw [hs] at g1
        clear hz hb ha
        by_cases c1 : 0 ≤ n
        · have HA2 := hid (show R = (1, true) by rw [HA.out, if_pos (Or.inl c1)])
          clear HA hr
          go_enter Try.func55, Try.ntmps55
          go_wp2_with (first | ((with_reducible show Calls _ 62 _ _ _); refine (k1 _).mono ?_; rintro e w1 ⟨rfl, rfl⟩) | ((with_reducible show Calls _ 66 _ _ _); refine (g1 _).mono ?_; rintro e w1 ⟨rfl, rfl⟩))
          all_goals go_ret2
          all_goals exact JustB.mk HA2.out rfl
        · by_cases hk4 : k = 4
          · have HA2 := hid (show R = (1, true) by rw [HA.out, if_pos (Or.inr hk4)])
            clear HA hr
            go_enter Try.func55, Try.ntmps55
            go_wp2_with (first | ((with_reducible show Calls _ 62 _ _ _); refine (k1 _).mono ?_; rintro e w1 ⟨rfl, rfl⟩) | ((with_reducible show Calls _ 66 _ _ _); refine (g1 _).mono ?_; rintro e w1 ⟨rfl, rfl⟩))
            all_goals go_ret2
            all_goals exact JustB.mk HA2.out rfl
          · have hk4b : ((k : Int) == 4) = false := by rw [beq_eq_false_iff_ne]; omega
            have hra := fun W => hr (-n).toNat u W (by omega) hu
            rw [hV, show ((-n).toNat : Int) = -n by omega] at hra
            have HA2 := hid (show R = (-cmpI (-n * (Qz : Int)) (V : Int), true) by rw [HA.out, if_neg (by omega), show ((-n).toNat : Int) = -n by omega])
            have hcb := cmp_bound (-n * (Qz : Int)) (V : Int)
            generalize cmpI (-n * (Qz : Int)) (V : Int) = C at *
            have a1 := hra
            clear HA hr hra
            go_enter Try.func55, Try.ntmps55
            go_wp2_with (first | ((with_reducible show Calls _ 62 _ _ _); refine (k1 _).mono ?_; rintro e w1 ⟨rfl, rfl⟩) | ((with_reducible show Calls _ 66 _ _ _); refine (g1 _).mono ?_; rintro e w1 ⟨rfl, rfl⟩) | ((with_reducible show Calls _ 82 _ _ _); refine (a1 _).mono ?_; rintro e w1 ⟨rfl, rfl⟩))
            all_goals go_ret2
            all_goals exact JustB.mk HA2.out rfl
end Go.Proofs.Ytaahaehgdamkdaa
