/- RealOrder: the walk. -/
import Derived.Test.YtmgcikjpgbhpgaaRAwk
namespace Go.Proofs.Ytmgcikjpgbhpgaa
open Go Go.RowKit

set_option maxRecDepth 100000 in
set_option maxHeartbeats 4000000 in
theorem order_any (a b : Nat) (w : World) (ha : a ≤ 18446744073709551615) (hb : b ≤ 18446744073709551615) : Calls Try.prog 6 #[.int .u64 (a : Int), .int .u64 (b : Int)] w (Says w (.bool true)) := by
  have la : a < 18446744073709551616 := by omega
  have lb : b < 18446744073709551616 := by omega
  have r1 := fun W => rank_any a W ha
  have r2 := fun W => rank_any b W hb
  have c1 := fun W => clean_any a W ha
  have c2 := fun W => clean_any b W hb
  have c3 := fun W => clean_any (cleanZ a) W (by have := clean_lt la; omega)
  have l1 := fun W => less_any a b W ha hb
  have l2 := fun W => less_any b a W hb ha
  have l3 := fun W => less_any (negZ b) (negZ a) W (by have := neg_lt lb; omega) (by have := neg_lt la; omega)
  have q1 := fun W => equal_any a b W ha hb
  have q2 := fun W => equal_any b a W hb ha
  have k1 := fun W => kind_any a W ha
  have k2 := fun W => kind_any b W hb
  have n1 := fun W => neg_any a W ha
  have n2 := fun W => neg_any b W hb
  have n3 := fun W => neg_any (negZ a) W (by have := neg_lt la; omega)
  rw [clean_clean] at c3
  rw [less_neg a b la lb] at l3
  rw [neg_neg la] at n3
  rw [equal_comm b a] at q2
  have hrc := rank_inj la lb
  have hlr : lessZ a b = true → rankZ a < rankZ b := fun h => rank_lt la lb (less_true.1 h).1 (less_true.1 h).2.1 (less_true.1 h).2.2
  have hlm : lessZ a b = true → lessZ b a = true → False := fun h1 h2 => by have := (less_true.1 h1).2.2; have := (less_true.1 h2).2.2; omega
  have hlq : lessZ a b = true → equalZ a b = true → False := fun h1 h2 => by have := (less_true.1 h1).2.2; have := (equal_true.1 h2).2.2; omega
  have hnum := less_or a b
  have hka := kind_le a
  have hkb := kind_le b
  generalize rankZ a = ra at *
  generalize rankZ b = rb at *
  generalize cleanZ a = ca at *
  generalize cleanZ b = cb at *
  generalize negZ a = na at *
  generalize negZ b = nb at *
  generalize kindZ a = ka at *
  generalize kindZ b = kb at *
  generalize lessZ a b = L at *
  generalize lessZ b a = M at *
  generalize equalZ a b = Q at *
  have HX := hid (Ext.refl w)
  have HK := hid hnum
  have HLR := hid hlr
  have HLM := hid hlm
  have HLQ := hid hlq
  have HRC := hid hrc
  clear hnum hlr hlm hlq hrc la lb
  by_cases hr : (ra : Int) = (rb : Int)
  · have hcN : ca = cb := HRC.out.1 (by omega)
    have hrN : ra = rb := by omega
    have hL : L = false := by cases L; rfl; have := HLR.out rfl; omega
    subst hL
    clear hr HRC HLR HLM HLQ
    subst hrN
    subst hcN
    by_cases hx : ka = 5 ∨ kb = 5
    · have hM : M = false := by cases M; rfl; have := HK.out.2 (Or.inr (Or.inl rfl)); omega
      have hQ : Q = false := by cases Q; rfl; have := HK.out.2 (Or.inr (Or.inr rfl)); omega
      subst hM
      subst hQ
      by_cases hx1 : ka = 5
      · have hk1 : ((ka : Int) != 5) = false := by rw [bne_eq_false_iff_eq]; omega
        clear hx
        go_enter Try.func6, Try.ntmps6
        go_wp2_with (first | ((with_reducible show Calls _ 13 #[.int .u64 (a : Int)] _ _); refine (r1 _).mono ?_; rintro e w1 ⟨rfl, hx⟩; replace HX := hid (HX.out.trans hx); clear hx) | ((with_reducible show Calls _ 13 #[.int .u64 (b : Int)] _ _); refine (r2 _).mono ?_; rintro e w1 ⟨rfl, hx⟩; replace HX := hid (HX.out.trans hx); clear hx) | ((with_reducible show Calls _ 11 #[.int .u64 (a : Int)] _ _); refine (c1 _).mono ?_; rintro e w1 ⟨rfl, hx⟩; replace HX := hid (HX.out.trans hx); clear hx) | ((with_reducible show Calls _ 11 #[.int .u64 (b : Int)] _ _); refine (c2 _).mono ?_; rintro e w1 ⟨rfl, hx⟩; replace HX := hid (HX.out.trans hx); clear hx) | ((with_reducible show Calls _ 11 #[.int .u64 (ca : Int)] _ _); refine (c3 _).mono ?_; rintro e w1 ⟨rfl, hx⟩; replace HX := hid (HX.out.trans hx); clear hx) | ((with_reducible show Calls _ 17 #[.int .u64 (a : Int), .int .u64 (b : Int)] _ _); refine (l1 _).mono ?_; rintro e w1 ⟨rfl, hx⟩; replace HX := hid (HX.out.trans hx); clear hx) | ((with_reducible show Calls _ 17 #[.int .u64 (b : Int), .int .u64 (a : Int)] _ _); refine (l2 _).mono ?_; rintro e w1 ⟨rfl, hx⟩; replace HX := hid (HX.out.trans hx); clear hx) | ((with_reducible show Calls _ 17 #[.int .u64 (nb : Int), .int .u64 (na : Int)] _ _); refine (l3 _).mono ?_; rintro e w1 ⟨rfl, hx⟩; replace HX := hid (HX.out.trans hx); clear hx) | ((with_reducible show Calls _ 19 #[.int .u64 (a : Int), .int .u64 (b : Int)] _ _); refine (q1 _).mono ?_; rintro e w1 ⟨rfl, hx⟩; replace HX := hid (HX.out.trans hx); clear hx) | ((with_reducible show Calls _ 19 #[.int .u64 (b : Int), .int .u64 (a : Int)] _ _); refine (q2 _).mono ?_; rintro e w1 ⟨rfl, hx⟩; replace HX := hid (HX.out.trans hx); clear hx) | ((with_reducible show Calls _ 9 #[.int .u64 (a : Int)] _ _); refine (k1 _).mono ?_; rintro e w1 ⟨rfl, hx⟩; replace HX := hid (HX.out.trans hx); clear hx) | ((with_reducible show Calls _ 9 #[.int .u64 (b : Int)] _ _); refine (k2 _).mono ?_; rintro e w1 ⟨rfl, hx⟩; replace HX := hid (HX.out.trans hx); clear hx) | ((with_reducible show Calls _ 15 #[.int .u64 (a : Int)] _ _); refine (n1 _).mono ?_; rintro e w1 ⟨rfl, hx⟩; replace HX := hid (HX.out.trans hx); clear hx) | ((with_reducible show Calls _ 15 #[.int .u64 (b : Int)] _ _); refine (n2 _).mono ?_; rintro e w1 ⟨rfl, hx⟩; replace HX := hid (HX.out.trans hx); clear hx) | ((with_reducible show Calls _ 15 #[.int .u64 (na : Int)] _ _); refine (n3 _).mono ?_; rintro e w1 ⟨rfl, hx⟩; replace HX := hid (HX.out.trans hx); clear hx) | ((with_reducible show Calls _ 21 _ _ _); refine (awake_any _).mono ?_; rintro e w1 ⟨rfl, hx⟩; replace HX := hid (HX.out.trans hx); clear hx))
        all_goals go_ret
        all_goals exact ⟨rfl, HX.out⟩
      · have hk1 : ((ka : Int) != 5) = true := by rw [bne_iff_ne]; omega
        have hk2 : ((kb : Int) != 5) = false := by rw [bne_eq_false_iff_eq]; omega
        clear hx
        go_enter Try.func6, Try.ntmps6
        go_wp2_with (first | ((with_reducible show Calls _ 13 #[.int .u64 (a : Int)] _ _); refine (r1 _).mono ?_; rintro e w1 ⟨rfl, hx⟩; replace HX := hid (HX.out.trans hx); clear hx) | ((with_reducible show Calls _ 13 #[.int .u64 (b : Int)] _ _); refine (r2 _).mono ?_; rintro e w1 ⟨rfl, hx⟩; replace HX := hid (HX.out.trans hx); clear hx) | ((with_reducible show Calls _ 11 #[.int .u64 (a : Int)] _ _); refine (c1 _).mono ?_; rintro e w1 ⟨rfl, hx⟩; replace HX := hid (HX.out.trans hx); clear hx) | ((with_reducible show Calls _ 11 #[.int .u64 (b : Int)] _ _); refine (c2 _).mono ?_; rintro e w1 ⟨rfl, hx⟩; replace HX := hid (HX.out.trans hx); clear hx) | ((with_reducible show Calls _ 11 #[.int .u64 (ca : Int)] _ _); refine (c3 _).mono ?_; rintro e w1 ⟨rfl, hx⟩; replace HX := hid (HX.out.trans hx); clear hx) | ((with_reducible show Calls _ 17 #[.int .u64 (a : Int), .int .u64 (b : Int)] _ _); refine (l1 _).mono ?_; rintro e w1 ⟨rfl, hx⟩; replace HX := hid (HX.out.trans hx); clear hx) | ((with_reducible show Calls _ 17 #[.int .u64 (b : Int), .int .u64 (a : Int)] _ _); refine (l2 _).mono ?_; rintro e w1 ⟨rfl, hx⟩; replace HX := hid (HX.out.trans hx); clear hx) | ((with_reducible show Calls _ 17 #[.int .u64 (nb : Int), .int .u64 (na : Int)] _ _); refine (l3 _).mono ?_; rintro e w1 ⟨rfl, hx⟩; replace HX := hid (HX.out.trans hx); clear hx) | ((with_reducible show Calls _ 19 #[.int .u64 (a : Int), .int .u64 (b : Int)] _ _); refine (q1 _).mono ?_; rintro e w1 ⟨rfl, hx⟩; replace HX := hid (HX.out.trans hx); clear hx) | ((with_reducible show Calls _ 19 #[.int .u64 (b : Int), .int .u64 (a : Int)] _ _); refine (q2 _).mono ?_; rintro e w1 ⟨rfl, hx⟩; replace HX := hid (HX.out.trans hx); clear hx) | ((with_reducible show Calls _ 9 #[.int .u64 (a : Int)] _ _); refine (k1 _).mono ?_; rintro e w1 ⟨rfl, hx⟩; replace HX := hid (HX.out.trans hx); clear hx) | ((with_reducible show Calls _ 9 #[.int .u64 (b : Int)] _ _); refine (k2 _).mono ?_; rintro e w1 ⟨rfl, hx⟩; replace HX := hid (HX.out.trans hx); clear hx) | ((with_reducible show Calls _ 15 #[.int .u64 (a : Int)] _ _); refine (n1 _).mono ?_; rintro e w1 ⟨rfl, hx⟩; replace HX := hid (HX.out.trans hx); clear hx) | ((with_reducible show Calls _ 15 #[.int .u64 (b : Int)] _ _); refine (n2 _).mono ?_; rintro e w1 ⟨rfl, hx⟩; replace HX := hid (HX.out.trans hx); clear hx) | ((with_reducible show Calls _ 15 #[.int .u64 (na : Int)] _ _); refine (n3 _).mono ?_; rintro e w1 ⟨rfl, hx⟩; replace HX := hid (HX.out.trans hx); clear hx) | ((with_reducible show Calls _ 21 _ _ _); refine (awake_any _).mono ?_; rintro e w1 ⟨rfl, hx⟩; replace HX := hid (HX.out.trans hx); clear hx))
        all_goals go_ret
        all_goals exact ⟨rfl, HX.out⟩
    · have hk1 : ((ka : Int) != 5) = true := by rw [bne_iff_ne]; omega
      have hk2 : ((kb : Int) != 5) = true := by rw [bne_iff_ne]; omega
      have hmq := HK.out.1 (by omega)
      clear hx
      cases M <;> cases Q
      · simp at hmq
      all_goals
        clear hmq
        go_enter Try.func6, Try.ntmps6
        go_wp2_with (first | ((with_reducible show Calls _ 13 #[.int .u64 (a : Int)] _ _); refine (r1 _).mono ?_; rintro e w1 ⟨rfl, hx⟩; replace HX := hid (HX.out.trans hx); clear hx) | ((with_reducible show Calls _ 13 #[.int .u64 (b : Int)] _ _); refine (r2 _).mono ?_; rintro e w1 ⟨rfl, hx⟩; replace HX := hid (HX.out.trans hx); clear hx) | ((with_reducible show Calls _ 11 #[.int .u64 (a : Int)] _ _); refine (c1 _).mono ?_; rintro e w1 ⟨rfl, hx⟩; replace HX := hid (HX.out.trans hx); clear hx) | ((with_reducible show Calls _ 11 #[.int .u64 (b : Int)] _ _); refine (c2 _).mono ?_; rintro e w1 ⟨rfl, hx⟩; replace HX := hid (HX.out.trans hx); clear hx) | ((with_reducible show Calls _ 11 #[.int .u64 (ca : Int)] _ _); refine (c3 _).mono ?_; rintro e w1 ⟨rfl, hx⟩; replace HX := hid (HX.out.trans hx); clear hx) | ((with_reducible show Calls _ 17 #[.int .u64 (a : Int), .int .u64 (b : Int)] _ _); refine (l1 _).mono ?_; rintro e w1 ⟨rfl, hx⟩; replace HX := hid (HX.out.trans hx); clear hx) | ((with_reducible show Calls _ 17 #[.int .u64 (b : Int), .int .u64 (a : Int)] _ _); refine (l2 _).mono ?_; rintro e w1 ⟨rfl, hx⟩; replace HX := hid (HX.out.trans hx); clear hx) | ((with_reducible show Calls _ 17 #[.int .u64 (nb : Int), .int .u64 (na : Int)] _ _); refine (l3 _).mono ?_; rintro e w1 ⟨rfl, hx⟩; replace HX := hid (HX.out.trans hx); clear hx) | ((with_reducible show Calls _ 19 #[.int .u64 (a : Int), .int .u64 (b : Int)] _ _); refine (q1 _).mono ?_; rintro e w1 ⟨rfl, hx⟩; replace HX := hid (HX.out.trans hx); clear hx) | ((with_reducible show Calls _ 19 #[.int .u64 (b : Int), .int .u64 (a : Int)] _ _); refine (q2 _).mono ?_; rintro e w1 ⟨rfl, hx⟩; replace HX := hid (HX.out.trans hx); clear hx) | ((with_reducible show Calls _ 9 #[.int .u64 (a : Int)] _ _); refine (k1 _).mono ?_; rintro e w1 ⟨rfl, hx⟩; replace HX := hid (HX.out.trans hx); clear hx) | ((with_reducible show Calls _ 9 #[.int .u64 (b : Int)] _ _); refine (k2 _).mono ?_; rintro e w1 ⟨rfl, hx⟩; replace HX := hid (HX.out.trans hx); clear hx) | ((with_reducible show Calls _ 15 #[.int .u64 (a : Int)] _ _); refine (n1 _).mono ?_; rintro e w1 ⟨rfl, hx⟩; replace HX := hid (HX.out.trans hx); clear hx) | ((with_reducible show Calls _ 15 #[.int .u64 (b : Int)] _ _); refine (n2 _).mono ?_; rintro e w1 ⟨rfl, hx⟩; replace HX := hid (HX.out.trans hx); clear hx) | ((with_reducible show Calls _ 15 #[.int .u64 (na : Int)] _ _); refine (n3 _).mono ?_; rintro e w1 ⟨rfl, hx⟩; replace HX := hid (HX.out.trans hx); clear hx) | ((with_reducible show Calls _ 21 _ _ _); refine (awake_any _).mono ?_; rintro e w1 ⟨rfl, hx⟩; replace HX := hid (HX.out.trans hx); clear hx))
        all_goals go_ret
        all_goals exact ⟨rfl, HX.out⟩
  · have hc : ¬ (ca : Int) = (cb : Int) := by intro h; have := HRC.out.2 (by omega); omega
    have hrb : ((ra : Int) == (rb : Int)) = false := by rw [beq_eq_false_iff_ne]; exact hr
    have hcb : ((ca : Int) == (cb : Int)) = false := by rw [beq_eq_false_iff_ne]; exact hc
    by_cases hx : ka = 5 ∨ kb = 5
    · have hL : L = false := by cases L; rfl; have := HK.out.2 (Or.inl rfl); omega
      have hM : M = false := by cases M; rfl; have := HK.out.2 (Or.inr (Or.inl rfl)); omega
      have hQ : Q = false := by cases Q; rfl; have := HK.out.2 (Or.inr (Or.inr rfl)); omega
      subst hL
      subst hM
      subst hQ
      by_cases hx1 : ka = 5
      · have hk1 : ((ka : Int) != 5) = false := by rw [bne_eq_false_iff_eq]; omega
        clear hx
        go_enter Try.func6, Try.ntmps6
        go_wp2_with (first | ((with_reducible show Calls _ 13 #[.int .u64 (a : Int)] _ _); refine (r1 _).mono ?_; rintro e w1 ⟨rfl, hx⟩; replace HX := hid (HX.out.trans hx); clear hx) | ((with_reducible show Calls _ 13 #[.int .u64 (b : Int)] _ _); refine (r2 _).mono ?_; rintro e w1 ⟨rfl, hx⟩; replace HX := hid (HX.out.trans hx); clear hx) | ((with_reducible show Calls _ 11 #[.int .u64 (a : Int)] _ _); refine (c1 _).mono ?_; rintro e w1 ⟨rfl, hx⟩; replace HX := hid (HX.out.trans hx); clear hx) | ((with_reducible show Calls _ 11 #[.int .u64 (b : Int)] _ _); refine (c2 _).mono ?_; rintro e w1 ⟨rfl, hx⟩; replace HX := hid (HX.out.trans hx); clear hx) | ((with_reducible show Calls _ 11 #[.int .u64 (ca : Int)] _ _); refine (c3 _).mono ?_; rintro e w1 ⟨rfl, hx⟩; replace HX := hid (HX.out.trans hx); clear hx) | ((with_reducible show Calls _ 17 #[.int .u64 (a : Int), .int .u64 (b : Int)] _ _); refine (l1 _).mono ?_; rintro e w1 ⟨rfl, hx⟩; replace HX := hid (HX.out.trans hx); clear hx) | ((with_reducible show Calls _ 17 #[.int .u64 (b : Int), .int .u64 (a : Int)] _ _); refine (l2 _).mono ?_; rintro e w1 ⟨rfl, hx⟩; replace HX := hid (HX.out.trans hx); clear hx) | ((with_reducible show Calls _ 17 #[.int .u64 (nb : Int), .int .u64 (na : Int)] _ _); refine (l3 _).mono ?_; rintro e w1 ⟨rfl, hx⟩; replace HX := hid (HX.out.trans hx); clear hx) | ((with_reducible show Calls _ 19 #[.int .u64 (a : Int), .int .u64 (b : Int)] _ _); refine (q1 _).mono ?_; rintro e w1 ⟨rfl, hx⟩; replace HX := hid (HX.out.trans hx); clear hx) | ((with_reducible show Calls _ 19 #[.int .u64 (b : Int), .int .u64 (a : Int)] _ _); refine (q2 _).mono ?_; rintro e w1 ⟨rfl, hx⟩; replace HX := hid (HX.out.trans hx); clear hx) | ((with_reducible show Calls _ 9 #[.int .u64 (a : Int)] _ _); refine (k1 _).mono ?_; rintro e w1 ⟨rfl, hx⟩; replace HX := hid (HX.out.trans hx); clear hx) | ((with_reducible show Calls _ 9 #[.int .u64 (b : Int)] _ _); refine (k2 _).mono ?_; rintro e w1 ⟨rfl, hx⟩; replace HX := hid (HX.out.trans hx); clear hx) | ((with_reducible show Calls _ 15 #[.int .u64 (a : Int)] _ _); refine (n1 _).mono ?_; rintro e w1 ⟨rfl, hx⟩; replace HX := hid (HX.out.trans hx); clear hx) | ((with_reducible show Calls _ 15 #[.int .u64 (b : Int)] _ _); refine (n2 _).mono ?_; rintro e w1 ⟨rfl, hx⟩; replace HX := hid (HX.out.trans hx); clear hx) | ((with_reducible show Calls _ 15 #[.int .u64 (na : Int)] _ _); refine (n3 _).mono ?_; rintro e w1 ⟨rfl, hx⟩; replace HX := hid (HX.out.trans hx); clear hx) | ((with_reducible show Calls _ 21 _ _ _); refine (awake_any _).mono ?_; rintro e w1 ⟨rfl, hx⟩; replace HX := hid (HX.out.trans hx); clear hx))
        all_goals go_ret
        all_goals exact ⟨rfl, HX.out⟩
      · have hk1 : ((ka : Int) != 5) = true := by rw [bne_iff_ne]; omega
        have hk2 : ((kb : Int) != 5) = false := by rw [bne_eq_false_iff_eq]; omega
        clear hx
        go_enter Try.func6, Try.ntmps6
        go_wp2_with (first | ((with_reducible show Calls _ 13 #[.int .u64 (a : Int)] _ _); refine (r1 _).mono ?_; rintro e w1 ⟨rfl, hx⟩; replace HX := hid (HX.out.trans hx); clear hx) | ((with_reducible show Calls _ 13 #[.int .u64 (b : Int)] _ _); refine (r2 _).mono ?_; rintro e w1 ⟨rfl, hx⟩; replace HX := hid (HX.out.trans hx); clear hx) | ((with_reducible show Calls _ 11 #[.int .u64 (a : Int)] _ _); refine (c1 _).mono ?_; rintro e w1 ⟨rfl, hx⟩; replace HX := hid (HX.out.trans hx); clear hx) | ((with_reducible show Calls _ 11 #[.int .u64 (b : Int)] _ _); refine (c2 _).mono ?_; rintro e w1 ⟨rfl, hx⟩; replace HX := hid (HX.out.trans hx); clear hx) | ((with_reducible show Calls _ 11 #[.int .u64 (ca : Int)] _ _); refine (c3 _).mono ?_; rintro e w1 ⟨rfl, hx⟩; replace HX := hid (HX.out.trans hx); clear hx) | ((with_reducible show Calls _ 17 #[.int .u64 (a : Int), .int .u64 (b : Int)] _ _); refine (l1 _).mono ?_; rintro e w1 ⟨rfl, hx⟩; replace HX := hid (HX.out.trans hx); clear hx) | ((with_reducible show Calls _ 17 #[.int .u64 (b : Int), .int .u64 (a : Int)] _ _); refine (l2 _).mono ?_; rintro e w1 ⟨rfl, hx⟩; replace HX := hid (HX.out.trans hx); clear hx) | ((with_reducible show Calls _ 17 #[.int .u64 (nb : Int), .int .u64 (na : Int)] _ _); refine (l3 _).mono ?_; rintro e w1 ⟨rfl, hx⟩; replace HX := hid (HX.out.trans hx); clear hx) | ((with_reducible show Calls _ 19 #[.int .u64 (a : Int), .int .u64 (b : Int)] _ _); refine (q1 _).mono ?_; rintro e w1 ⟨rfl, hx⟩; replace HX := hid (HX.out.trans hx); clear hx) | ((with_reducible show Calls _ 19 #[.int .u64 (b : Int), .int .u64 (a : Int)] _ _); refine (q2 _).mono ?_; rintro e w1 ⟨rfl, hx⟩; replace HX := hid (HX.out.trans hx); clear hx) | ((with_reducible show Calls _ 9 #[.int .u64 (a : Int)] _ _); refine (k1 _).mono ?_; rintro e w1 ⟨rfl, hx⟩; replace HX := hid (HX.out.trans hx); clear hx) | ((with_reducible show Calls _ 9 #[.int .u64 (b : Int)] _ _); refine (k2 _).mono ?_; rintro e w1 ⟨rfl, hx⟩; replace HX := hid (HX.out.trans hx); clear hx) | ((with_reducible show Calls _ 15 #[.int .u64 (a : Int)] _ _); refine (n1 _).mono ?_; rintro e w1 ⟨rfl, hx⟩; replace HX := hid (HX.out.trans hx); clear hx) | ((with_reducible show Calls _ 15 #[.int .u64 (b : Int)] _ _); refine (n2 _).mono ?_; rintro e w1 ⟨rfl, hx⟩; replace HX := hid (HX.out.trans hx); clear hx) | ((with_reducible show Calls _ 15 #[.int .u64 (na : Int)] _ _); refine (n3 _).mono ?_; rintro e w1 ⟨rfl, hx⟩; replace HX := hid (HX.out.trans hx); clear hx) | ((with_reducible show Calls _ 21 _ _ _); refine (awake_any _).mono ?_; rintro e w1 ⟨rfl, hx⟩; replace HX := hid (HX.out.trans hx); clear hx))
        all_goals go_ret
        all_goals exact ⟨rfl, HX.out⟩
    · have hk1 : ((ka : Int) != 5) = true := by rw [bne_iff_ne]; omega
      have hk2 : ((kb : Int) != 5) = true := by rw [bne_iff_ne]; omega
      have hmq := HK.out.1 (by omega)
      clear hx
      cases L
      · cases M <;> cases Q
        · simp at hmq
        all_goals
          clear hmq
          go_enter Try.func6, Try.ntmps6
          go_wp2_with (first | ((with_reducible show Calls _ 13 #[.int .u64 (a : Int)] _ _); refine (r1 _).mono ?_; rintro e w1 ⟨rfl, hx⟩; replace HX := hid (HX.out.trans hx); clear hx) | ((with_reducible show Calls _ 13 #[.int .u64 (b : Int)] _ _); refine (r2 _).mono ?_; rintro e w1 ⟨rfl, hx⟩; replace HX := hid (HX.out.trans hx); clear hx) | ((with_reducible show Calls _ 11 #[.int .u64 (a : Int)] _ _); refine (c1 _).mono ?_; rintro e w1 ⟨rfl, hx⟩; replace HX := hid (HX.out.trans hx); clear hx) | ((with_reducible show Calls _ 11 #[.int .u64 (b : Int)] _ _); refine (c2 _).mono ?_; rintro e w1 ⟨rfl, hx⟩; replace HX := hid (HX.out.trans hx); clear hx) | ((with_reducible show Calls _ 11 #[.int .u64 (ca : Int)] _ _); refine (c3 _).mono ?_; rintro e w1 ⟨rfl, hx⟩; replace HX := hid (HX.out.trans hx); clear hx) | ((with_reducible show Calls _ 17 #[.int .u64 (a : Int), .int .u64 (b : Int)] _ _); refine (l1 _).mono ?_; rintro e w1 ⟨rfl, hx⟩; replace HX := hid (HX.out.trans hx); clear hx) | ((with_reducible show Calls _ 17 #[.int .u64 (b : Int), .int .u64 (a : Int)] _ _); refine (l2 _).mono ?_; rintro e w1 ⟨rfl, hx⟩; replace HX := hid (HX.out.trans hx); clear hx) | ((with_reducible show Calls _ 17 #[.int .u64 (nb : Int), .int .u64 (na : Int)] _ _); refine (l3 _).mono ?_; rintro e w1 ⟨rfl, hx⟩; replace HX := hid (HX.out.trans hx); clear hx) | ((with_reducible show Calls _ 19 #[.int .u64 (a : Int), .int .u64 (b : Int)] _ _); refine (q1 _).mono ?_; rintro e w1 ⟨rfl, hx⟩; replace HX := hid (HX.out.trans hx); clear hx) | ((with_reducible show Calls _ 19 #[.int .u64 (b : Int), .int .u64 (a : Int)] _ _); refine (q2 _).mono ?_; rintro e w1 ⟨rfl, hx⟩; replace HX := hid (HX.out.trans hx); clear hx) | ((with_reducible show Calls _ 9 #[.int .u64 (a : Int)] _ _); refine (k1 _).mono ?_; rintro e w1 ⟨rfl, hx⟩; replace HX := hid (HX.out.trans hx); clear hx) | ((with_reducible show Calls _ 9 #[.int .u64 (b : Int)] _ _); refine (k2 _).mono ?_; rintro e w1 ⟨rfl, hx⟩; replace HX := hid (HX.out.trans hx); clear hx) | ((with_reducible show Calls _ 15 #[.int .u64 (a : Int)] _ _); refine (n1 _).mono ?_; rintro e w1 ⟨rfl, hx⟩; replace HX := hid (HX.out.trans hx); clear hx) | ((with_reducible show Calls _ 15 #[.int .u64 (b : Int)] _ _); refine (n2 _).mono ?_; rintro e w1 ⟨rfl, hx⟩; replace HX := hid (HX.out.trans hx); clear hx) | ((with_reducible show Calls _ 15 #[.int .u64 (na : Int)] _ _); refine (n3 _).mono ?_; rintro e w1 ⟨rfl, hx⟩; replace HX := hid (HX.out.trans hx); clear hx) | ((with_reducible show Calls _ 21 _ _ _); refine (awake_any _).mono ?_; rintro e w1 ⟨rfl, hx⟩; replace HX := hid (HX.out.trans hx); clear hx))
          all_goals go_ret
          all_goals exact ⟨rfl, HX.out⟩
      · have hM : M = false := by cases M; rfl; exact (HLM.out rfl rfl).elim
        have hQ : Q = false := by cases Q; rfl; exact (HLQ.out rfl rfl).elim
        subst hM
        subst hQ
        have hlt : (ra : Int) < (rb : Int) := by have := HLR.out rfl; omega
        clear hmq
        go_enter Try.func6, Try.ntmps6
        go_wp2_with (first | ((with_reducible show Calls _ 13 #[.int .u64 (a : Int)] _ _); refine (r1 _).mono ?_; rintro e w1 ⟨rfl, hx⟩; replace HX := hid (HX.out.trans hx); clear hx) | ((with_reducible show Calls _ 13 #[.int .u64 (b : Int)] _ _); refine (r2 _).mono ?_; rintro e w1 ⟨rfl, hx⟩; replace HX := hid (HX.out.trans hx); clear hx) | ((with_reducible show Calls _ 11 #[.int .u64 (a : Int)] _ _); refine (c1 _).mono ?_; rintro e w1 ⟨rfl, hx⟩; replace HX := hid (HX.out.trans hx); clear hx) | ((with_reducible show Calls _ 11 #[.int .u64 (b : Int)] _ _); refine (c2 _).mono ?_; rintro e w1 ⟨rfl, hx⟩; replace HX := hid (HX.out.trans hx); clear hx) | ((with_reducible show Calls _ 11 #[.int .u64 (ca : Int)] _ _); refine (c3 _).mono ?_; rintro e w1 ⟨rfl, hx⟩; replace HX := hid (HX.out.trans hx); clear hx) | ((with_reducible show Calls _ 17 #[.int .u64 (a : Int), .int .u64 (b : Int)] _ _); refine (l1 _).mono ?_; rintro e w1 ⟨rfl, hx⟩; replace HX := hid (HX.out.trans hx); clear hx) | ((with_reducible show Calls _ 17 #[.int .u64 (b : Int), .int .u64 (a : Int)] _ _); refine (l2 _).mono ?_; rintro e w1 ⟨rfl, hx⟩; replace HX := hid (HX.out.trans hx); clear hx) | ((with_reducible show Calls _ 17 #[.int .u64 (nb : Int), .int .u64 (na : Int)] _ _); refine (l3 _).mono ?_; rintro e w1 ⟨rfl, hx⟩; replace HX := hid (HX.out.trans hx); clear hx) | ((with_reducible show Calls _ 19 #[.int .u64 (a : Int), .int .u64 (b : Int)] _ _); refine (q1 _).mono ?_; rintro e w1 ⟨rfl, hx⟩; replace HX := hid (HX.out.trans hx); clear hx) | ((with_reducible show Calls _ 19 #[.int .u64 (b : Int), .int .u64 (a : Int)] _ _); refine (q2 _).mono ?_; rintro e w1 ⟨rfl, hx⟩; replace HX := hid (HX.out.trans hx); clear hx) | ((with_reducible show Calls _ 9 #[.int .u64 (a : Int)] _ _); refine (k1 _).mono ?_; rintro e w1 ⟨rfl, hx⟩; replace HX := hid (HX.out.trans hx); clear hx) | ((with_reducible show Calls _ 9 #[.int .u64 (b : Int)] _ _); refine (k2 _).mono ?_; rintro e w1 ⟨rfl, hx⟩; replace HX := hid (HX.out.trans hx); clear hx) | ((with_reducible show Calls _ 15 #[.int .u64 (a : Int)] _ _); refine (n1 _).mono ?_; rintro e w1 ⟨rfl, hx⟩; replace HX := hid (HX.out.trans hx); clear hx) | ((with_reducible show Calls _ 15 #[.int .u64 (b : Int)] _ _); refine (n2 _).mono ?_; rintro e w1 ⟨rfl, hx⟩; replace HX := hid (HX.out.trans hx); clear hx) | ((with_reducible show Calls _ 15 #[.int .u64 (na : Int)] _ _); refine (n3 _).mono ?_; rintro e w1 ⟨rfl, hx⟩; replace HX := hid (HX.out.trans hx); clear hx) | ((with_reducible show Calls _ 21 _ _ _); refine (awake_any _).mono ?_; rintro e w1 ⟨rfl, hx⟩; replace HX := hid (HX.out.trans hx); clear hx))
        all_goals go_ret
        all_goals exact ⟨rfl, HX.out⟩
end Go.Proofs.Ytmgcikjpgbhpgaa
