/- The landed program's isNumber, Sum, Fits, Sign, Op, by their contracts. Conditions: numbers within their kinds. -/
import Derived.Test.YtaahaehgdamkdaaCR2
import Derived.Test.YtaahaehgdamkdaaCR1
namespace Go.Proofs.Ytaahaehgdamkdaa
open Go Go.RowKit

theorem cnum_just (k : Nat) (w : World) : Calls Try.prog 47 #[.int .u8 (k : Int)] w (Just w (.bool (numK k))) := by
  by_cases h1 : k = 1
  · subst h1
    go_enter Try.func47, Try.ntmps47
    go_wp2
    go_ret
    exact Just.mk_bool rfl
  · have h1' : ((k : Int) == 1) = false := beq_eq_false_iff_ne.2 (by omega)
    by_cases h3 : k = 3
    · subst h3
      go_enter Try.func47, Try.ntmps47
      go_wp2
      go_ret
      exact Just.mk_bool rfl
    · have h3' : ((k : Int) == 3) = false := beq_eq_false_iff_ne.2 (by omega)
      have hr : numK k = false := decide_eq_false (by omega)
      rw [hr]
      clear h1 h3 hr
      go_enter Try.func47, Try.ntmps47
      go_wp2
      go_ret
      exact Just.mk_bool rfl

set_option maxHeartbeats 1000000 in
theorem csum_just (k l : Nat) (w : World) : Calls Try.prog 23 #[.int .u8 (k : Int), .int .u8 (l : Int)] w (Just w (.int .u8 (sumK k l : Int))) := by
  have hk := fun W => cnum_just k W
  have hl := fun W => cnum_just l W
  have hs : sumK k l = if numK k = false ∨ numK l = false then 0 else max k l := rfl
  generalize sumK k l = S at *
  rcases num_cases k with ⟨h1, n1⟩ | ⟨h1, n1, n3⟩
  · rcases num_cases l with ⟨h2, m1⟩ | ⟨h2, m1, m3⟩
    · rw [if_neg (by rw [h1, h2]; simp)] at hs
      rw [h1] at hk
      rw [h2] at hl
      clear h1 h2
      subst hs
      rcases n1 with rfl | rfl <;> rcases m1 with rfl | rfl
      · go_enter Try.func23, Try.ntmps23
        go_wp2_with fail
        go_ret
        exact ⟨rfl, rfl⟩
      · go_enter Try.func23, Try.ntmps23
        go_wp2_with fail
        refine (hk _).mono ?_
        rintro e w1 ⟨rfl, rfl⟩
        go_wp2_with fail
        refine (hl _).mono ?_
        rintro e w1 ⟨rfl, rfl⟩
        go_wp2_with fail
        go_ret
        exact ⟨rfl, rfl⟩
      · go_enter Try.func23, Try.ntmps23
        go_wp2_with fail
        refine (hk _).mono ?_
        rintro e w1 ⟨rfl, rfl⟩
        go_wp2_with fail
        refine (hl _).mono ?_
        rintro e w1 ⟨rfl, rfl⟩
        go_wp2_with fail
        go_ret
        exact ⟨rfl, rfl⟩
      · go_enter Try.func23, Try.ntmps23
        go_wp2_with fail
        refine (hk _).mono ?_
        rintro e w1 ⟨rfl, rfl⟩
        go_wp2_with fail
        refine (hl _).mono ?_
        rintro e w1 ⟨rfl, rfl⟩
        go_wp2_with fail
        go_ret
        exact ⟨rfl, rfl⟩
    · rw [if_pos (Or.inr h2)] at hs
      rw [h1] at hk
      rw [h2] at hl
      have m1' : ((l : Int) == 1) = false := beq_eq_false_iff_ne.2 (by omega)
      clear h1 h2 m1 m3
      subst hs
      rcases n1 with rfl | rfl
      · go_enter Try.func23, Try.ntmps23
        go_wp2_with fail
        refine (hk _).mono ?_
        rintro e w1 ⟨rfl, rfl⟩
        go_wp2_with fail
        refine (hl _).mono ?_
        rintro e w1 ⟨rfl, rfl⟩
        go_wp2_with fail
        go_ret
        exact ⟨rfl, rfl⟩
      · go_enter Try.func23, Try.ntmps23
        go_wp2_with fail
        refine (hk _).mono ?_
        rintro e w1 ⟨rfl, rfl⟩
        go_wp2_with fail
        refine (hl _).mono ?_
        rintro e w1 ⟨rfl, rfl⟩
        go_wp2_with fail
        go_ret
        exact ⟨rfl, rfl⟩
  · rw [if_pos (Or.inl h1)] at hs
    rw [h1] at hk
    have n1' : ((k : Int) == 1) = false := beq_eq_false_iff_ne.2 (by omega)
    clear h1 n1 n3 hl
    subst hs
    go_enter Try.func23, Try.ntmps23
    go_wp2_with fail
    refine (hk _).mono ?_
    rintro e w1 ⟨rfl, rfl⟩
    go_wp2_with fail
    go_ret
    exact ⟨rfl, rfl⟩

set_option maxHeartbeats 2000000 in
theorem cfits_just (o k l : Nat) (w : World) : Calls Try.prog 21 #[.int .u8 (o : Int), .int .u8 (k : Int), .int .u8 (l : Int)] w (Just w (.bool (fitsV o k l))) := by
  by_cases ho : o < 1 ∨ 6 < o
  · have hr : fitsV o k l = false := if_pos ho
    rw [hr]
    clear hr
    rcases ho with h | h
    · have h' : (o : Int) < 1 := by omega
      clear h
      go_enter Try.func21, Try.ntmps21
      go_wp2_with fail
      all_goals go_ret
      all_goals exact ⟨rfl, rfl⟩
    · have h' : 6 < (o : Int) := by omega
      have h1 : ¬ (o : Int) < 1 := by omega
      clear h
      go_enter Try.func21, Try.ntmps21
      go_wp2_with fail
      all_goals go_ret
      all_goals exact ⟨rfl, rfl⟩
  · have h0 : ¬ (o : Int) < 1 := by omega
    have h6 : ¬ 6 < (o : Int) := by omega
    have hr : fitsV o k l = if (numK k = true ∧ numK l = true) ∨ (k = 4 ∧ l = 4) then true else decide (k = 2 ∧ l = 2 ∧ o ≤ 2) := if_neg ho
    clear ho
    have hk := fun W => cnum_just k W
    have hl := fun W => cnum_just l W
    generalize fitsV o k l = R at *
    rcases num_cases k with ⟨h1, n1⟩ | ⟨h1, n1, n3⟩
    · rw [h1] at hk
      rcases num_cases l with ⟨h2, m1⟩ | ⟨h2, m1, m3⟩
      · rw [h2] at hl
        rw [if_pos (Or.inl ⟨h1, h2⟩)] at hr
        subst hr
        clear h1 h2 n1 m1
        go_enter Try.func21, Try.ntmps21
        go_wp2_with fail
        refine (hk _).mono ?_
        rintro e w1 ⟨rfl, rfl⟩
        go_wp2_with fail
        refine (hl _).mono ?_
        rintro e w1 ⟨rfl, rfl⟩
        go_wp2_with fail
        go_ret
        exact ⟨rfl, rfl⟩
      · rw [h2] at hl
        have hr' : R = false := by
          rw [hr, if_neg (fun h => by rcases h with ⟨_, h⟩ | ⟨h, _⟩ <;> first | (rw [h2] at h; cases h) | omega)]
          exact decide_eq_false (by omega)
        subst hr'
        have n2 : ((k : Int) == 2) = false := beq_eq_false_iff_ne.2 (by omega)
        have n4 : ((k : Int) == 4) = false := beq_eq_false_iff_ne.2 (by omega)
        clear hr h1 h2 n1 m1 m3
        go_enter Try.func21, Try.ntmps21
        go_wp2_with fail
        refine (hk _).mono ?_
        rintro e w1 ⟨rfl, rfl⟩
        go_wp2_with fail
        refine (hl _).mono ?_
        rintro e w1 ⟨rfl, rfl⟩
        go_wp2_with fail
        go_ret
        exact ⟨rfl, rfl⟩
    · rw [h1] at hk
      have hr' : R = if k = 4 ∧ l = 4 then true else decide (k = 2 ∧ l = 2 ∧ o ≤ 2) := by
        rw [hr]
        by_cases h : k = 4 ∧ l = 4
        · rw [if_pos h, if_pos (Or.inr h)]
        · rw [if_neg h, if_neg (fun g => by rcases g with ⟨g, _⟩ | g <;> first | (rw [h1] at g; cases g) | exact h g)]
      clear hr hl h1
      by_cases h4 : k = 4
      · subst h4
        clear n1 n3
        by_cases l4 : l = 4
        · subst l4
          rw [if_pos ⟨rfl, rfl⟩] at hr'
          subst hr'
          go_enter Try.func21, Try.ntmps21
          go_wp2_with fail
          refine (hk _).mono ?_
          rintro e w1 ⟨rfl, rfl⟩
          go_wp2_with fail
          go_ret
          exact ⟨rfl, rfl⟩
        · rw [if_neg (fun h => l4 h.2), decide_eq_false (by omega)] at hr'
          subst hr'
          have l4' : ((l : Int) == 4) = false := beq_eq_false_iff_ne.2 (by omega)
          clear l4
          go_enter Try.func21, Try.ntmps21
          go_wp2_with fail
          refine (hk _).mono ?_
          rintro e w1 ⟨rfl, rfl⟩
          go_wp2_with fail
          go_ret
          exact ⟨rfl, rfl⟩
      · rw [if_neg (fun h => h4 h.1)] at hr'
        have h4' : ((k : Int) == 4) = false := beq_eq_false_iff_ne.2 (by omega)
        clear h4 n1 n3
        by_cases h2 : k = 2
        · subst h2
          by_cases l2 : l = 2
          · subst l2
            by_cases o1 : o = 1
            · subst o1
              rw [decide_eq_true (by omega)] at hr'
              subst hr'
              go_enter Try.func21, Try.ntmps21
              go_wp2_with fail
              refine (hk _).mono ?_
              rintro e w1 ⟨rfl, rfl⟩
              go_wp2_with fail
              go_ret
              exact ⟨rfl, rfl⟩
            · by_cases o2 : o = 2
              · subst o2
                rw [decide_eq_true (by omega)] at hr'
                subst hr'
                go_enter Try.func21, Try.ntmps21
                go_wp2_with fail
                refine (hk _).mono ?_
                rintro e w1 ⟨rfl, rfl⟩
                go_wp2_with fail
                go_ret
                exact ⟨rfl, rfl⟩
              · rw [decide_eq_false (by omega)] at hr'
                subst hr'
                have o1' : ((o : Int) == 1) = false := beq_eq_false_iff_ne.2 (by omega)
                have o2' : ((o : Int) == 2) = false := beq_eq_false_iff_ne.2 (by omega)
                clear o1 o2
                go_enter Try.func21, Try.ntmps21
                go_wp2_with fail
                refine (hk _).mono ?_
                rintro e w1 ⟨rfl, rfl⟩
                go_wp2_with fail
                go_ret
                exact ⟨rfl, rfl⟩
          · rw [decide_eq_false (by omega)] at hr'
            subst hr'
            have l2' : ((l : Int) == 2) = false := beq_eq_false_iff_ne.2 (by omega)
            clear l2
            go_enter Try.func21, Try.ntmps21
            go_wp2_with fail
            refine (hk _).mono ?_
            rintro e w1 ⟨rfl, rfl⟩
            go_wp2_with fail
            go_ret
            exact ⟨rfl, rfl⟩
        · rw [decide_eq_false (by omega)] at hr'
          subst hr'
          have h2' : ((k : Int) == 2) = false := beq_eq_false_iff_ne.2 (by omega)
          clear h2
          go_enter Try.func21, Try.ntmps21
          go_wp2_with fail
          refine (hk _).mono ?_
          rintro e w1 ⟨rfl, rfl⟩
          go_wp2_with fail
          go_ret
          exact ⟨rfl, rfl⟩

set_option maxHeartbeats 1000000 in
theorem csign_just (o : Nat) (w : World) : Calls Try.prog 17 #[.int .u8 (o : Int)] w (Just w (.string (signV o))) := by
  by_cases h : o = 0 ∨ 6 < o
  · have e : signV o = noText := by
      unfold signV
      rw [if_neg (by omega), if_neg (by omega), if_neg (by omega), if_neg (by omega), if_neg (by omega), if_neg (by omega)]
    rw [e]
    have h1 : ((o : Int) == 1) = false := beq_eq_false_iff_ne.2 (by omega)
    have h2 : ((o : Int) == 2) = false := beq_eq_false_iff_ne.2 (by omega)
    have h3 : ((o : Int) == 3) = false := beq_eq_false_iff_ne.2 (by omega)
    have h4 : ((o : Int) == 4) = false := beq_eq_false_iff_ne.2 (by omega)
    have h5 : ((o : Int) == 5) = false := beq_eq_false_iff_ne.2 (by omega)
    have h6 : ((o : Int) == 6) = false := beq_eq_false_iff_ne.2 (by omega)
    clear h e
    go_enter Try.func17, Try.ntmps17
    go_wp2_with fail
    go_ret
    exact ⟨rfl, rfl⟩
  · have : o = 1 ∨ o = 2 ∨ o = 3 ∨ o = 4 ∨ o = 5 ∨ o = 6 := by omega
    clear h
    rcases this with rfl | rfl | rfl | rfl | rfl | rfl
    all_goals
      go_enter Try.func17, Try.ntmps17
      go_wp2_with fail
      go_ret
      exact ⟨rfl, rfl⟩

set_option maxHeartbeats 2000000 in
theorem cop_just (s : ByteArray) (w : World) : Calls Try.prog 19 #[.string s] w (Just w (.int .u8 (opV s : Int))) := by
  go_enter Try.func19, Try.ntmps19
  go_wp2_with fail
  go_loopw [3] (fun x wr => ∃ i : Nat, 1 ≤ i ∧ i ≤ 7 ∧ x = .int .u8 (i : Int) ∧ Hid (∀ j, 1 ≤ j → j < i → signV j ≠ s) ∧ wr = w)
    (fun x _ => 7 - (intOf x).toNat)
  case atStart => exact ⟨1, by omega, by omega, rfl, hid (fun j h1 h2 => by omega), rfl⟩
  case round =>
    obtain ⟨i, h1, h7, rfl, ho, rfl⟩ := hrel
    by_cases h6 : (i : Int) ≤ 6
    · have hs := fun W => csign_just i W
      have hat := @op_at i s h1 (by omega)
      obtain ⟨S, hS⟩ : ∃ S, S = signV i := ⟨_, rfl⟩
      rw [← hS] at hs hat
      have HS := hid hS
      have HA := hid hat
      clear hS hat
      go_wp2_with fail
      refine (hs _).mono ?_
      rintro e w1 ⟨rfl, rfl⟩
      by_cases he : S = s
      · subst he
        go_wp2_with fail
        go_ret
        exact Just.mk_int (by rw [HA.out trivial])
      · have hb : (S.toList == s.toList) = false := beq_eq_false_iff_ne.2 (fun e => he ((list_ba S s).1 e))
        go_wp2_with fail
        go_roundw
        case rel => exact ⟨i + 1, by omega, by omega, by go_num, hid (fun j g1 g2 => by
          by_cases hj : j = i
          · subst hj; rw [← HS.out]; exact he
          · exact ho.out j g1 (by omega)), trivial⟩
        case measure => simp only [intOf]; omega
    · have hi : i = 7 := by omega
      subst hi
      have H := hid (op_none ho.out)
      go_wp2_with fail
      go_ret
      exact Just.mk_int (by rw [H.out]; rfl)

theorem csign_any (o : Nat) (w : World) (_ : o ≤ 255) : Calls Try.prog 17 #[.int .u8 (o : Int)] w (Says w (.string (signV o))) := (csign_just o w).mono (fun _ _ h => h.says)
theorem cop_any (s : ByteArray) (w : World) : Calls Try.prog 19 #[.string s] w (Says w (.int .u8 (opV s : Int))) := (cop_just s w).mono (fun _ _ h => h.says)
theorem cfits_any (o k l : Nat) (w : World) (_ : o ≤ 255) (_ : k ≤ 255) (_ : l ≤ 255) : Calls Try.prog 21 #[.int .u8 (o : Int), .int .u8 (k : Int), .int .u8 (l : Int)] w (Says w (.bool (fitsV o k l))) := (cfits_just o k l w).mono (fun _ _ h => h.says)
theorem csum_any (k l : Nat) (w : World) (_ : k ≤ 255) (_ : l ≤ 255) : Calls Try.prog 23 #[.int .u8 (k : Int), .int .u8 (l : Int)] w (Says w (.int .u8 (sumK k l : Int))) := (csum_just k l w).mono (fun _ _ h => h.says)
end Go.Proofs.Ytaahaehgdamkdaa
