/- The landed program's mayBe, orderOfReals, orderOf, says, Holds, by their contracts. Conditions: numbers within their kinds. -/
import Derived.Test.YtaahaehgdamkdaaCP1
import Derived.Test.YtaahaehgdamkdaaCR3
import Derived.Test.YtaahaehgdamkdaaCOrd
import Derived.Test.YtaahaehgdamkdaaVV2
import Derived.Test.YtaahaehgdamkdaaVV3
namespace Go.Proofs.Ytaahaehgdamkdaa
open Go Go.RowKit

set_option maxHeartbeats 2000000 in
theorem cmaybe_any (k : Nat) (n : Int) (b : Nat) (t : ByteArray) (l : Nat) (m : Int) (c : Nat) (u : ByteArray) (w : World) (hk : k ≤ 255) (hl : l ≤ 255) (hn0 : -9223372036854775808 ≤ n) (hn1 : n ≤ 9223372036854775807) (hm0 : -9223372036854775808 ≤ m) (hm1 : m ≤ 9223372036854775807) (hb : b ≤ 18446744073709551615) (hc : c ≤ 18446744073709551615) (ht : t.size ≤ 9223372036854775807) (hu : u.size ≤ 9223372036854775807) :
    Calls Try.prog 31 #[vv k n b t, vv l m c u] w (Says w (.bool (decide (checkV k n b t = 0 ∧ checkV l m c u = 0)))) := by
  have k1 := fun W => vcheck_any k n b t W hk hn0 hn1 hb ht
  have k2 := fun W => vcheck_any l m c u W hl hm0 hm1 hc hu
  clear hk hl hn0 hn1 hm0 hm1 hb hc ht hu
  generalize checkV k n b t = C at *
  generalize checkV l m c u = D at *
  unfold vv at *
  by_cases h0 : C = 0
  · subst h0
    by_cases h1 : D = 0
    · subst h1
      rw [decide_eq_true ⟨rfl, rfl⟩]
      go_enter Try.func31, Try.ntmps31
      go_wp2_with fail
      refine (k1 _).mono ?_
      rintro e w1 ⟨rfl, hx⟩
      have HW := hid (hx.block (heap_alloc2_new w _ _))
      have HX := hid (((Ext.alloc w _).then_alloc _).trans hx)
      clear hx
      obtain ⟨⟨b0, b1, b2, b3⟩, _, _⟩ := box4 HW.out
      go_wp2_with fail
      refine (k2 _).mono ?_
      rintro e w2 ⟨rfl, hx⟩
      go_wp2_with fail
      go_ret
      exact ⟨rfl, HX.out.trans hx⟩
    · have hD : (D == 0) = false := beq_eq_false_iff_ne.2 h1
      rw [decide_eq_false (fun h => h1 h.2)]
      clear h1
      go_enter Try.func31, Try.ntmps31
      go_wp2_with fail
      refine (k1 _).mono ?_
      rintro e w1 ⟨rfl, hx⟩
      have HW := hid (hx.block (heap_alloc2_new w _ _))
      have HX := hid (((Ext.alloc w _).then_alloc _).trans hx)
      clear hx
      obtain ⟨⟨b0, b1, b2, b3⟩, _, _⟩ := box4 HW.out
      go_wp2_with fail
      refine (k2 _).mono ?_
      rintro e w2 ⟨rfl, hx⟩
      go_wp2_with fail
      go_ret
      exact ⟨rfl, HX.out.trans hx⟩
  · have hC : (C == 0) = false := beq_eq_false_iff_ne.2 h0
    rw [decide_eq_false (fun h => h0 h.1)]
    clear h0
    go_enter Try.func31, Try.ntmps31
    go_wp2_with fail
    refine (k1 _).mono ?_
    rintro e w1 ⟨rfl, hx⟩
    go_wp2_with fail
    go_ret
    exact ⟨rfl, ((Ext.alloc _ _).then_alloc _).trans hx⟩

/-- how two doubles stand -/
def realsV (b c : Nat) : Int × Bool := if lessZ b c then (-1, true) else if lessZ c b then (1, true) else (0, equalZ b c)
theorem equal_less {b c : Nat} (h : equalZ b c = true) : lessZ c b = false := by
  unfold equalZ at h
  have h := of_decide_eq_true h
  unfold lessZ
  exact decide_eq_false (by omega)

set_option maxHeartbeats 1000000 in
theorem creals_just (b c : Nat) (w : World) (hb : b ≤ 18446744073709551615) (hc : c ≤ 18446744073709551615) :
    Calls Try.prog 52 #[.int .u64 (b : Int), .int .u64 (c : Int)] w (SaysB w (realsV b c)) := by
  have e1 := fun W => less_just b c W hb hc
  have e2 := fun W => less_just c b W hc hb
  have e3 := fun W => equal_just b c W hb hc
  have q := @equal_less b c
  unfold realsV
  generalize lessZ b c = X at *
  generalize lessZ c b = Y at *
  generalize equalZ b c = Z at *
  cases X
  · cases Z
    · cases Y
      · go_enter Try.func52, Try.ntmps52
        go_wp2_with fail
        refine (e1 _).mono ?_
        rintro e w1 ⟨rfl, rfl⟩
        go_wp2_with fail
        refine (e3 _).mono ?_
        rintro e w1 ⟨rfl, rfl⟩
        go_wp2_with fail
        refine (e2 _).mono ?_
        rintro e w1 ⟨rfl, rfl⟩
        go_wp2_with fail
        go_ret2
        exact SaysB.mk rfl (Ext.refl _)
      · go_enter Try.func52, Try.ntmps52
        go_wp2_with fail
        refine (e1 _).mono ?_
        rintro e w1 ⟨rfl, rfl⟩
        go_wp2_with fail
        refine (e3 _).mono ?_
        rintro e w1 ⟨rfl, rfl⟩
        go_wp2_with fail
        refine (e2 _).mono ?_
        rintro e w1 ⟨rfl, rfl⟩
        go_wp2_with fail
        go_ret2
        exact SaysB.mk rfl (Ext.refl _)
    · have hY := q rfl
      subst hY
      clear q
      go_enter Try.func52, Try.ntmps52
      go_wp2_with fail
      refine (e1 _).mono ?_
      rintro e w1 ⟨rfl, rfl⟩
      go_wp2_with fail
      refine (e3 _).mono ?_
      rintro e w1 ⟨rfl, rfl⟩
      go_wp2_with fail
      go_ret2
      exact SaysB.mk rfl (Ext.refl _)
  · clear q
    go_enter Try.func52, Try.ntmps52
    go_wp2_with fail
    refine (e1 _).mono ?_
    rintro e w1 ⟨rfl, rfl⟩
    go_wp2_with fail
    go_ret2
    exact SaysB.mk rfl (Ext.refl _)

set_option maxHeartbeats 2000000 in
theorem corder_any (k : Nat) (n : Int) (b : Nat) (t : ByteArray) (l : Nat) (m : Int) (c : Nat) (u : ByteArray) (w : World) (hk : k ≤ 255) (hl : l ≤ 255) (hn0 : -9223372036854775808 ≤ n) (hn1 : n ≤ 9223372036854775807) (hm0 : -9223372036854775808 ≤ m) (hm1 : m ≤ 9223372036854775807) (hb : b ≤ 18446744073709551615) (hc : c ≤ 18446744073709551615) (ht : t.size ≤ 9223372036854775807) (hu : u.size ≤ 9223372036854775807) :
    Calls Try.prog 32 #[vv k n b t, vv l m c u] w (SaysB w (standV k n b t l m c u)) := by
  by_cases h13 : k = 1 ∧ l = 3
  · obtain ⟨rfl, rfl⟩ := h13
    rw [stand_ir]
    have hr := fun W => versus_any n c W hn0 hn1 hc
    generalize versusZ n c = V at *
    unfold vv
    clear hk hl ht hu
    go_enter Try.func32, Try.ntmps32
    go_wp2_with fail
    refine (hr _).mono ?_
    rintro e w1 ⟨rfl, hx⟩
    go_wp2_with fail
    go_ret2
    exact ⟨rfl, ((Ext.alloc _ _).then_alloc _).trans hx⟩
  · by_cases h31 : k = 3 ∧ l = 1
    · obtain ⟨rfl, rfl⟩ := h31
      rw [stand_ri]
      have hr := fun W => versus_any m b W hm0 hm1 hb
      have hv := versus_le m b
      generalize versusZ m b = V at *
      obtain ⟨V1, V2⟩ := V
      dsimp only at hv
      unfold vv
      clear h13 hk hl ht hu
      go_enter Try.func32, Try.ntmps32
      go_wp2_with fail
      refine (hr _).mono ?_
      rintro e w1 ⟨rfl, hx⟩
      go_wp2_with fail
      go_ret2
      exact ⟨rfl, ((Ext.alloc _ _).then_alloc _).trans hx⟩
    · by_cases h3 : k = 3
      · subst h3
        have hl1 : l ≠ 1 := by omega
        have hl' : ((l : Int) == 1) = false := beq_eq_false_iff_ne.2 (by omega)
        rw [stand_rr hl1]
        have hr := fun W => creals_just b c W hb hc
        unfold realsV at hr
        generalize (if lessZ b c then ((-1 : Int), true) else if lessZ c b then (1, true) else (0, equalZ b c)) = V at *
        clear h13 h31 hl1 hk hl ht hu
        unfold vv
        go_enter Try.func32, Try.ntmps32
        go_wp2_with fail
        refine (hr _).mono ?_
        rintro e w1 ⟨rfl, hx⟩
        go_wp2_with fail
        go_ret2
        exact ⟨rfl, ((Ext.alloc _ _).then_alloc _).trans hx⟩
      · rw [stand_rank h3 h13]
        have hr := fun W => vrank_any k n b t l m c u W hk hl hn0 hn1 hm0 hm1 hb hc ht hu
        generalize rankV k n b t l m c u = R at *
        have h3' : ((k : Int) == 3) = false := beq_eq_false_iff_ne.2 (by omega)
        unfold vv at *
        by_cases h1 : k = 1
        · subst h1
          have h3l : ((l : Int) == 3) = false := beq_eq_false_iff_ne.2 (by omega)
          clear h13 h31 h3 hk hl ht hu
          go_enter Try.func32, Try.ntmps32
          go_wp2_with fail
          refine (hr _).mono ?_
          rintro e w1 ⟨rfl, hx⟩
          go_wp2_with fail
          go_ret2
          exact SaysB.mk rfl (((Ext.alloc _ _).then_alloc _).trans hx)
        · have h1' : ((k : Int) == 1) = false := beq_eq_false_iff_ne.2 (by omega)
          clear h13 h31 h3 h1 hk hl ht hu
          go_enter Try.func32, Try.ntmps32
          go_wp2_with fail
          refine (hr _).mono ?_
          rintro e w1 ⟨rfl, hx⟩
          go_wp2_with fail
          go_ret2
          exact SaysB.mk rfl (((Ext.alloc _ _).then_alloc _).trans hx)

theorem says_of (o : Nat) (x : Int) (r : Bool) (h : r = true ↔ ((o = 1 ∧ x = 0) ∨ (o = 2 ∧ x ≠ 0) ∨ (o = 3 ∧ x < 0) ∨ (o = 4 ∧ x ≤ 0) ∨ (o = 5 ∧ 0 < x) ∨ (o = 6 ∧ 0 ≤ x))) : r = saysV o x := by
  unfold saysV
  rw [Bool.eq_iff_iff, decide_eq_true_iff]
  exact h

set_option maxHeartbeats 1000000 in
theorem csays_just (o : Nat) (x : Int) (w : World) : Calls Try.prog 33 #[.int .u8 (o : Int), .int .i64 x] w (Just w (.bool (saysV o x))) := by
  by_cases h : o = 0 ∨ 6 < o
  · have e : saysV o x = false := decide_eq_false (by omega)
    rw [e]
    have h1 : ((o : Int) == 1) = false := beq_eq_false_iff_ne.2 (by omega)
    have h2 : ((o : Int) == 2) = false := beq_eq_false_iff_ne.2 (by omega)
    have h3 : ((o : Int) == 3) = false := beq_eq_false_iff_ne.2 (by omega)
    have h4 : ((o : Int) == 4) = false := beq_eq_false_iff_ne.2 (by omega)
    have h5 : ((o : Int) == 5) = false := beq_eq_false_iff_ne.2 (by omega)
    have h6 : ((o : Int) == 6) = false := beq_eq_false_iff_ne.2 (by omega)
    clear h e
    go_enter Try.func33, Try.ntmps33
    go_wp2_with fail
    go_ret
    exact ⟨rfl, rfl⟩
  · have : o = 1 ∨ o = 2 ∨ o = 3 ∨ o = 4 ∨ o = 5 ∨ o = 6 := by omega
    clear h
    rcases this with rfl | rfl | rfl | rfl | rfl | rfl
    all_goals
      go_enter Try.func33, Try.ntmps33
      go_wp2_with fail
      all_goals go_ret
      all_goals refine Just.mk_bool (says_of _ _ _ ?_)
      all_goals simp only [beq_iff_eq, beq_eq_false_iff_ne, bne_iff_ne, ne_eq, decide_eq_true_eq, true_iff, true_and] at *
      all_goals omega

/-- as the program asks it -/
theorem holds_prog (o : Nat) (k : Nat) (n : Int) (b : Nat) (t : ByteArray) (l : Nat) (m : Int) (c : Nat) (u : ByteArray) :
    holdsV o k n b t l m c u = if ¬ (checkV k n b t = 0 ∧ checkV l m c u = 0) then false else if fitsV o k l = false then decide (o = 2) else if (standV k n b t l m c u).2 = false then decide (o = 2) else saysV o (standV k n b t l m c u).1 := by
  by_cases hc : checkV k n b t = 0 ∧ checkV l m c u = 0
  · rw [if_neg (fun h => h hc)]
    have p1 := check_parts hc.1
    have p2 := check_parts hc.2
    unfold holdsV fitsV
    by_cases ho : o < 1 ∨ 6 < o
    · rw [if_pos (by omega), if_pos ho, if_pos (c := false = false) rfl]
      exact (decide_eq_false (by omega)).symm
    · rw [if_neg (by omega), if_neg ho]
      by_cases hn : numK k = true ∧ numK l = true
      · rw [if_neg (fun h => h.2 hn), if_pos (Or.inl hn), if_neg (c := true = false) (by decide)]
        have : k ≠ 2 := by rintro rfl; cases hn.1
        rw [if_neg (c := k = 2 ∧ 2 < o) (by omega)]
      · by_cases hkl : k = l
        · subst hkl
          rw [if_neg (fun h => h.1 rfl)]
          by_cases h4 : k = 4
          · rw [if_pos (Or.inr ⟨h4, h4⟩), if_neg (c := true = false) (by decide), if_neg (c := k = 2 ∧ 2 < o) (by omega)]
          · rw [if_neg (c := numK k = true ∧ numK k = true ∨ k = 4 ∧ k = 4) (fun h => by rcases h with h | h <;> first | exact hn h | exact h4 h.1)]
            have h2 : k = 2 := by
              rcases num_cases k with ⟨h, _⟩ | ⟨_, _, _⟩
              · exact absurd ⟨h, h⟩ hn
              · omega
            subst h2
            rw [stand_rank (by decide) (by omega), if_neg (c := true = false) (by decide)]
            by_cases h2 : 2 < o
            · rw [if_pos ⟨rfl, h2⟩, if_pos (decide_eq_false (by omega))]
              exact (decide_eq_false (by omega)).symm
            · rw [if_neg (by omega), if_neg (by rw [decide_eq_false_iff_not]; omega)]
              exact (if_neg (c := true = false) (by decide)).symm
        · rw [if_pos ⟨hkl, hn⟩, if_neg (c := numK k = true ∧ numK l = true ∨ k = 4 ∧ l = 4) (fun h => by rcases h with h | h <;> first | exact hn h | omega), if_pos (decide_eq_false (by omega))]
  · rw [if_pos hc]
    unfold holdsV
    exact if_pos (by omega)

set_option maxHeartbeats 2000000 in
theorem cholds_any (o : Nat) (k : Nat) (n : Int) (b : Nat) (t : ByteArray) (l : Nat) (m : Int) (c : Nat) (u : ByteArray) (w : World) (_ : o ≤ 255) (hk : k ≤ 255) (hl : l ≤ 255) (hn0 : -9223372036854775808 ≤ n) (hn1 : n ≤ 9223372036854775807) (hm0 : -9223372036854775808 ≤ m) (hm1 : m ≤ 9223372036854775807) (hb : b ≤ 18446744073709551615) (hc : c ≤ 18446744073709551615) (ht : t.size ≤ 9223372036854775807) (hu : u.size ≤ 9223372036854775807) :
    Calls Try.prog 11 #[.int .u8 (o : Int), vv k n b t, vv l m c u] w (Says w (.bool (holdsV o k n b t l m c u))) := by
  have hr := holds_prog o k n b t l m c u
  have km := fun W => cmaybe_any k n b t l m c u W hk hl hn0 hn1 hm0 hm1 hb hc ht hu
  have kf := fun W => cfits_just o k l W
  have ko := fun W => corder_any k n b t l m c u W hk hl hn0 hn1 hm0 hm1 hb hc ht hu
  have ks := fun x W => csays_just o x W
  clear hk hl hn0 hn1 hm0 hm1 hb hc ht hu
  generalize holdsV o k n b t l m c u = R at *
  generalize hS : standV k n b t l m c u = ST at *
  clear hS
  obtain ⟨S, is⟩ := ST
  dsimp only at hr
  by_cases hm : checkV k n b t = 0 ∧ checkV l m c u = 0
  · rw [if_neg (fun h => h hm)] at hr
    rw [decide_eq_true hm] at km
    clear hm
    unfold vv at *
    cases hF : fitsV o k l
    · rw [hF] at kf
      rw [if_pos hF] at hr
      clear hF ko ks
      by_cases h2 : o = 2
      · subst h2
        rw [decide_eq_true rfl] at hr
        subst hr
        go_enter Try.func11, Try.ntmps11
        go_wp2_with fail
        refine (km _).mono ?_
        rintro e w1 ⟨rfl, hx⟩
        have HV := hid (hx.block (heap_alloc2_old w _ _))
        have HW := hid (hx.block (heap_alloc2_new w _ _))
        have HX := hid (((Ext.alloc w _).then_alloc _).trans hx)
        clear hx
        obtain ⟨⟨a0, a1, a2, a3⟩, _, _⟩ := box4 HV.out
        obtain ⟨⟨b0, b1, b2, b3⟩, _, _⟩ := box4 HW.out
        go_wp2_with fail
        refine (kf _).mono ?_
        rintro e w2 ⟨rfl, rfl⟩
        go_wp2_with fail
        go_ret
        exact ⟨rfl, HX.out⟩
      · rw [decide_eq_false h2] at hr
        subst hr
        have h2' : ((o : Int) == 2) = false := beq_eq_false_iff_ne.2 (by omega)
        clear h2
        go_enter Try.func11, Try.ntmps11
        go_wp2_with fail
        refine (km _).mono ?_
        rintro e w1 ⟨rfl, hx⟩
        have HV := hid (hx.block (heap_alloc2_old w _ _))
        have HW := hid (hx.block (heap_alloc2_new w _ _))
        have HX := hid (((Ext.alloc w _).then_alloc _).trans hx)
        clear hx
        obtain ⟨⟨a0, a1, a2, a3⟩, _, _⟩ := box4 HV.out
        obtain ⟨⟨b0, b1, b2, b3⟩, _, _⟩ := box4 HW.out
        go_wp2_with fail
        refine (kf _).mono ?_
        rintro e w2 ⟨rfl, rfl⟩
        go_wp2_with fail
        go_ret
        exact ⟨rfl, HX.out⟩
    · rw [hF] at kf
      rw [if_neg (by rw [hF]; decide)] at hr
      clear hF
      cases is
      · rw [if_pos rfl] at hr
        clear ks
        by_cases h2 : o = 2
        · subst h2
          rw [decide_eq_true rfl] at hr
          subst hr
          go_enter Try.func11, Try.ntmps11
          go_wp2_with fail
          refine (km _).mono ?_
          rintro e w1 ⟨rfl, hx⟩
          have HV := hid (hx.block (heap_alloc2_old w _ _))
          have HW := hid (hx.block (heap_alloc2_new w _ _))
          have HX := hid (((Ext.alloc w _).then_alloc _).trans hx)
          clear hx
          obtain ⟨⟨a0, a1, a2, a3⟩, _, _⟩ := box4 HV.out
          obtain ⟨⟨b0, b1, b2, b3⟩, _, _⟩ := box4 HW.out
          go_wp2_with fail
          refine (kf _).mono ?_
          rintro e w2 ⟨rfl, rfl⟩
          go_wp2_with fail
          refine (ko _).mono ?_
          rintro e w2 ⟨rfl, hx⟩
          replace HX := hid (HX.out.trans hx)
          clear hx
          go_wp2_with fail
          go_ret
          exact ⟨rfl, HX.out⟩
        · rw [decide_eq_false h2] at hr
          subst hr
          have h2' : ((o : Int) == 2) = false := beq_eq_false_iff_ne.2 (by omega)
          clear h2
          go_enter Try.func11, Try.ntmps11
          go_wp2_with fail
          refine (km _).mono ?_
          rintro e w1 ⟨rfl, hx⟩
          have HV := hid (hx.block (heap_alloc2_old w _ _))
          have HW := hid (hx.block (heap_alloc2_new w _ _))
          have HX := hid (((Ext.alloc w _).then_alloc _).trans hx)
          clear hx
          obtain ⟨⟨a0, a1, a2, a3⟩, _, _⟩ := box4 HV.out
          obtain ⟨⟨b0, b1, b2, b3⟩, _, _⟩ := box4 HW.out
          go_wp2_with fail
          refine (kf _).mono ?_
          rintro e w2 ⟨rfl, rfl⟩
          go_wp2_with fail
          refine (ko _).mono ?_
          rintro e w2 ⟨rfl, hx⟩
          replace HX := hid (HX.out.trans hx)
          clear hx
          go_wp2_with fail
          go_ret
          exact ⟨rfl, HX.out⟩
      · rw [if_neg (by decide)] at hr
        replace ks := fun W => ks S W
        rw [← hr] at ks
        clear hr
        go_enter Try.func11, Try.ntmps11
        go_wp2_with fail
        refine (km _).mono ?_
        rintro e w1 ⟨rfl, hx⟩
        have HV := hid (hx.block (heap_alloc2_old w _ _))
        have HW := hid (hx.block (heap_alloc2_new w _ _))
        have HX := hid (((Ext.alloc w _).then_alloc _).trans hx)
        clear hx
        obtain ⟨⟨a0, a1, a2, a3⟩, _, _⟩ := box4 HV.out
        obtain ⟨⟨b0, b1, b2, b3⟩, _, _⟩ := box4 HW.out
        go_wp2_with fail
        refine (kf _).mono ?_
        rintro e w2 ⟨rfl, rfl⟩
        go_wp2_with fail
        refine (ko _).mono ?_
        rintro e w2 ⟨rfl, hx⟩
        replace HX := hid (HX.out.trans hx)
        clear hx
        go_wp2_with fail
        refine (ks _).mono ?_
        rintro e w3 ⟨rfl, rfl⟩
        go_wp2_with fail
        go_ret
        exact ⟨rfl, HX.out⟩
  · rw [if_pos hm] at hr
    rw [decide_eq_false hm] at km
    subst hr
    clear hm kf ko ks
    unfold vv at *
    go_enter Try.func11, Try.ntmps11
    go_wp2_with fail
    refine (km _).mono ?_
    rintro e w1 ⟨rfl, hx⟩
    go_wp2_with fail
    go_ret
    exact ⟨rfl, ((Ext.alloc _ _).then_alloc _).trans hx⟩
end Go.Proofs.Ytaahaehgdamkdaa
