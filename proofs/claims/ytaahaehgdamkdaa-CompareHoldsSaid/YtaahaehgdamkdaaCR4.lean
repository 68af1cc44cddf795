/- The document's Holds, by its contract. Conditions: numbers within their kinds. -/
import Derived.Test.YtaahaehgdamkdaaCR1
import Derived.Test.YtaahaehgdamkdaaCR3
namespace Go.Proofs.Ytaahaehgdamkdaa
open Go Go.RowKit

set_option maxHeartbeats 2000000 in
theorem rholds_op (o : Nat) (k : Nat) (n : Int) (b : Nat) (t : ByteArray) (l : Nat) (m : Int) (c : Nat) (u : ByteArray) (w : World) (h : o < 1 ∨ 6 < o) :
    Calls Try.prog 12 #[.int .u8 (o : Int), vv k n b t, vv l m c u] w (Says w (.bool (holdsV o k n b t l m c u))) := by
  have hr : holdsV o k n b t l m c u = false := if_pos (by omega)
  rw [hr]
  clear hr
  unfold vv
  rcases h with h | h
  all_goals
    go_enter Try.func12, Try.ntmps12
    go_wp2_with fail
    go_ret
    exact ⟨rfl, (Ext.alloc _ _).then_alloc _⟩

set_option maxHeartbeats 2000000 in
theorem rholds_bad (o : Nat) (k : Nat) (n : Int) (b : Nat) (t : ByteArray) (l : Nat) (m : Int) (c : Nat) (u : ByteArray) (w : World) (hb : b ≤ 18446744073709551615) (hc : c ≤ 18446744073709551615) (h1 : 1 ≤ (o : Int)) (h6 : (o : Int) ≤ 6) (h : checkV k n b t ≠ 0 ∨ checkV l m c u ≠ 0) :
    Calls Try.prog 12 #[.int .u8 (o : Int), vv k n b t, vv l m c u] w (Says w (.bool (holdsV o k n b t l m c u))) := by
  have hr : holdsV o k n b t l m c u = false := if_pos (by omega)
  rw [hr]
  clear hr
  have k1 := fun W => rcheck_any k n b t W hb
  have k2 := fun W => rcheck_any l m c u W hc
  generalize checkV k n b t = C at *
  generalize checkV l m c u = D at *
  unfold vv at *
  by_cases h0 : C = 0
  · have hD : D ≠ 0 := by omega
    have hD' : (D != 0) = true := bne_iff_ne.2 hD
    subst h0
    clear h hD
    go_enter Try.func12, Try.ntmps12
    go_wp2_with fail
    refine (k1 _).mono ?_
    rintro e w1 ⟨rfl, hx⟩
    have HW := hid (hx.block (heap_alloc2_new w _ _))
    have HX := hid (((Ext.alloc w _).then_alloc _).trans hx)
    clear hx
    obtain ⟨⟨b0, b1, b2, b3⟩, _, _⟩ := box4 HW.out
    go_wp2_with fail
    refine (k2 _).mono ?_
    rintro e w2 ⟨rfl, hx⟩
    go_wp2_with fail
    go_ret
    exact ⟨rfl, HX.out.trans hx⟩
  · have hC' : (C != 0) = true := bne_iff_ne.2 h0
    clear h h0
    go_enter Try.func12, Try.ntmps12
    go_wp2_with fail
    refine (k1 _).mono ?_
    rintro e w1 ⟨rfl, hx⟩
    go_wp2_with fail
    go_ret
    exact ⟨rfl, ((Ext.alloc _ _).then_alloc _).trans hx⟩

set_option maxHeartbeats 4000000 in
theorem rholds_good (o : Nat) (k : Nat) (n : Int) (b : Nat) (t : ByteArray) (l : Nat) (m : Int) (c : Nat) (u : ByteArray) (w : World) (hn0 : -9223372036854775808 ≤ n) (hn1 : n ≤ 9223372036854775807) (hm0 : -9223372036854775808 ≤ m) (hm1 : m ≤ 9223372036854775807) (hb : b ≤ 18446744073709551615) (hc : c ≤ 18446744073709551615) (h1 : 1 ≤ (o : Int)) (h6 : (o : Int) ≤ 6) (hk : checkV k n b t = 0) (hl : checkV l m c u = 0) :
    Calls Try.prog 12 #[.int .u8 (o : Int), vv k n b t, vv l m c u] w (Says w (.bool (holdsV o k n b t l m c u))) := by
  have hr : holdsV o k n b t l m c u = if k ≠ l ∧ ¬ (numK k = true ∧ numK l = true) then decide (o = 2)
      else if (standV k n b t l m c u).2 = false then decide (o = 2)
      else if k = 2 ∧ 2 < o then false
      else saysV o (standV k n b t l m c u).1 := if_neg (by omega)
  have k1 := fun W => rcheck_any k n b t W hb
  have k2 := fun W => rcheck_any l m c u W hc
  have n1 := fun W => rnumber_any k W
  have n2 := fun W => rnumber_any l W
  have st := fun W => rstand_any k n b t l m c u W hn0 hn1 hm0 hm1 hb hc
  rw [hk] at k1
  rw [hl] at k2
  clear hk hl hb hc hn0 hn1 hm0 hm1
  generalize standV k n b t l m c u = ST at *
  generalize holdsV o k n b t l m c u = R at *
  obtain ⟨S, is⟩ := ST
  dsimp only at hr
  have HR := hid hr
  clear hr
  unfold vv at *
  go_enter Try.func12, Try.ntmps12
  go_wp2_with fail
  refine (k1 _).mono ?_
  rintro e w1 ⟨rfl, hx⟩
  have HV := hid (hx.block (heap_alloc2_old w _ _))
  have HW := hid (hx.block (heap_alloc2_new w _ _))
  have HX := hid (((Ext.alloc w _).then_alloc _).trans hx)
  clear hx k1
  obtain ⟨⟨b0, b1, b2, b3⟩, _, _⟩ := box4 HW.out
  go_wp2_with fail
  refine (k2 _).mono ?_
  rintro e w2 ⟨rfl, hx⟩
  replace HV := hid (hx.block HV.out)
  replace HW := hid (hx.block HW.out)
  replace HX := hid (HX.out.trans hx)
  clear hx k2 b0 b1 b2 b3
  obtain ⟨⟨a0, a1, a2, a3⟩, _, _⟩ := box4 HV.out
  obtain ⟨⟨b0, b1, b2, b3⟩, _, _⟩ := box4 HW.out
  by_cases hkl : k = l
  · subst hkl
    have HN := hid (show ¬ (k ≠ k ∧ ¬ (numK k = true ∧ numK k = true)) from fun h => h.1 rfl)
    clear n1 n2
    go_wp2_with fail
    refine (st _).mono ?_
    rintro e w3 ⟨rfl, hx⟩
    replace HV := hid (hx.block HV.out)
    replace HX := hid (HX.out.trans hx)
    clear hx st a0 a1 a2 a3 b0 b1 b2 b3
    obtain ⟨⟨a0, a1, a2, a3⟩, _, _⟩ := box4 HV.out
    cases is
    · have hR : R = decide (o = 2) := by
        rw [HR.out, if_neg (HN.out), if_pos rfl]
      clear HR HN
      replace hR := hid hR
      go_wp2_with fail
      all_goals go_ret
      all_goals refine ⟨congrArg (fun b => Ending.returned (Value.bool b)) (?_ : (_ : Bool) = _), HX.out⟩
      all_goals rw [hR.out, Bool.eq_iff_iff, decide_eq_true_iff]
      all_goals simp only [beq_iff_eq] at *
      all_goals omega
    · by_cases h2 : k = 2
      · subst h2
        by_cases ho : 2 < (o : Int)
        · have hR : R = decide False := by
            rw [HR.out, if_neg (HN.out), if_neg (by decide), if_pos (by omega)]
            rfl
          clear HR HN
          replace hR := hid hR
          go_wp2_with fail
          all_goals go_ret
          all_goals refine ⟨congrArg (fun b => Ending.returned (Value.bool b)) (?_ : (_ : Bool) = _), HX.out⟩
          all_goals rw [hR.out, Bool.eq_iff_iff, decide_eq_true_iff]
          all_goals simp only [Bool.false_eq_true] at *
          all_goals omega
        · have hR : R = decide ((o = 1 ∧ S = 0) ∨ (o = 2 ∧ S ≠ 0)) := by
            rw [HR.out, if_neg (HN.out), if_neg (by decide), if_neg (by omega), Bool.eq_iff_iff, decide_eq_true_iff]
            unfold saysV
            rw [decide_eq_true_iff]
            omega
          clear HR HN
          replace hR := hid hR
          go_wp2_with fail
          all_goals go_ret
          all_goals refine ⟨congrArg (fun b => Ending.returned (Value.bool b)) (?_ : (_ : Bool) = _), HX.out⟩
          all_goals rw [hR.out, Bool.eq_iff_iff, decide_eq_true_iff]
          all_goals simp only [beq_iff_eq, ne_eq, Bool.false_eq_true, false_iff, true_iff] at *
          all_goals omega
      · have h2' : ((k : Int) == 2) = false := beq_eq_false_iff_ne.2 (by omega)
        have hR : R = saysV o S := by
          rw [HR.out, if_neg (HN.out), if_neg (by decide), if_neg (by omega)]
        unfold saysV at hR
        clear HR HN
        replace hR := hid hR
        go_wp2_with fail
        all_goals go_ret
        all_goals refine ⟨congrArg (fun b => Ending.returned (Value.bool b)) (?_ : (_ : Bool) = _), HX.out⟩
        all_goals rw [hR.out, Bool.eq_iff_iff, decide_eq_true_iff]
        all_goals simp only [beq_iff_eq, beq_eq_false_iff_ne, ne_eq, decide_eq_true_eq, Bool.false_eq_true, false_iff, true_iff] at *
        all_goals omega
  · have hkl' : ((k : Int) != (l : Int)) = true := bne_iff_ne.2 (by omega)
    have hkn : ((k : Int) == (l : Int)) = false := beq_eq_false_iff_ne.2 (by omega)
    cases hA : numK k
    · rw [hA] at HR n1
      have hR : R = decide (o = 2) := by
        rw [HR.out, if_pos ⟨hkl, fun h => Bool.noConfusion h.1⟩]
      clear HR hkl hA n2 st
      replace hR := hid hR
      go_wp2_with fail
      refine (n1 _).mono ?_
      rintro e w3 ⟨rfl, rfl⟩
      go_wp2_with fail
      all_goals go_ret
      all_goals refine ⟨congrArg (fun b => Ending.returned (Value.bool b)) (?_ : (_ : Bool) = _), HX.out⟩
      all_goals rw [hR.out, Bool.eq_iff_iff, decide_eq_true_iff]
      all_goals simp only [beq_iff_eq, beq_eq_false_iff_ne, bne_iff_ne, ne_eq] at *
      all_goals omega
    · cases hB : numK l
      · rw [hA, hB] at HR
        rw [hA] at n1
        rw [hB] at n2
        have hR : R = decide (o = 2) := by
          rw [HR.out, if_pos ⟨hkl, fun h => Bool.noConfusion h.2⟩]
        clear HR hkl hA hB st
        replace hR := hid hR
        go_wp2_with fail
        refine (n1 _).mono ?_
        rintro e w3 ⟨rfl, rfl⟩
        go_wp2_with fail
        refine (n2 _).mono ?_
        rintro e w3 ⟨rfl, rfl⟩
        go_wp2_with fail
        all_goals go_ret
        all_goals refine ⟨congrArg (fun b => Ending.returned (Value.bool b)) (?_ : (_ : Bool) = _), HX.out⟩
        all_goals rw [hR.out, Bool.eq_iff_iff, decide_eq_true_iff]
        all_goals simp only [beq_iff_eq, beq_eq_false_iff_ne, bne_iff_ne, ne_eq] at *
        all_goals omega
      · have hk2 : k ≠ 2 := by rintro rfl; cases hA
        have HN := hid (show ¬ (k ≠ l ∧ ¬ (numK k = true ∧ numK l = true)) from fun h => h.2 ⟨hA, hB⟩)
        rw [hA] at n1
        rw [hB] at n2
        clear hkl hA hB
        go_wp2_with fail
        refine (n1 _).mono ?_
        rintro e w3 ⟨rfl, rfl⟩
        go_wp2_with fail
        refine (n2 _).mono ?_
        rintro e w3 ⟨rfl, rfl⟩
        clear n1 n2
        go_wp2_with fail
        refine (st _).mono ?_
        rintro e w3 ⟨rfl, hx⟩
        replace HV := hid (hx.block HV.out)
        replace HX := hid (HX.out.trans hx)
        clear hx st a0 a1 a2 a3 b0 b1 b2 b3
        obtain ⟨⟨a0, a1, a2, a3⟩, _, _⟩ := box4 HV.out
        cases is
        · have hR : R = decide (o = 2) := by
            rw [HR.out, if_neg (HN.out), if_pos rfl]
          clear HR HN
          replace hR := hid hR
          go_wp2_with fail
          all_goals go_ret
          all_goals refine ⟨congrArg (fun b => Ending.returned (Value.bool b)) (?_ : (_ : Bool) = _), HX.out⟩
          all_goals rw [hR.out, Bool.eq_iff_iff, decide_eq_true_iff]
          all_goals simp only [beq_iff_eq, beq_eq_false_iff_ne, bne_iff_ne, ne_eq] at *
          all_goals omega
        · have h2' : ((k : Int) == 2) = false := beq_eq_false_iff_ne.2 (by omega)
          have hR : R = saysV o S := by
            rw [HR.out, if_neg (HN.out), if_neg (by decide), if_neg (by omega)]
          unfold saysV at hR
          clear HR HN
          replace hR := hid hR
          go_wp2_with fail
          all_goals go_ret
          all_goals refine ⟨congrArg (fun b => Ending.returned (Value.bool b)) (?_ : (_ : Bool) = _), HX.out⟩
          all_goals rw [hR.out, Bool.eq_iff_iff, decide_eq_true_iff]
          all_goals simp only [beq_iff_eq, beq_eq_false_iff_ne, bne_iff_ne, ne_eq, decide_eq_true_eq, Bool.false_eq_true, false_iff, true_iff] at *
          all_goals omega
end Go.Proofs.Ytaahaehgdamkdaa
