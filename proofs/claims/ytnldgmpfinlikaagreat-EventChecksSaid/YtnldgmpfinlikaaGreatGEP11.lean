/- Several texts in one: EP11, EEv. Conditions: those of each. -/
import Derived.Deep.RegionLaw
import Derived.Test.YtnldgmpfinlikaaGreatGEFar
import Derived.Test.YtnldgmpfinlikaaGreatELaw1
import Derived.Test.YtnldgmpfinlikaaGreatGVSmall
import Derived.Test.YtnldgmpfinlikaaGreatEP6
import Derived.Test.YtnldgmpfinlikaaGreatGEP5
import Derived.Test.YtnldgmpfinlikaaGreatEP8
/- The landed program's Take of an event, by its contract. Conditions: small types, texts of up to 2^20 bytes. -/
namespace Go.Proofs.YtnldgmpfinlikaaGreat
open Go Go.RowKit

theorem takeZ_lt (s : ByteArray) (p : Int) : (takeZ s p).1 < 18446744073709551616 := by
  by_cases h : p < 0 ∨ s.size < p
  · rw [take_out h]
    decide
  · obtain ⟨⟨u, n, e⟩, ht⟩ : ∃ t, t = tk (s.data.toList.drop p.toNat) 0 0 := ⟨_, rfl⟩
    unfold takeZ
    rw [if_neg h, ← ht]
    show u < _
    by_cases he : e = 0
    · subst he
      exact (tk_inv _ 0 0 u n (by decide) (by omega) ht.symm).2.2.1
    · rw [tk_zero ht.symm he]
      decide
theorem numsE_lt (s : ByteArray) : ∀ (k : Nat) (p : Int), ∀ u ∈ (numsE s k p).1, u < 18446744073709551616
  | 0, _, u, h => by cases h
  | k + 1, p, u, h => by
    rw [numsE_step] at h
    by_cases h1 : (takeZ s p).2.2 ≠ 0
    · rw [if_pos h1] at h; cases h
    · rw [if_neg h1] at h
      by_cases h2 : (numsE s k (takeZ s p).2.1).2.2 ≠ 0
      · rw [if_pos h2] at h; cases h
      · rw [if_neg h2] at h
        rcases List.mem_cons.1 h with rfl | h
        · exact takeZ_lt s p
        · exact numsE_lt s k _ u h
theorem numsE_length (s : ByteArray) : ∀ (k : Nat) (p : Int), (numsE s k p).2.2 = 0 → (numsE s k p).1.length = k
  | 0, _, _ => rfl
  | k + 1, p, h => by
    rw [numsE_step] at h ⊢
    by_cases h1 : (takeZ s p).2.2 ≠ 0
    · rw [if_pos h1] at h; exact absurd h h1
    · rw [if_neg h1] at h ⊢
      by_cases h2 : (numsE s k (takeZ s p).2.1).2.2 ≠ 0
      · rw [if_pos h2] at h; exact absurd h h2
      · rw [if_neg h2]
        show (numsE s k (takeZ s p).2.1).1.length + 1 = _
        rw [numsE_length s k _ (Classical.not_not.1 h2)]
theorem numsE_in (s : ByteArray) : ∀ (k : Nat) (p : Int), 0 ≤ p ∧ p ≤ (s.size : Int) → (numsE s k p).2.2 = 0 → 0 ≤ (numsE s k p).2.1 ∧ (numsE s k p).2.1 ≤ (s.size : Int)
  | 0, _, h, _ => h
  | k + 1, p, hp, h => by
    obtain ⟨n, rfl⟩ : ∃ n : Nat, p = (n : Int) := ⟨p.toNat, by omega⟩
    obtain ⟨u, M, e, he, hM, _⟩ := takeZ_at (s := s) (p := n) (by omega)
    rw [numsE_step] at h ⊢
    rw [he] at h ⊢
    dsimp only at h ⊢
    by_cases h1 : e ≠ 0
    · rw [if_pos h1] at h; exact absurd h h1
    · rw [if_neg h1] at h ⊢
      by_cases h2 : (numsE s k (M : Int)).2.2 ≠ 0
      · rw [if_pos h2] at h; exact absurd h h2
      · rw [if_neg h2]
        have := hM (Classical.not_not.1 h1)
        exact numsE_in s k (M : Int) (by omega) (Classical.not_not.1 h2)
theorem valsE_in (s : ByteArray) : ∀ (k : Nat) (p : Int), 0 ≤ p ∧ p ≤ (s.size : Int) → ∀ x ∈ (valsE s k p).1, x.In
  | 0, _, _, x, h => by cases h
  | k + 1, p, hp, x, h => by
    obtain ⟨n, rfl⟩ : ∃ n : Nat, p = (n : Int) := ⟨p.toNat, by omega⟩
    rw [valsE_step] at h
    by_cases h1 : (takeV s (n : Int)).2.2 ≠ 0
    · rw [if_pos h1] at h; cases h
    · rw [if_neg h1] at h
      by_cases h2 : (valsE s k (takeV s (n : Int)).2.1).2.2 ≠ 0
      · rw [if_pos h2] at h; cases h
      · rw [if_neg h2] at h
        obtain ⟨M, hM, hM1, hM2, _, hIn⟩ := value_bytes (s := s) (p := n) (by omega) (v := (takeV s (n : Int)).1) (m := (takeV s (n : Int)).2.1) (by rw [← Classical.not_not.1 h1])
        rcases List.mem_cons.1 h with rfl | h
        · exact hIn
        · exact valsE_in s k _ (by omega) x h
theorem check_eight {T : List TZ} {e : EZ} (h : checkZ T = 0) (hb : boundE e) : checkE T e = 8 := by
  unfold checkE
  rw [if_neg (fun g => g h), if_pos hb]
theorem made_bad {a b c : Nat} {t : TZ} {v : List VZ} (h : ¬(a ≤ 1099511627776 ∧ b < 16 ∧ c ≤ 1099511627776)) : boundE (madeE a b c t v) := by
  unfold madeE
  rw [if_neg h]
  exact .inl (show (-1 : Int) < 0 by decide)
theorem ewr_small {a : Nat} (h : a ≤ 1099511627776) : ewr a = (a : Int) := iwrap _ (by omega) (by omega)
theorem ewr_big {a m : Nat} (h : m < a) (hm : m ≤ 1099511627776) (ha : a < 18446744073709551616) : ewr a < 0 ∨ (m : Int) < ewr a := by
  unfold ewr
  rw [IntKind.wrap_i64]
  omega
theorem ewr_bad {a b c : Nat} {n : ByteArray} {v : List VZ} (h : ¬(a ≤ 1099511627776 ∧ b < 16 ∧ c ≤ 1099511627776)) (ha : a < 18446744073709551616) (hb : b < 18446744073709551616) (hc : c < 18446744073709551616) : boundE ⟨ewr a, ewr b, ewr c, n, v⟩ := by
  show ewr a < 0 ∨ 1099511627776 < ewr a ∨ ewr b < 0 ∨ 16 ≤ ewr b ∨ ewr c < 0 ∨ 1099511627776 < ewr c
  by_cases h1 : a ≤ 1099511627776
  · by_cases h2 : b < 16
    · have := ewr_big (a := c) (m := 1099511627776) (by omega) (by omega) hc
      omega
    · have := ewr_big (a := b) (m := 15) (by omega) (by omega) hb
      omega
  · have := ewr_big (a := a) (m := 1099511627776) (by omega) (by omega) ha
    omega
/-- what is told of an event whose numbers the program holds -/
def endE (T : List TZ) (x : EZ × Int × Int) : EZ × Int × Int := if x.2.2 ≠ 0 then failE x.2.2 else if checkE T x.1 ≠ 0 then failE (checkE T x.1) else (x.1, x.2.1, 0)
theorem rest_plain {T : List TZ} {s : ByteArray} {a b c d : Nat} {p : Int} (hz : checkZ T = 0) (ha : a < 18446744073709551616) (hb : b < 18446744073709551616) (hc : c < 18446744073709551616) : restE T s a b c d p = endE T (restO T s a b c d p) := by
  unfold restE restO
  by_cases hd : T.length ≤ d
  · rw [if_pos hd, if_pos hd]
    rfl
  · rw [if_neg hd, if_neg hd]
    generalize T.getD d TZ.none = t
    generalize valsE s t.f.length p = V
    obtain ⟨v, m, f⟩ := V
    unfold endE
    dsimp only
    by_cases hf : f ≠ 0
    · rw [if_pos hf, if_pos hf]
    · rw [if_neg hf, if_neg hf]
      by_cases hg : a ≤ 1099511627776 ∧ b < 16 ∧ c ≤ 1099511627776
      · have : madeE a b c t v = ⟨ewr a, ewr b, ewr c, t.n, v⟩ := by
          unfold madeE
          rw [if_pos hg, ewr_small hg.1, ewr_small (by omega), ewr_small hg.2.2]
        rw [this]
      · rw [check_eight hz (made_bad hg), check_eight hz (ewr_bad hg ha hb hc)]
        rfl
theorem takeO_good {T : List TZ} {s : ByteArray} {p m : Int} {a b c d : Nat} (h : numsE s 4 p = ([a, b, c, d], m, 0)) : takeO T s p = restO T s a b c d m := by
  unfold takeO
  rw [h]
  rfl
theorem takeO_bad {T : List TZ} {s : ByteArray} {p : Int} (h : (numsE s 4 p).2.2 ≠ 0) : takeO T s p = failE (numsE s 4 p).2.2 := by
  unfold takeO
  generalize numsE s 4 p = N at *
  obtain ⟨l, m, f⟩ := N
  split
  next h2 => exact absurd (Prod.mk.inj (Prod.mk.inj h2).2).2 h
  next h2 => rw [← (Prod.mk.inj (Prod.mk.inj h2).2).2]
theorem takeEv_good {T : List TZ} {s : ByteArray} {p m : Int} {a b c d : Nat} (g : ¬(checkZ T ≠ 0 ∨ p < 0 ∨ s.size < p)) (h : numsE s 4 p = ([a, b, c, d], m, 0)) : takeEv T s p = restE T s a b c d m := by
  unfold takeEv
  rw [if_neg g, h]
  rfl
theorem takeEv_bad {T : List TZ} {s : ByteArray} {p : Int} (g : ¬(checkZ T ≠ 0 ∨ p < 0 ∨ s.size < p)) (h : (numsE s 4 p).2.2 ≠ 0) : takeEv T s p = failE (numsE s 4 p).2.2 := by
  unfold takeEv
  rw [if_neg g]
  generalize numsE s 4 p = N at *
  obtain ⟨l, m, f⟩ := N
  split
  next h2 => exact absurd (Prod.mk.inj (Prod.mk.inj h2).2).2 h
  next h2 => rw [← (Prod.mk.inj (Prod.mk.inj h2).2).2]
theorem take_plain {T : List TZ} {s : ByteArray} {p : Int} (h : ¬(checkZ T ≠ 0 ∨ p < 0 ∨ s.size < p)) : takeEv T s p = endE T (takeO T s p) := by
  have hz : checkZ T = 0 := Classical.not_not.1 fun g => h (.inl g)
  have hl := numsE_length s 4 p
  have hlt := numsE_lt s 4 p
  by_cases hf : (numsE s 4 p).2.2 = 0
  · obtain ⟨l, m, f, hN⟩ : ∃ l m f, numsE s 4 p = (l, m, f) := ⟨_, _, _, rfl⟩
    rw [hN] at hl hlt hf
    dsimp only at hl hlt hf
    subst hf
    obtain ⟨a, b, c, d, rfl⟩ : ∃ a b c d, l = [a, b, c, d] := by
      match l, hl rfl with
      | [a, b, c, d], _ => exact ⟨a, b, c, d, rfl⟩
    rw [takeEv_good h hN, takeO_good hN]
    exact rest_plain hz (hlt a (by simp)) (hlt b (by simp)) (hlt c (by simp))
  · rw [takeEv_bad h hf, takeO_bad hf]
    unfold endE
    show _ = if (numsE s 4 p).2.2 ≠ 0 then _ else _
    rw [if_pos hf]
    rfl
/-- what the program reads is small -/
theorem takeO_small {T : List TZ} {s : ByteArray} {p : Int} (hsm : TypesSmall T) (hp : 0 ≤ p ∧ p ≤ (s.size : Int)) : (takeO T s p).1.n.size ≤ 40 ∧ ValsOk (takeO T s p).1.v := by
  have h0 : (EZ.none).n.size ≤ 40 ∧ ValsOk (EZ.none).v := ⟨by decide, fun x hx => by cases hx⟩
  have hin := numsE_in s 4 p hp
  unfold takeO
  generalize numsE s 4 p = N at *
  obtain ⟨l, m, f⟩ := N
  dsimp only at hin
  split
  next a b c d m' h =>
    obtain ⟨rfl, rfl, rfl⟩ : l = [a, b, c, d] ∧ m = m' ∧ f = 0 := by simpa using h
    unfold restO
    by_cases hd : T.length ≤ d
    · rw [if_pos hd]
      exact h0
    · rw [if_neg hd]
      have hdl : d < T.length := by omega
      have hget : T.getD d TZ.none = T[d] := by rw [List.getD_eq_getElem?_getD, List.getElem?_eq_getElem hdl]; rfl
      refine ⟨?_, fun x hx => ?_⟩
      · show (T.getD d TZ.none).n.size ≤ 40
        rw [hget]
        exact (hsm.2 _ (List.getElem_mem hdl)).1
      · obtain ⟨q1, q2, q3, q4, q5⟩ := valsE_in s _ m (hin rfl) x hx
        exact ⟨q1, q2, q3, q4, by omega⟩
  next h => exact h0

theorem vals_kept {w w' : World} {r : Value} {V : List VZ} {g : Nat} {cs : Array Value} {t : TypeId} {fr : Nat × Nat} (h : ValsAt w r V) (hb : w.heap[g]? = some (.cells cs t fr)) (hn : NoByte cs) (hk : But g w w') : ValsAt w' r V := by
  obtain ⟨A, c, rfl, h1, h2, h3⟩ := h
  refine ⟨A, c, rfl, h1, h2, fun i hi => ?_⟩
  obtain ⟨g3, o3, hA, q1, q2, q3, q4⟩ := h3 i hi
  have hne : g3 ≠ g := fun e => by
    subst e
    rw [cell_of_row w g3 _ _ _ _ hb] at q1
    exact hn _ _ q1
  exact ⟨g3, o3, hA, hk.cell hne q1, hk.cell hne q2, hk.cell hne q3, hk.cell hne q4⟩
theorem but5 (w : World) (g : Nat) (a b c d e : Value) : But g w (((((w.setCell ⟨g, 0, none⟩ a).setCell ⟨g, 1, none⟩ b).setCell ⟨g, 2, none⟩ c).setCell ⟨g, 3, none⟩ d).setCell ⟨g, 4, none⟩ e) :=
  But.set (But.set (But.set (But.set (But.set (But.refl g w) 0 a) 1 b) 2 c) 3 d) 4 e
theorem ext5 {w0 w : World} (h : Ext w0 w) {g : Nat} (hg : w0.heap.size ≤ g) (a b c d e : Value) : Ext w0 (((((w.setCell ⟨g, 0, none⟩ a).setCell ⟨g, 1, none⟩ b).setCell ⟨g, 2, none⟩ c).setCell ⟨g, 3, none⟩ d).setCell ⟨g, 4, none⟩ e) := by
  repeat (first | (with_reducible exact h) | (with_reducible refine Ext.setCell ?_ hg _))

set_option maxRecDepth 100000 in
set_option maxHeartbeats 4000000 in
theorem etakep_any (T : List TZ) (tv : Value) (s : ByteArray) (p : Int) (w : World) (hT : TypesAt w tv T) (hsm : TypesSmall T) (hs : s.size ≤ 1048576) :
    Calls Tryz.prog 16 #[tv, .string s, .int .i64 p] w (SaysE w (takeEv T s p)) := by
  have kc := fun W (h : Ext w W) => schecks_any T tv W (hT.ext h) hsm.mid
  have kt := fun W (h : Ext w W) (hp0 : 0 ≤ p) (hp1 : p ≤ (s.size : Int)) => etakeof_any T tv s p W (hT.ext h) hsm hs hp0 hp1
  have kk := fun W (e : EZ) (r : Value) (h : Ext w W) (hv : ValsAt W r e.v) (hn : e.n.size ≤ 40) (hvo : ValsOk e.v) => echeckp_any T e tv r W (hT.ext h) hv hsm hn hvo
  have hpl := @take_plain T s p
  have hts := @takeO_small T s p hsm
  have hbd : (checkZ T ≠ 0 ∨ p < 0 ∨ s.size < p) → takeEv T s p = failE 2 := fun h => if_pos h
  generalize takeEv T s p = R at *
  generalize takeO T s p = X at *
  generalize checkZ T = CT at *
  unfold endE at hpl
  obtain ⟨AT, cT, rfl, _, _, _⟩ := hT
  have HPL := hid hpl
  have HBD := hid hbd
  have HTS := hid hts
  clear hpl hbd hts
  have HX := hid (Ext.alloc w (Obj.cells #[.int .i64 0, .int .i64 0, .int .i64 0, .string ⟨#[]⟩, .slice none 0 0] 34 (0, 0)))
  have HB := hid (heap_alloc_new w (Obj.cells #[.int .i64 0, .int .i64 0, .int .i64 0, .string ⟨#[]⟩, .slice none 0 0] 34 (0, 0)))
  go_enter Tryz.func16, Tryz.ntmps16
  go_wp2_with fail
  refine (kc _ HX.out).mono ?_
  rintro e1 w1 ⟨rfl, hx⟩
  replace HB := hid (hx.block HB.out)
  replace HX := hid (HX.out.trans hx)
  clear hx kc
  obtain ⟨ge, hge⟩ : ∃ g, g = w.heap.size := ⟨_, rfl⟩
  rw [← hge] at HB ⊢
  have HG := hid (show w.heap.size ≤ ge from Nat.le_of_eq hge.symm)
  clear hge
  obtain ⟨⟨b0, b1, b2, b3, b4⟩, ⟨m0, m1, m2, m3, m4⟩, _⟩ := box5 HB.out
  by_cases hbad : CT ≠ 0 ∨ p < 0 ∨ s.size < p
  · have HR := hid (HBD.out hbad)
    rcases (show (CT != 0) = true ∨ ((CT != 0) = false ∧ p < 0) ∨ ((CT != 0) = false ∧ ¬ p < 0 ∧ (s.size : Int) < p) by
      by_cases h : CT = 0
      · have h1 : (CT != 0) = false := bne_eq_false_iff_eq.2 h
        rcases hbad with hb | hb | hb
        · exact absurd h hb
        · exact .inr (.inl ⟨h1, hb⟩)
        · exact .inr (.inr ⟨h1, by omega, hb⟩)
      · exact .inl (bne_iff_ne.2 h)) with h1 | ⟨h1, h2⟩ | ⟨h1, h2, h3⟩
    all_goals
      clear hbad
      go_wp2_with fail
      refine bodyPost_ret (ret_cell_tmp2 rfl _ _ ge 34 _ (0, 0) _ rfl (set5 HB.out) Tryz.underlying34 rfl (by kernel_rfl)) rfl ?_
      rw [HR.out]
      refine ⟨_, rfl, EventV.none_ _, ?_⟩
      repeat (first | (with_reducible exact HX.out) | (with_reducible refine Ext.setCell ?_ HG.out _))
  · have HR := hid (HPL.out hbad)
    have h1 : (CT != 0) = false := bne_eq_false_iff_eq.2 (by omega)
    have h2 : ¬ p < 0 := by omega
    have h3 : ¬ (s.size : Int) < p := by omega
    have hts := HTS.out ⟨by omega, by omega⟩
    have kt := kt w1 HX.out (by omega) (by omega)
    unfold SaysE at kt
    obtain ⟨⟨em, eo, eq, en, V⟩, m, f⟩ := X
    dsimp only at *
    clear hbad HPL HBD HTS b0 b1 b2 b3 b4 m0 m1 m2 m3 m4
    go_wp2_with fail
    refine kt.mono ?_
    rintro e2 w2 ⟨v, rfl, ⟨r, rfl, hva⟩, hx⟩
    replace HB := hid (hx.block HB.out)
    replace HX := hid (HX.out.trans hx)
    have HVA := hid hva
    obtain ⟨A3, c3, rfl, _, _, _⟩ := hva
    clear hx kt
    obtain ⟨⟨b0, b1, b2, b3, b4⟩, ⟨m0, m1, m2, m3, m4⟩, _⟩ := box5 HB.out
    by_cases hf : f = 0
    · subst hf
      have HR2 := hid (HR.out.trans (if_neg (fun h => h rfl)))
      have HVA3 := hid (vals_kept HVA.out HB.out (noByte_event 0 0 0 ⟨#[]⟩ none 0 0) (but5 w2 ge (.int .i64 em) (.int .i64 eo) (.int .i64 eq) (.string en) (.slice A3 V.length c3)))
      have HX3 := hid (ext5 HX.out HG.out (.int .i64 em) (.int .i64 eo) (.int .i64 eq) (.string en) (.slice A3 V.length c3))
      have HB3 := hid (set5 HB.out (a := .int .i64 em) (b := .int .i64 eo) (c := .int .i64 eq) (d := .string en) (e := .slice A3 V.length c3))
      have kk := kk _ ⟨em, eo, eq, en, V⟩ (.slice A3 V.length c3) HX3.out HVA3.out hts.1 hts.2
      generalize checkE T ⟨em, eo, eq, en, V⟩ = CE at *
      unfold evv at kk
      dsimp only at kk
      go_wp2_with fail
      obtain ⟨w3, hw3⟩ : ∃ w3, w3 = (((((w2.setCell ⟨ge, 0, none⟩ (.int .i64 em)).setCell ⟨ge, 1, none⟩ (.int .i64 eo)).setCell ⟨ge, 2, none⟩ (.int .i64 eq)).setCell ⟨ge, 3, none⟩ (.string en)).setCell ⟨ge, 4, none⟩ (.slice A3 V.length c3)) := ⟨_, rfl⟩
      rw [← hw3] at HVA3 HX3 HB3 kk ⊢
      clear hw3 b0 b1 b2 b3 b4 m0 m1 m2 m3 m4 HB HX HVA
      refine kk.mono ?_
      rintro e4 w4 ⟨rfl, hx⟩
      have HB4 := hid (hx.block HB3.out)
      have HX4 := hid (HX3.out.trans hx)
      have HVA4 := hid (HVA3.out.ext hx)
      clear hx kk
      obtain ⟨⟨b0, b1, b2, b3, b4⟩, ⟨m0, m1, m2, m3, m4⟩, _⟩ := box5 HB4.out
      by_cases hce : CE = 0
      · have HR3 := hid (HR2.out.trans (if_neg (fun h => h hce)))
        subst hce
        go_wp2_with fail
        refine bodyPost_ret (ret_cell_tmp2 rfl _ _ ge 34 _ (0, 0) _ rfl (set5 HB4.out) Tryz.underlying34 rfl (by kernel_rfl)) rfl ?_
        rw [HR3.out]
        refine ⟨_, rfl, ⟨_, rfl, ?_⟩, ext5 HX4.out HG.out _ _ _ _ _⟩
        exact vals_kept HVA4.out HB4.out (noByte_event em eo eq en A3 V.length c3) (but5 w4 ge _ _ _ _ _)
      · have HR3 := hid (HR2.out.trans (if_pos hce))
        have hceb : (CE != 0) = true := bne_iff_ne.2 hce
        clear hce
        go_wp2_with fail
        refine bodyPost_ret (ret_cell_tmp2 rfl _ _ ge 34 _ (0, 0) _ rfl (set5 HB4.out) Tryz.underlying34 rfl (by kernel_rfl)) rfl ?_
        rw [HR3.out]
        exact ⟨_, rfl, EventV.none_ _, ext5 HX4.out HG.out _ _ _ _ _⟩
    · have HR2 := hid (HR.out.trans (if_pos hf))
      have hfb : (f != 0) = true := bne_iff_ne.2 hf
      have hfb2 : (f == 0) = false := beq_eq_false_iff_ne.2 hf
      clear hf
      go_wp2_with fail
      refine bodyPost_ret (ret_cell_tmp2 rfl _ _ ge 34 _ (0, 0) _ rfl (set5 (set5 HB.out)) Tryz.underlying34 rfl (by kernel_rfl)) rfl ?_
      rw [HR2.out]
      exact ⟨_, rfl, EventV.none_ _, ext5 (ext5 HX.out HG.out _ _ _ _ _) HG.out _ _ _ _ _⟩
end Go.Proofs.YtnldgmpfinlikaaGreat

/- The landed program's ID, Less, Check, Value, Same, Sorted, Sort, Put and Take of events, by their contracts. Conditions: small types, small events. -/
namespace Go.Proofs.YtnldgmpfinlikaaGreat
open Go Go.RowKit

theorem echeck_any (T : List TZ) (e : EZ) (tv r : Value) (w : World) (hT : TypesAt w tv T) (hv : ValsAt w r e.v) (hsm : TypesSmall T) (hes : EvSmall e) (hok : EventOk e) : Calls Tryz.prog 14 #[tv, evv e r] w (Says w (.int .i64 (checkE T e))) := echeckp_any T e tv r w hT hv hsm hes.1 hok.2.2.2.2
theorem evalue_any (T : List TZ) (e : EZ) (field : ByteArray) (tv r : Value) (w : World) (hT : TypesAt w tv T) (hv : ValsAt w r e.v) (hsm : TypesSmall T) (hes : EvSmall e) (_hok : EventOk e) (_hf : field.size ≤ 40) : Calls Tryz.prog 12 #[evv e r, tv, .string field] w (SaysVal w (valueE T e field)) := evaluep_any T e field tv r w hT hv hsm hes.1
theorem eput_any (T : List TZ) (e : EZ) (tv r : Value) (A : Option Addr) (l : List UInt8) (c : Nat) (w : World) (hT : TypesAt w tv T) (hv : ValsAt w r e.v) (hsm : TypesSmall T) (hes : EvSmall e) (hok : EventOk e) (hl : Lies w A (bvs l)) (_hlc : l.length ≤ c) (hlen : l.length ≤ 1048576) :
    Calls Tryz.prog 10 #[.slice A l.length c, tv, evv e r] w (Told2 w (putE l T e)) := eputp_any T e tv r A l c w hT hv hsm hes.1 hok.2.2.2.2 hl hlen
end Go.Proofs.YtnldgmpfinlikaaGreat

