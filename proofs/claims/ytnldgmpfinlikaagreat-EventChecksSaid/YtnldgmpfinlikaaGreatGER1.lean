/- Several texts in one: ER1, ER4, ER5, ER6. Conditions: those of each. -/
import Derived.BigQuiet
import Derived.Test.YtnldgmpfinlikaaGreatGSMem2
import Derived.Test.YtnldgmpfinlikaaGreatGSR1
import Derived.Test.YtnldgmpfinlikaaGreatBase
import Derived.Test.YtnldgmpfinlikaaGreatGZR1
/- The document's Less, Check, Value of events, by their contracts. Conditions: numbers within their kinds. -/
namespace Go.Proofs.YtnldgmpfinlikaaGreat
open Go Go.RowKit

theorem box5 {w1 : World} {g : Nat} {a b c d e : Value} {t : TypeId} (h : w1.heap[g]? = some (.cells #[a, b, c, d, e] t (0, 0))) :
    (w1.cell? ⟨g, 0, none⟩ = some a ∧ w1.cell? ⟨g, 1, none⟩ = some b ∧ w1.cell? ⟨g, 2, none⟩ = some c ∧ w1.cell? ⟨g, 3, none⟩ = some d ∧ w1.cell? ⟨g, 4, none⟩ = some e) ∧
    (w1.frozen? ⟨g, 0, none⟩ = false ∧ w1.frozen? ⟨g, 1, none⟩ = false ∧ w1.frozen? ⟨g, 2, none⟩ = false ∧ w1.frozen? ⟨g, 3, none⟩ = false ∧ w1.frozen? ⟨g, 4, none⟩ = false) ∧ g < w1.heap.size :=
  ⟨⟨cell_of_row _ _ 0 _ _ _ h, cell_of_row _ _ 1 _ _ _ h, cell_of_row _ _ 2 _ _ _ h, cell_of_row _ _ 3 _ _ _ h, cell_of_row _ _ 4 _ _ _ h⟩,
   ⟨frozen_of_row _ _ 0 _ _ h, frozen_of_row _ _ 1 _ _ h, frozen_of_row _ _ 2 _ _ h, frozen_of_row _ _ 3 _ _ h, frozen_of_row _ _ 4 _ _ h⟩, (Array.getElem?_eq_some_iff.1 h).1⟩
/-- an event's value -/
def evv (e : EZ) (r : Value) : Value := .agg #[.int .i64 e.m, .int .i64 e.o, .int .i64 e.q, .string e.n, r]
set_option maxRecDepth 100000 in
set_option maxHeartbeats 4000000 in
theorem rcheck7_any (T : List TZ) (e : EZ) (tv r : Value) (w : World) (hT : TypesAt w tv T) (hv : ValsAt w r e.v) (hok : TypesOk T) (hvo : ValsOk e.v) : Calls Tryz.prog 15 #[tv, evv e r] w (Says w (.int .i64 (checkE T e))) := by
  have kc := fun W (h : Ext w W) => rchecks_any T tv W (hT.ext h) hok
  have kf := fun W (h : Ext w W) => rfinds_any T tv e.n W (hT.ext h)
  have kfi := fun W s (h : Ext w W) (hf : FieldsAt W s (findZ e.n T).1.f) => rfits6_any (findZ e.n T).1 e.v s r W hf (hv.ext h) hvo
  have ho : checkE T e = if checkZ T ≠ 0 then 2 else if decide (boundE e) = true then 8 else if (findZ e.n T).2 = false then 6 else fitsZ (findZ e.n T).1.f e.v := by simp only [decide_eq_true_iff]; rfl
  have hbd : decide (boundE e) = true ↔ (e.m < 0 ∨ 1099511627776 < e.m ∨ e.o < 0 ∨ 16 ≤ e.o ∨ e.q < 0 ∨ 1099511627776 < e.q) := decide_eq_true_iff
  generalize checkE T e = R at *
  generalize decide (boundE e) = BD at *
  unfold SaysTy at kf
  generalize findZ e.n T = FT at *
  obtain ⟨ft, fb⟩ := FT
  dsimp only at *
  generalize fitsZ ft.f e.v = FI at *
  obtain ⟨em, eo, eq, en, ev⟩ := e
  obtain ⟨A, c, rfl, _, _, _⟩ := hv
  dsimp only at *
  show Calls _ _ #[tv, .agg #[.int .i64 em, .int .i64 eo, .int .i64 eq, .string en, .slice A ev.length c]] _ _
  have HX := hid (Ext.alloc w (Obj.cells #[.int .i64 em, .int .i64 eo, .int .i64 eq, .string en, .slice A ev.length c] 25 (0, 0)))
  have HB := hid (heap_alloc_new w (Obj.cells #[.int .i64 em, .int .i64 eo, .int .i64 eq, .string en, .slice A ev.length c] 25 (0, 0)))
  have HO := hid ho
  have HBD := hid hbd
  obtain ⟨AT, cT, rfl, _, _, _⟩ := hT
  clear ho hbd
  generalize checkZ T = CT at *
  go_enter Tryz.func15, Tryz.ntmps15
  go_wp2_with fail
  refine (kc _ HX.out).mono ?_
  rintro e1 w1 ⟨rfl, hx⟩
  replace HB := hid (hx.block HB.out)
  replace HX := hid (HX.out.trans hx)
  clear hx kc
  obtain ⟨⟨b0, b1, b2, b3, b4⟩, _, _⟩ := box5 HB.out
  by_cases hz : CT = 0
  · have HR1 := hid (HO.out.trans (if_neg (fun h => h hz)))
    subst hz
    by_cases hb : BD = true
    · have HR := hid (HR1.out.trans (if_pos hb))
      have hw := HBD.out.1 hb
      clear hb
      rcases (show em < 0 ∨ (0 ≤ em ∧ 1099511627776 < em) ∨ (0 ≤ em ∧ em ≤ 1099511627776 ∧ eo < 0) ∨ (0 ≤ em ∧ em ≤ 1099511627776 ∧ 0 ≤ eo ∧ 16 ≤ eo) ∨ (0 ≤ em ∧ em ≤ 1099511627776 ∧ 0 ≤ eo ∧ eo < 16 ∧ eq < 0) ∨ (0 ≤ em ∧ em ≤ 1099511627776 ∧ 0 ≤ eo ∧ eo < 16 ∧ 0 ≤ eq ∧ 1099511627776 < eq) by omega) with h1 | ⟨h1, h2⟩ | ⟨h1, h2, h3⟩ | ⟨h1, h2, h3, h4⟩ | ⟨h1, h2, h3, h4, h5⟩ | ⟨h1, h2, h3, h4, h5, h6⟩
      all_goals
        clear hw
        go_wp2_with fail
        go_ret
        exact ⟨by rw [HR.out]; rfl, HX.out⟩
    · have HR2 := hid (HR1.out.trans (if_neg hb))
      have hw : 0 ≤ em ∧ em ≤ 1099511627776 ∧ 0 ≤ eo ∧ eo < 16 ∧ 0 ≤ eq ∧ eq ≤ 1099511627776 := by
        refine Classical.byContradiction fun hn => hb (HBD.out.2 ?_)
        omega
      obtain ⟨h1, h2, h3, h4, h5, h6⟩ := hw
      clear hb
      have h1' : ¬ em < 0 := by omega
      have h2' : ¬ 1099511627776 < em := by omega
      have h3' : ¬ eo < 0 := by omega
      have h4' : ¬ 16 ≤ eo := by omega
      have h5' : ¬ eq < 0 := by omega
      have h6' : ¬ 1099511627776 < eq := by omega
      go_wp2_with fail
      refine (kf _ HX.out).mono ?_
      rintro e2 w2 ⟨v2, rfl, ⟨r2, rfl, hf2⟩, hx⟩
      replace HB := hid (hx.block HB.out)
      replace HX := hid (HX.out.trans hx)
      obtain ⟨A2, c2, hr2, _, _, _⟩ := id hf2
      subst hr2
      have hx2 := Ext.alloc w2 (Obj.cells #[.string ft.n, .slice A2 ft.f.length c2] 62 (0, 0))
      have HB2 := hid (heap_alloc_new w2 (Obj.cells #[.string ft.n, .slice A2 ft.f.length c2] 62 (0, 0)))
      have kfi := kfi _ _ (HX.out.trans hx2) (hf2.ext hx2)
      replace HB := hid (hx2.block HB.out)
      replace HX := hid (HX.out.trans hx2)
      clear hx hx2 kf b0 b1 b2 b3 b4
      obtain ⟨⟨b0, b1, b2, b3, b4⟩, _, _⟩ := box5 HB.out
      obtain ⟨⟨t0, t1⟩, _, _⟩ := box2 HB2.out
      cases fb
      · have HR := hid (HR2.out.trans (if_pos rfl))
        go_wp2_with fail
        go_ret
        exact ⟨by rw [HR.out]; rfl, HX.out⟩
      · have HR := hid (HR2.out.trans (if_neg (by decide)))
        go_wp2_with (go_at_call 42; refine kfi.mono ?_; rintro e3 w3 ⟨rfl, hx⟩)
        go_ret
        exact ⟨by rw [HR.out]; rfl, HX.out.trans hx⟩
  · have HR := hid (HO.out.trans (if_pos hz))
    have hq : (CT != 0) = true := bne_iff_ne.2 hz
    clear hz
    go_wp2_with fail
    go_ret
    exact ⟨by rw [HR.out]; rfl, HX.out⟩
end Go.Proofs.YtnldgmpfinlikaaGreat

/- The document's Sorted of events, by its contract. Conditions: numbers within their kinds. (Written by tools/mker3.py.) -/
namespace Go.Proofs.YtnldgmpfinlikaaGreat
open Go Go.RowKit

theorem iwrap (n : Int) (h0 : 0 ≤ n) (h : n ≤ 9223372036854775807) : IntKind.i64.wrap n = n := by rw [IntKind.wrap_i64]; omega
theorem sortedE_at {L : List EZ} {j : Nat} (h : j + 1 < L.length) : sortedE (L.drop j) = (lessE L[j] L[j + 1] && sortedE (L.drop (j + 1))) := by
  rw [List.drop_eq_getElem_cons (show j < L.length by omega), List.drop_eq_getElem_cons h]
  rfl
theorem sortedE_end {L : List EZ} {j : Nat} (h : L.length ≤ j + 1) : sortedE (L.drop j) = true := by
  have hl : (L.drop j).length ≤ 1 := by rw [List.length_drop]; omega
  match L.drop j, hl with
  | [], _ => rfl
  | [a], _ => rfl
end Go.Proofs.YtnldgmpfinlikaaGreat

/- The document's place and Value of events, by their contracts. Conditions: numbers within their kinds. (Written by tools/mker3.py.) -/
namespace Go.Proofs.YtnldgmpfinlikaaGreat
open Go Go.RowKit

set_option maxHeartbeats 2000000 in
set_option maxRecDepth 100000 in
theorem rplace7_any (T : List TZ) (v : Value) (name : ByteArray) (w : World) (hv : TypesAt w v T) : Calls Tryz.prog 32 #[v, .string name] w (Says w (.int .i64 (if placeE name T < T.length then (placeE name T : Int) else -1))) := by
  have HO := hid (show (if placeE name T < T.length then (placeE name T : Int) else -1) = if placeE name (T.drop 0) + 0 < T.length then ((placeE name (T.drop 0) + 0 : Nat) : Int) else -1 from rfl)
  generalize (if placeE name T < T.length then (placeE name T : Int) else -1) = R at *
  have HV := hid hv
  obtain ⟨A, c, rfl, q1, q2, _⟩ := hv
  have hml : (T.length : Int) ≤ 9223372036854775807 := by unfold maxLen at q2; omega
  go_enter Tryz.func32, Tryz.ntmps32
  go_wp2_with fail
  go_loopw [5] (fun x wr => ∃ i : Nat, i ≤ T.length ∧ x = .int .i64 (i : Int) ∧ Hid (R = if placeE name (T.drop i) + i < T.length then ((placeE name (T.drop i) + i : Nat) : Int) else -1) ∧ wr = w)
    (fun x _ => T.length - (intOf x).toNat)
  case atStart => exact ⟨0, by omega, rfl, hid HO.out, rfl⟩
  case round =>
    obtain ⟨i, hi, rfl, ho, rfl⟩ := hrel
    by_cases hlt : i < T.length
    · obtain ⟨g, o, c', r, e1, _, _, d0, d1, hfr⟩ := HV.out.open_ hlt
      obtain ⟨rfl, rfl⟩ : A = some ⟨g, o, none⟩ ∧ c = c' := by simpa using e1
      have hst : placeE name (T.drop i) = if T[i].n = name then 0 else placeE name (T.drop (i + 1)) + 1 := by rw [List.drop_eq_getElem_cons hlt]; rfl
      generalize hT : T[i] = t at *
      obtain ⟨N, F⟩ := t
      dsimp only at *
      clear e1 hT hfr
      by_cases he : N = name
      · have hb : (N.toList == name.toList) = true := beq_iff_eq.2 (by rw [he])
        have HR := hid (show R = (i : Int) by rw [ho.out, hst, if_pos he, Nat.zero_add, if_pos hlt])
        clear he
        go_wp2_with fail
        go_ret
        exact ⟨by rw [HR.out]; rfl, Ext.refl _⟩
      · have hb : (N.toList == name.toList) = false := beq_eq_false_iff_ne.2 (fun e => he ((list_ba N name).1 e))
        have HR := hid (show R = if placeE name (T.drop (i + 1)) + (i + 1) < T.length then ((placeE name (T.drop (i + 1)) + (i + 1) : Nat) : Int) else -1 by
          rw [ho.out, hst, if_neg he, show placeE name (T.drop (i + 1)) + 1 + i = placeE name (T.drop (i + 1)) + (i + 1) by omega])
        clear he
        go_wp2_with fail
        go_roundw
        case rel => exact ⟨i + 1, by omega, by go_num, HR, trivial⟩
        case measure => simp only [intOf]; omega
    · have hi' : i = T.length := by omega
      subst hi'
      have HR := hid (show R = -1 by rw [ho.out, List.drop_length]; show (if 0 + T.length < T.length then _ else (-1 : Int)) = -1; rw [if_neg (by omega)])
      go_wp2_with fail
      go_ret
      exact ⟨by rw [HR.out]; rfl, Ext.refl _⟩

/-- a value is told, and whether -/
def SaysVal (w : World) (t : VZ × Bool) (e : Ending) (w' : World) : Prop := e = .returned (.tuple #[t.1.v, .bool t.2]) ∧ Ext w w'
set_option maxRecDepth 100000 in
set_option maxHeartbeats 4000000 in
theorem rvalue7_any (T : List TZ) (e : EZ) (field : ByteArray) (tv r : Value) (w : World) (hT : TypesAt w tv T) (hv : ValsAt w r e.v) : Calls Tryz.prog 13 #[tv, evv e r, .string field] w (SaysVal w (valueE T e field)) := by
  have kf := fun W (h : Ext w W) => rfinds_any T tv e.n W (hT.ext h)
  have ka := fun W s (hf : FieldsAt W s (findZ e.n T).1.f) => rats_any (findZ e.n T).1 s field W hf
  have ho : valueE T e field = if (atZ field 0 (findZ e.n T).1.f).1 < 0 ∨ (e.v.length : Int) ≤ (atZ field 0 (findZ e.n T).1.f).1 then (VZ.none, false) else (e.v.getD (atZ field 0 (findZ e.n T).1.f).1.toNat VZ.none, true) := rfl
  generalize valueE T e field = R at *
  unfold SaysTy at kf
  unfold SaysAt at ka
  generalize findZ e.n T = FT at *
  obtain ⟨ft, fb⟩ := FT
  dsimp only at *
  generalize atZ field 0 ft.f = AT at *
  obtain ⟨at1, ak⟩ := AT
  obtain ⟨em, eo, eq, en, V⟩ := e
  dsimp only at *
  have HV := hid hv
  obtain ⟨A, c, rfl, _, q1, _⟩ := hv
  have hml : (V.length : Int) ≤ 9223372036854775807 := by unfold maxLen at q1; omega
  obtain ⟨A2, c2, rfl, _, _, _⟩ := hT
  show Calls _ _ #[_, .agg #[.int .i64 em, .int .i64 eo, .int .i64 eq, .string en, .slice A V.length c], _] _ _
  have HO := hid ho
  clear ho
  have HX := hid ((Ext.alloc w (Obj.cells #[.int .i64 em, .int .i64 eo, .int .i64 eq, .string en, .slice A V.length c] 25 (0, 0))).then_alloc (Obj.cells #[.int .u8 0, .int .i64 0, .int .u64 0, .string noText] 47 (0, 0)))
  have HB2 := hid (heap_alloc2_new w (Obj.cells #[.int .i64 em, .int .i64 eo, .int .i64 eq, .string en, .slice A V.length c] 25 (0, 0)) (Obj.cells #[.int .u8 0, .int .i64 0, .int .u64 0, .string noText] 47 (0, 0)))
  have HB1 := hid (heap_alloc2_old w (Obj.cells #[.int .i64 em, .int .i64 eo, .int .i64 eq, .string en, .slice A V.length c] 25 (0, 0)) (Obj.cells #[.int .u8 0, .int .i64 0, .int .u64 0, .string noText] 47 (0, 0)))
  obtain ⟨⟨b0, b1, b2, b3, b4⟩, _, _⟩ := box5 HB1.out
  go_enter Tryz.func13, Tryz.ntmps13
  go_wp2_with fail
  refine (kf _ HX.out).mono ?_
  rintro e2 w2 ⟨v2, rfl, ⟨r2, rfl, hf2⟩, hx⟩
  have hxa := hx.then_alloc (Obj.cells #[.string ft.n, r2] 62 (0, 0))
  have HBT := hid (heap_alloc_new w2 (Obj.cells #[.string ft.n, r2] 62 (0, 0)))
  replace HB1 := hid (hxa.block HB1.out)
  replace HB2 := hid (hxa.block HB2.out)
  replace HX := hid (HX.out.trans hxa)
  have hf3 := hf2.ext (Ext.alloc w2 (Obj.cells #[.string ft.n, r2] 62 (0, 0)))
  obtain ⟨A4, c4, hr2, _, _, _⟩ := id hf2
  subst hr2
  have ka := ka _ _ hf3
  obtain ⟨⟨t0, t1⟩, _, _⟩ := box2 HBT.out
  clear hx hxa kf b0 b1 b2 b3 b4 hf2 hf3
  go_wp2_with fail
  refine ka.mono ?_
  rintro e3 w3 ⟨rfl, hx⟩
  replace HB1 := hid (hx.block HB1.out)
  replace HB2 := hid (hx.block HB2.out)
  replace HX := hid (HX.out.trans hx)
  clear hx ka t0 t1
  obtain ⟨⟨b0, b1, b2, b3, b4⟩, _, _⟩ := box5 HB1.out
  obtain ⟨⟨y0, y1, y2, y3⟩, ⟨m0, m1, m2, m3⟩, _⟩ := box4 HB2.out
  by_cases hbad : at1 < 0 ∨ (V.length : Int) ≤ at1
  · have HR := hid (HO.out.trans (if_pos hbad))
    rcases (show at1 < 0 ∨ (0 ≤ at1 ∧ (V.length : Int) ≤ at1) by omega) with h1 | ⟨h1, h2⟩
    all_goals
      clear hbad
      go_wp2_with fail
      refine bodyPost_ret (ret_cell_tmp rfl _ _ (w.heap.size + 1) 47 _ (0, 0) _ rfl (set4 HB2.out) Tryz.underlying47 rfl (by kernel_rfl)) rfl ?_
      refine ⟨by rw [HR.out]; rfl, ?_⟩
      repeat (first | (with_reducible exact HX.out) | (with_reducible refine Ext.setCell ?_ (by simp) _))
  · have HR := hid (HO.out.trans (if_neg hbad))
    have h1 : 0 ≤ at1 := by omega
    have h2 : at1 < (V.length : Int) := by omega
    clear hbad
    obtain ⟨i, rfl⟩ : ∃ i : Nat, at1 = (i : Int) := ⟨at1.toNat, by omega⟩
    have hi : i < V.length := by omega
    have h1' : ¬ (i : Int) < 0 := by omega
    have h2' : ¬ (V.length : Int) ≤ (i : Int) := by omega
    obtain ⟨g, o, c', e1, v0, v1, v2, v3⟩ := (HV.out.ext HX.out).open_ hi
    obtain ⟨rfl, rfl⟩ : A = some ⟨g, o, none⟩ ∧ c = c' := by simpa using e1
    have hget : V.getD i VZ.none = V[i] := by rw [List.getD_eq_getElem?_getD, List.getElem?_eq_getElem hi]; rfl
    rw [Int.toNat_natCast, hget] at HR
    generalize hT : V[i] = x at *
    obtain ⟨xk, xn, xb, xt⟩ := x
    dsimp only at *
    clear e1 hT hget
    go_wp2_with fail
    refine bodyPost_ret (ret_cell_tmp rfl _ _ (w.heap.size + 1) 47 _ (0, 0) _ rfl (set4 HB2.out) Tryz.underlying47 rfl (by kernel_rfl)) rfl ?_
    refine ⟨by rw [HR.out]; rfl, ?_⟩
    repeat (first | (with_reducible exact HX.out) | (with_reducible refine Ext.setCell ?_ (by simp) _))
end Go.Proofs.YtnldgmpfinlikaaGreat

/- The document's Into and Sort of events, by their contracts. Conditions: few events. (Written by tools/mker6.py.) -/
namespace Go.Proofs.YtnldgmpfinlikaaGreat
open Go Go.RowKit

def Hold9 (p : Prop) : Prop := p
theorem hold9 {p : Prop} (h : Hold9 p) : p := h
theorem RowsAt.take {w : World} {R : List Value} {L : List EZ} (h : RowsAt w R L) (k : Nat) : RowsAt w (R.take k) (L.take k) := by
  refine ⟨by rw [List.length_take, List.length_take, h.1], fun i h1 h2 => ?_⟩
  rw [List.getElem_take, List.getElem_take]
  rw [List.length_take] at h1
  exact h.2 i (by omega) (by rw [h.1]; omega)
theorem RowsAt.drop {w : World} {R : List Value} {L : List EZ} (h : RowsAt w R L) (k : Nat) : RowsAt w (R.drop k) (L.drop k) := by
  refine ⟨by rw [List.length_drop, List.length_drop, h.1], fun i h1 h2 => ?_⟩
  rw [List.getElem_drop, List.getElem_drop]
  rw [List.length_drop] at h1
  exact h.2 (k + i) (by omega) (by rw [h.1]; omega)
theorem ValsAt.one {w : World} {r : Value} {V : List VZ} (h : ValsAt w r V) : r.oneCell' = true := by
  obtain ⟨A, c, rfl, _⟩ := h
  rfl
theorem RowsAt.one {w : World} {R : List Value} {L : List EZ} (h : RowsAt w R L) : ∀ r ∈ R, r.oneCell' = true := by
  intro r hr
  obtain ⟨i, hi, rfl⟩ := List.getElem_of_mem hr
  exact (h.2 i (by rw [← h.1]; exact hi) hi).one
end Go.Proofs.YtnldgmpfinlikaaGreat

