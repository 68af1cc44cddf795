/- The document's Find, At, Fits of types, by their contracts. Conditions: numbers within their kinds. -/
import Derived.Test.YtggafdimbddflaaSR2
import Derived.Test.YtggafdimbddflaaVR1
import Derived.BigQuiet
namespace Go.Proofs.Ytggafdimbddflaa
open Go Go.RowKit

/-- a type is told, and whether -/
def SaysTy (w : World) (t : TZ × Bool) (e : Ending) (w' : World) : Prop := ∃ v, e = .returned (.tuple #[v, .bool t.2]) ∧ TypeV w' v t.1 ∧ Ext w w'
theorem set2 {x : World} {g : Nat} {u0 u1 a b : Value} {t : TypeId} (h : x.heap[g]? = some (.cells #[u0, u1] t (0, 0))) :
    ((x.setCell ⟨g, 0, none⟩ a).setCell ⟨g, 1, none⟩ b).heap[g]? = some (.cells #[a, b] t (0, 0)) := by
  have h1 := heap_setCell_same x g 0 _ t a h
  have h2 := heap_setCell_same _ g 1 _ t b h1
  simpa using h2
theorem box2 {w1 : World} {g : Nat} {a b : Value} {t : TypeId} (h : w1.heap[g]? = some (.cells #[a, b] t (0, 0))) :
    (w1.cell? ⟨g, 0, none⟩ = some a ∧ w1.cell? ⟨g, 1, none⟩ = some b) ∧ (w1.frozen? ⟨g, 0, none⟩ = false ∧ w1.frozen? ⟨g, 1, none⟩ = false) ∧ g < w1.heap.size :=
  ⟨⟨cell_of_row _ _ 0 _ _ _ h, cell_of_row _ _ 1 _ _ _ h⟩, ⟨frozen_of_row _ _ 0 _ _ h, frozen_of_row _ _ 1 _ _ h⟩, (Array.getElem?_eq_some_iff.1 h).1⟩

/-- a place and a kind are told -/
def SaysAt (w : World) (t : Int × Nat) (e : Ending) (w' : World) : Prop := e = .returned (.tuple #[.int .i64 t.1, .int .u8 (t.2 : Int)]) ∧ Ext w w'
theorem SaysAt.mk {w w' : World} {t : Int × Nat} {x : Int} {k : Nat} (h : t = (x, k)) (hx : Ext w w') : SaysAt w t (.returned (.tuple #[.int .i64 x, .int .u8 (k : Int)])) w' := by
  subst h
  exact ⟨rfl, hx⟩
theorem at_at {name : ByteArray} {F : List FZ} {i : Nat} (h : i < F.length) : atZ name i (F.drop i) = if F[i].n = name then ((i : Int), F[i].k) else atZ name (i + 1) (F.drop (i + 1)) := by
  rw [List.drop_eq_getElem_cons h]
  rfl

/-- values lie behind this slice -/
def ValsAt (w : World) (v : Value) (V : List VZ) : Prop :=
  ∃ A c, v = .slice A V.length c ∧ V.length ≤ c ∧ c ≤ maxLen ∧
    ∀ i (h : i < V.length), ∃ g o, A = some ⟨g, o, none⟩ ∧ w.cell? ⟨g, o + i * 4, none⟩ = some (.int .u8 (V[i].k : Int)) ∧ w.cell? ⟨g, o + i * 4 + 1, none⟩ = some (.int .i64 V[i].n) ∧
      w.cell? ⟨g, o + i * 4 + 2, none⟩ = some (.int .u64 (V[i].b : Int)) ∧ w.cell? ⟨g, o + i * 4 + 3, none⟩ = some (.string V[i].t)
theorem ValsAt.ext {w w' : World} {v : Value} {V : List VZ} (h : ValsAt w v V) (e : Ext w w') : ValsAt w' v V := by
  obtain ⟨A, c, rfl, h1, h2, h3⟩ := h
  refine ⟨A, c, rfl, h1, h2, fun i hi => ?_⟩
  obtain ⟨g, o, rfl, q1, q2, q3, q4⟩ := h3 i hi
  exact ⟨g, o, rfl, e.cell q1, e.cell q2, e.cell q3, e.cell q4⟩
theorem ValsAt.open_ {w : World} {v : Value} {V : List VZ} (h : ValsAt w v V) {i : Nat} (hi : i < V.length) :
    ∃ g o c, v = .slice (some ⟨g, o, none⟩) V.length c ∧ w.cell? ⟨g, o + i * 4, none⟩ = some (.int .u8 (V[i].k : Int)) ∧ w.cell? ⟨g, o + i * 4 + 1, none⟩ = some (.int .i64 V[i].n) ∧
      w.cell? ⟨g, o + i * 4 + 2, none⟩ = some (.int .u64 (V[i].b : Int)) ∧ w.cell? ⟨g, o + i * 4 + 3, none⟩ = some (.string V[i].t) := by
  obtain ⟨A, c, rfl, h1, h2, h3⟩ := h
  obtain ⟨g, o, rfl, q1, q2, q3, q4⟩ := h3 i hi
  exact ⟨g, o, c, rfl, q1, q2, q3, q4⟩
def ValOk (v : VZ) : Prop := v.k ≤ 255 ∧ -9223372036854775808 ≤ v.n ∧ v.n ≤ 9223372036854775807 ∧ v.b ≤ 18446744073709551615 ∧ v.t.size ≤ 9223372036854775807
def ValsOk (V : List VZ) : Prop := ∀ v ∈ V, ValOk v
theorem fit_at {F : List FZ} {V : List VZ} {i : Nat} (h : i < F.length) (hv : i < V.length) : fitZ (F.drop i) (V.drop i) =
    if checkV V[i].k V[i].n V[i].b V[i].t ≠ 0 then checkV V[i].k V[i].n V[i].b V[i].t else if V[i].k ≠ F[i].k then 19 else fitZ (F.drop (i + 1)) (V.drop (i + 1)) := by
  rw [List.drop_eq_getElem_cons h, List.drop_eq_getElem_cons hv]
  rfl

set_option maxRecDepth 100000 in
set_option maxHeartbeats 4000000 in
theorem rfits6_any (t : TZ) (V : List VZ) (r v : Value) (w : World) (hf : FieldsAt w r t.f) (hv : ValsAt w v V) (hok : ValsOk V) : Calls Try.prog 28 #[.agg #[.string t.n, r], v] w (Says w (.int .i64 (fitsZ t.f V))) := by
  obtain ⟨nm, F⟩ := t
  dsimp only at *
  have ho : fitsZ F V = if V.length ≠ F.length then 5 else fitZ F V := rfl
  generalize fitsZ F V = R at *
  have HF := hid hf
  have HV := hid hv
  obtain ⟨A, c, rfl, q1, q2, _⟩ := hf
  obtain ⟨A2, c2, rfl, q3, q4, _⟩ := hv
  have hml : (F.length : Int) ≤ 9223372036854775807 := by unfold maxLen at q2; omega
  have hml2 : (V.length : Int) ≤ 9223372036854775807 := by unfold maxLen at q4; omega
  by_cases hl : V.length = F.length
  · rw [if_neg (fun h => h hl)] at ho
    have HO := hid ho
    have hl' : ((V.length : Int) != (F.length : Int)) = false := bne_eq_false_iff_eq.2 (by omega)
    have HL := hid hl
    clear ho hl
    go_enter Try.func28, Try.ntmps28
    go_wp2_with fail
    have HB := hid (heap_alloc_new w (Obj.cells #[.string nm, .slice A F.length c] 35 (0, 0)))
    have HX := hid (Ext.alloc w (Obj.cells #[.string nm, .slice A F.length c] 35 (0, 0)))
    obtain ⟨⟨b0, b1⟩, _, _⟩ := box2 HB.out
    go_loopw [5] (fun x wr => ∃ i : Nat, i ≤ V.length ∧ x = .int .i64 (i : Int) ∧ Hid (R = fitZ (F.drop i) (V.drop i)) ∧ Ext (w.alloc (Obj.cells #[.string nm, .slice A F.length c] 35 (0, 0))) wr)
      (fun x _ => V.length - (intOf x).toNat)
    case atStart => exact ⟨0, by omega, rfl, hid HO.out, Ext.refl _⟩
    case round =>
      obtain ⟨i, hi, rfl, ho, hext⟩ := hrel
      have HE := hid hext
      clear hext
      have b1' : wr.cell? ⟨w.heap.size, 1, none⟩ = some (.slice A F.length c) := HE.out.cell b1
      by_cases hlt : i < V.length
      · have hltF : i < F.length := by have := HL.out; omega
        obtain ⟨g, o, c', e1, v0, v1, v2, v3⟩ := ((HV.out.ext HX.out).ext HE.out).open_ hlt
        obtain ⟨rfl, rfl⟩ : A2 = some ⟨g, o, none⟩ ∧ c2 = c' := by simpa using e1
        obtain ⟨g2, o2, c'', e2, _, _, d0, d1⟩ := ((HF.out.ext HX.out).ext HE.out).open_ hltF
        obtain ⟨rfl, rfl⟩ : A = some ⟨g2, o2, none⟩ ∧ c = c'' := by simpa using e2
        have HAT := hid (fit_at hltF hlt)
        have kc := fun W => rcheck_any V[i].k V[i].n V[i].b V[i].t W (hok _ (List.getElem_mem hlt)).2.2.2.1
        generalize hT : V[i] = T at *
        generalize hU : F[i] = U at *
        obtain ⟨k, n, b, tx⟩ := T
        obtain ⟨N, K⟩ := U
        dsimp only at *
        generalize checkV k n b tx = Q at *
        replace kc : ∀ W, Calls Try.prog 47 #[.agg #[.int .u8 (k : Int), .int .i64 n, .int .u64 (b : Int), .string tx]] W (Says W (.int .i64 Q)) := kc
        clear e1 e2 hT hU
        go_wp2_with fail
        refine (kc _).mono ?_
        rintro e w2 ⟨rfl, hx⟩
        have v0' : w2.cell? ⟨g, o + i * 4, none⟩ = some (.int .u8 (k : Int)) := hx.cell v0
        have d1' : w2.cell? ⟨g2, o2 + i * 2 + 1, none⟩ = some (.int .u8 (K : Int)) := hx.cell d1
        have b1'' : w2.cell? ⟨w.heap.size, 1, none⟩ = some (.slice (some ⟨g2, o2, none⟩) F.length c) := hx.cell b1'
        replace HE := hid (HE.out.trans hx)
        clear hx kc v0 v1 v2 v3 d0 d1 b1'
        by_cases hQ : Q = 0
        · subst hQ
          have HR := hid (ho.out.trans (HAT.out.trans (if_neg (fun h => h rfl))))
          by_cases hkk : k = K
          · have hkb : ((k : Int) != (K : Int)) = false := bne_eq_false_iff_eq.2 (by omega)
            have HR2 := hid (HR.out.trans (if_neg (fun h => h hkk)))
            clear hkk
            go_wp2_with fail
            go_quiet (fail)
            go_wp2_with fail
            go_roundw
            case rel => exact ⟨i + 1, by omega, by go_num, HR2, HE.out.trans (Ext.drewN _ _)⟩
            case measure => simp only [intOf]; omega
          · have hkb : ((k : Int) != (K : Int)) = true := bne_iff_ne.2 (by omega)
            have HR2 := hid (HR.out.trans (if_pos hkk))
            clear hkk
            go_wp2_with fail
            go_quiet (fail)
            go_wp2_with fail
            go_ret
            exact ⟨by rw [HR2.out]; rfl, (HX.out.trans HE.out).trans (Ext.drewN _ _)⟩
        · have HR := hid (ho.out.trans (HAT.out.trans (if_pos hQ)))
          have hq : (Q != 0) = true := bne_iff_ne.2 hQ
          clear hQ
          go_wp2_with fail
          go_ret
          exact ⟨by rw [HR.out]; rfl, HX.out.trans HE.out⟩
      · have hi' : i = V.length := by omega
        subst hi'
        go_wp2_with fail
        go_ret
        exact ⟨by rw [ho.out, List.drop_length, HL.out, List.drop_length]; rfl, HX.out.trans HE.out⟩
  · rw [if_pos hl] at ho
    subst ho
    have hl' : ((V.length : Int) != (F.length : Int)) = true := bne_iff_ne.2 (by omega)
    clear hl
    go_enter Try.func28, Try.ntmps28
    go_wp2_with fail
    go_ret
    exact ⟨rfl, Ext.alloc _ _⟩
end Go.Proofs.Ytggafdimbddflaa
