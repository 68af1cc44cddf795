/- The document's Find, At, Fits of types, by their contracts. Conditions: numbers within their kinds. -/
import Derived.Test.YtggafdimbddflaaSR2
import Derived.Test.YtggafdimbddflaaVR1
import Derived.BigQuiet
namespace Go.Proofs.Ytggafdimbddflaa
open Go Go.RowKit

/-- a type is told, and whether -/
def SaysTy (w : World) (t : TZ × Bool) (e : Ending) (w' : World) : Prop := ∃ v, e = .returned (.tuple #[v, .bool t.2]) ∧ TypeV w' v t.1 ∧ Ext w w'
theorem set2 {x : World} {g : Nat} {u0 u1 a b : Value} {t : TypeId} (h : x.heap[g]? = some (.cells #[u0, u1] t (0, 0))) :
    ((x.setCell ⟨g, 0, none⟩ a).setCell ⟨g, 1, none⟩ b).heap[g]? = some (.cells #[a, b] t (0, 0)) := by
  have h1 := heap_setCell_same x g 0 _ t a h
  have h2 := heap_setCell_same _ g 1 _ t b h1
  simpa using h2
theorem box2 {w1 : World} {g : Nat} {a b : Value} {t : TypeId} (h : w1.heap[g]? = some (.cells #[a, b] t (0, 0))) :
    (w1.cell? ⟨g, 0, none⟩ = some a ∧ w1.cell? ⟨g, 1, none⟩ = some b) ∧ (w1.frozen? ⟨g, 0, none⟩ = false ∧ w1.frozen? ⟨g, 1, none⟩ = false) ∧ g < w1.heap.size :=
  ⟨⟨cell_of_row _ _ 0 _ _ _ h, cell_of_row _ _ 1 _ _ _ h⟩, ⟨frozen_of_row _ _ 0 _ _ h, frozen_of_row _ _ 1 _ _ h⟩, (Array.getElem?_eq_some_iff.1 h).1⟩

theorem find_at {name : ByteArray} {L : List TZ} {i : Nat} (h : i < L.length) : findZ name (L.drop i) = if L[i].n = name then (L[i], true) else findZ name (L.drop (i + 1)) := by
  rw [List.drop_eq_getElem_cons h]
  rfl

set_option maxRecDepth 100000 in
set_option maxHeartbeats 4000000 in
theorem rfinds_any (L : List TZ) (v : Value) (name : ByteArray) (w : World) (hv : TypesAt w v L) : Calls Try.prog 11 #[v, .string name] w (SaysTy w (findZ name L)) := by
  have HO := hid (show findZ name L = findZ name (L.drop 0) from rfl)
  generalize findZ name L = R at *
  have HV := hid hv
  obtain ⟨A, c, rfl, q1, q2, _⟩ := hv
  have hml : (L.length : Int) ≤ 9223372036854775807 := by unfold maxLen at q2; omega
  go_enter Try.func11, Try.ntmps11
  go_wp2_with fail
  have HB := hid (heap_alloc_new w (Obj.cells #[.string noText, .slice none 0 0] 35 (0, 0)))
  have HX := hid (Ext.alloc w (Obj.cells #[.string noText, .slice none 0 0] 35 (0, 0)))
  obtain ⟨⟨b0, b1⟩, ⟨m0, m1⟩, z0⟩ := box2 HB.out
  go_loopw [6] (fun x wr => ∃ i : Nat, i ≤ L.length ∧ x = .int .i64 (i : Int) ∧ Hid (R = findZ name (L.drop i)) ∧ wr = w.alloc (Obj.cells #[.string noText, .slice none 0 0] 35 (0, 0)))
    (fun x _ => L.length - (intOf x).toNat)
  case atStart => exact ⟨0, by omega, rfl, hid HO.out, rfl⟩
  case round =>
    obtain ⟨i, hi, rfl, ho, rfl⟩ := hrel
    by_cases hlt : i < L.length
    · obtain ⟨g, o, c', r, e1, _, _, d0', d1', hfr⟩ := HV.out.open_ hlt
      have d0 := HX.out.cell d0'
      have d1 := HX.out.cell d1'
      obtain ⟨rfl, rfl⟩ : A = some ⟨g, o, none⟩ ∧ c = c' := by simpa using e1
      have HAT := hid (find_at (name := name) hlt)
      have HF := hid hfr
      generalize hT : L[i] = T at *
      obtain ⟨N, F⟩ := T
      dsimp only at *
      obtain ⟨A2, c2, rfl, _, _, _⟩ := hfr
      clear e1 hT d0' d1'
      by_cases he : N = name
      · subst he
        have HR := hid (ho.out.trans (HAT.out.trans (if_pos rfl)))
        go_wp2_with fail
        refine bodyPost_ret (ret_cell_tmp rfl _ _ w.heap.size 35 _ (0, 0) _ rfl (heap_alloc_new w _) Try.underlying35 rfl (by kernel_rfl)) rfl ?_
        rw [HR.out]
        exact ⟨_, rfl, ⟨_, rfl, HF.out.ext (Ext.alloc _ _)⟩, Ext.alloc _ _⟩
      · have HR := hid (ho.out.trans (HAT.out.trans (if_neg he)))
        have hb : (N.toList == name.toList) = false := beq_eq_false_iff_ne.2 (fun e => he ((list_ba N name).1 e))
        go_wp2_with fail
        go_roundw
        case rel => exact ⟨i + 1, by omega, by go_num, HR, trivial⟩
        case measure => simp only [intOf]; omega
    · have hi' : i = L.length := by omega
      subst hi'
      go_wp2_with fail
      refine bodyPost_ret (ret_cell_tmp rfl _ _ w.heap.size 35 _ (0, 0) _ rfl HB.out Try.underlying35 rfl (by kernel_rfl)) rfl ?_
      rw [ho.out, List.drop_length]
      exact ⟨_, rfl, ⟨_, rfl, FieldsAt.nil _⟩, Ext.alloc _ _⟩

/-- a place and a kind are told -/
def SaysAt (w : World) (t : Int × Nat) (e : Ending) (w' : World) : Prop := e = .returned (.tuple #[.int .i64 t.1, .int .u8 (t.2 : Int)]) ∧ Ext w w'
theorem SaysAt.mk {w w' : World} {t : Int × Nat} {x : Int} {k : Nat} (h : t = (x, k)) (hx : Ext w w') : SaysAt w t (.returned (.tuple #[.int .i64 x, .int .u8 (k : Int)])) w' := by
  subst h
  exact ⟨rfl, hx⟩
theorem at_at {name : ByteArray} {F : List FZ} {i : Nat} (h : i < F.length) : atZ name i (F.drop i) = if F[i].n = name then ((i : Int), F[i].k) else atZ name (i + 1) (F.drop (i + 1)) := by
  rw [List.drop_eq_getElem_cons h]
  rfl

set_option maxRecDepth 100000 in
set_option maxHeartbeats 4000000 in
theorem rats_any (t : TZ) (r : Value) (name : ByteArray) (w : World) (hf : FieldsAt w r t.f) : Calls Try.prog 20 #[.agg #[.string t.n, r], .string name] w (SaysAt w (atZ name 0 t.f)) := by
  obtain ⟨nm, F⟩ := t
  dsimp only at *
  have HO := hid (show atZ name 0 F = atZ name 0 (F.drop 0) from rfl)
  generalize atZ name 0 F = R at *
  have HF := hid hf
  obtain ⟨A, c, rfl, q1, q2, _⟩ := hf
  have hml : (F.length : Int) ≤ 9223372036854775807 := by unfold maxLen at q2; omega
  go_enter Try.func20, Try.ntmps20
  go_wp2_with fail
  have HB := hid (heap_alloc_new w (Obj.cells #[.string nm, .slice A F.length c] 35 (0, 0)))
  have HX := hid (Ext.alloc w (Obj.cells #[.string nm, .slice A F.length c] 35 (0, 0)))
  obtain ⟨⟨b0, b1⟩, ⟨m0, m1⟩, z0⟩ := box2 HB.out
  go_loopw [6] (fun x wr => ∃ i : Nat, i ≤ F.length ∧ x = .int .i64 (i : Int) ∧ Hid (R = atZ name i (F.drop i)) ∧ wr = w.alloc (Obj.cells #[.string nm, .slice A F.length c] 35 (0, 0)))
    (fun x _ => F.length - (intOf x).toNat)
  case atStart => exact ⟨0, by omega, rfl, hid HO.out, rfl⟩
  case round =>
    obtain ⟨i, hi, rfl, ho, rfl⟩ := hrel
    by_cases hlt : i < F.length
    · obtain ⟨g, o, c', e1, _, _, d0, d1⟩ := (HF.out.ext HX.out).open_ hlt
      obtain ⟨rfl, rfl⟩ : A = some ⟨g, o, none⟩ ∧ c = c' := by simpa using e1
      have HAT := hid (at_at (name := name) hlt)
      generalize hT : F[i] = T at *
      obtain ⟨N, K⟩ := T
      dsimp only at *
      clear e1 hT
      by_cases he : N = name
      · subst he
        have HR := hid (ho.out.trans (HAT.out.trans (if_pos rfl)))
        go_wp2_with fail
        go_quiet (fail)
        go_wp2_with fail
        go_ret2
        exact SaysAt.mk HR.out (HX.out.trans (Ext.drewN _ _))
      · have HR := hid (ho.out.trans (HAT.out.trans (if_neg he)))
        have hb : (N.toList == name.toList) = false := beq_eq_false_iff_ne.2 (fun e => he ((list_ba N name).1 e))
        go_wp2_with fail
        go_roundw
        case rel => exact ⟨i + 1, by omega, by go_num, HR, trivial⟩
        case measure => simp only [intOf]; omega
    · have hi' : i = F.length := by omega
      subst hi'
      go_wp2_with fail
      go_ret2
      exact SaysAt.mk (k := 0) (by rw [ho.out, List.drop_length]; rfl) HX.out

/-- values lie behind this slice -/
def ValsAt (w : World) (v : Value) (V : List VZ) : Prop :=
  ∃ A c, v = .slice A V.length c ∧ V.length ≤ c ∧ c ≤ maxLen ∧
    ∀ i (h : i < V.length), ∃ g o, A = some ⟨g, o, none⟩ ∧ w.cell? ⟨g, o + i * 4, none⟩ = some (.int .u8 (V[i].k : Int)) ∧ w.cell? ⟨g, o + i * 4 + 1, none⟩ = some (.int .i64 V[i].n) ∧
      w.cell? ⟨g, o + i * 4 + 2, none⟩ = some (.int .u64 (V[i].b : Int)) ∧ w.cell? ⟨g, o + i * 4 + 3, none⟩ = some (.string V[i].t)
theorem ValsAt.ext {w w' : World} {v : Value} {V : List VZ} (h : ValsAt w v V) (e : Ext w w') : ValsAt w' v V := by
  obtain ⟨A, c, rfl, h1, h2, h3⟩ := h
  refine ⟨A, c, rfl, h1, h2, fun i hi => ?_⟩
  obtain ⟨g, o, rfl, q1, q2, q3, q4⟩ := h3 i hi
  exact ⟨g, o, rfl, e.cell q1, e.cell q2, e.cell q3, e.cell q4⟩
theorem ValsAt.open_ {w : World} {v : Value} {V : List VZ} (h : ValsAt w v V) {i : Nat} (hi : i < V.length) :
    ∃ g o c, v = .slice (some ⟨g, o, none⟩) V.length c ∧ w.cell? ⟨g, o + i * 4, none⟩ = some (.int .u8 (V[i].k : Int)) ∧ w.cell? ⟨g, o + i * 4 + 1, none⟩ = some (.int .i64 V[i].n) ∧
      w.cell? ⟨g, o + i * 4 + 2, none⟩ = some (.int .u64 (V[i].b : Int)) ∧ w.cell? ⟨g, o + i * 4 + 3, none⟩ = some (.string V[i].t) := by
  obtain ⟨A, c, rfl, h1, h2, h3⟩ := h
  obtain ⟨g, o, rfl, q1, q2, q3, q4⟩ := h3 i hi
  exact ⟨g, o, c, rfl, q1, q2, q3, q4⟩
def ValOk (v : VZ) : Prop := v.k ≤ 255 ∧ -9223372036854775808 ≤ v.n ∧ v.n ≤ 9223372036854775807 ∧ v.b ≤ 18446744073709551615 ∧ v.t.size ≤ 9223372036854775807
def ValsOk (V : List VZ) : Prop := ∀ v ∈ V, ValOk v
theorem fit_at {F : List FZ} {V : List VZ} {i : Nat} (h : i < F.length) (hv : i < V.length) : fitZ (F.drop i) (V.drop i) =
    if checkV V[i].k V[i].n V[i].b V[i].t ≠ 0 then checkV V[i].k V[i].n V[i].b V[i].t else if V[i].k ≠ F[i].k then 19 else fitZ (F.drop (i + 1)) (V.drop (i + 1)) := by
  rw [List.drop_eq_getElem_cons h, List.drop_eq_getElem_cons hv]
  rfl

end Go.Proofs.Ytggafdimbddflaa
