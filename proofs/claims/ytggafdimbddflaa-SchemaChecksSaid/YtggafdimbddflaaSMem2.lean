/- Rows of fields, of types, of values that a call has built. Conditions: none. -/
import Derived.Test.YtggafdimbddflaaSR6
import Derived.Deep.AppendLies
namespace Go.Proofs.Ytggafdimbddflaa
open Go Go.RowKit

/-- the cells of fields, of types, of values in a row -/
def fcells (F : List FZ) : List Value := F.flatMap fun f => [.string f.n, .int .u8 (f.k : Int)]
def vcells (V : List VZ) : List Value := V.flatMap fun v => [.int .u8 (v.k : Int), .int .i64 v.n, .int .u64 (v.b : Int), .string v.t]
theorem fcells_len (F : List FZ) : (fcells F).length = F.length * 2 := by
  induction F with
  | nil => rfl
  | cons f r ih =>
    show ([_, _] ++ fcells r).length = _
    rw [List.length_append, ih, List.length_cons]
    simp only [List.length_cons, List.length_nil]
    omega
theorem vcells_len (V : List VZ) : (vcells V).length = V.length * 4 := by
  induction V with
  | nil => rfl
  | cons f r ih =>
    show ([_, _, _, _] ++ vcells r).length = _
    rw [List.length_append, ih, List.length_cons]
    simp only [List.length_cons, List.length_nil]
    omega
theorem fcells_append (F G : List FZ) : fcells (F ++ G) = fcells F ++ fcells G := List.flatMap_append
theorem vcells_append (F G : List VZ) : vcells (F ++ G) = vcells F ++ vcells G := List.flatMap_append
theorem fcells_at {F : List FZ} {i : Nat} (h : i < F.length) : (fcells F)[i * 2]? = some (.string F[i].n) ∧ (fcells F)[i * 2 + 1]? = some (.int .u8 (F[i].k : Int)) := by
  have e : F = F.take i ++ F[i] :: F.drop (i + 1) := by rw [← List.drop_eq_getElem_cons h, List.take_append_drop]
  have hl : (fcells (F.take i)).length = i * 2 := by rw [fcells_len, List.length_take, Nat.min_eq_left (by omega)]
  have e2 : fcells F = fcells (F.take i) ++ (.string F[i].n :: .int .u8 (F[i].k : Int) :: fcells (F.drop (i + 1))) := by
    conv => lhs; rw [e, fcells_append]
    rfl
  constructor
  · rw [e2, List.getElem?_append_right (by omega), hl, Nat.sub_self]; rfl
  · rw [e2, List.getElem?_append_right (by omega), hl, show i * 2 + 1 - i * 2 = 1 by omega]; rfl
theorem vcells_at {V : List VZ} {i : Nat} (h : i < V.length) : (vcells V)[i * 4]? = some (.int .u8 (V[i].k : Int)) ∧ (vcells V)[i * 4 + 1]? = some (.int .i64 V[i].n) ∧ (vcells V)[i * 4 + 2]? = some (.int .u64 (V[i].b : Int)) ∧ (vcells V)[i * 4 + 3]? = some (.string V[i].t) := by
  have e : V = V.take i ++ V[i] :: V.drop (i + 1) := by rw [← List.drop_eq_getElem_cons h, List.take_append_drop]
  have hl : (vcells (V.take i)).length = i * 4 := by rw [vcells_len, List.length_take, Nat.min_eq_left (by omega)]
  have e2 : vcells V = vcells (V.take i) ++ (.int .u8 (V[i].k : Int) :: .int .i64 V[i].n :: .int .u64 (V[i].b : Int) :: .string V[i].t :: vcells (V.drop (i + 1))) := by
    conv => lhs; rw [e, vcells_append]
    rfl
  refine ⟨?_, ?_, ?_, ?_⟩
  · rw [e2, List.getElem?_append_right (by omega), hl, Nat.sub_self]; rfl
  · rw [e2, List.getElem?_append_right (by omega), hl, show i * 4 + 1 - i * 4 = 1 by omega]; rfl
  · rw [e2, List.getElem?_append_right (by omega), hl, show i * 4 + 2 - i * 4 = 2 by omega]; rfl
  · rw [e2, List.getElem?_append_right (by omega), hl, show i * 4 + 3 - i * 4 = 3 by omega]; rfl

/-- what a row that is owned looks like -/
theorem own_form {w : World} {base : Nat} {e : TypeId} {size n : Nat} {v : Value} {xs : List Value} (h : w.ownsRow base e size v n xs) :
    ∃ A c, v = .slice A n c ∧ n ≤ c ∧ c ≤ maxLen ∧ ∀ j u, xs[j]? = some u → ∃ g, A = some ⟨g, 0, none⟩ ∧ w.cell? ⟨g, 0 + j, none⟩ = some u := by
  obtain ⟨A, c, rfl, h1, h2, h3⟩ := own_shape h
  refine ⟨A, c, rfl, h1, h2, fun j u hu => ?_⟩
  obtain ⟨g, o, hA, hc⟩ := h3.open_at (k := j) (List.getElem?_eq_some_iff.1 hu).1
  rcases h.2 with ⟨hv, hn⟩ | ⟨g', cap, cur, hv, _⟩
  · cases hv; cases hA
  · cases hv
    cases hA
    refine ⟨_, rfl, ?_⟩
    rw [hc]
    have := (List.getElem?_eq_some_iff.1 hu).2
    rw [this]
theorem FieldsAt.of_own {w : World} {base : Nat} {e : TypeId} {v : Value} {F : List FZ} (h : w.ownsRow base e 2 v F.length (fcells F)) : FieldsAt w v F := by
  obtain ⟨A, c, rfl, h1, h2, h3⟩ := own_form h
  refine ⟨A, c, rfl, h1, h2, fun i hi => ?_⟩
  obtain ⟨q1, q2⟩ := fcells_at hi
  obtain ⟨g, hA, c1⟩ := h3 _ _ q1
  obtain ⟨g', hA', c2⟩ := h3 _ _ q2
  subst hA
  cases hA'
  exact ⟨g, 0, rfl, c1, c2⟩
theorem ValsAt.of_own {w : World} {base : Nat} {e : TypeId} {v : Value} {V : List VZ} (h : w.ownsRow base e 4 v V.length (vcells V)) : ValsAt w v V := by
  obtain ⟨A, c, rfl, h1, h2, h3⟩ := own_form h
  refine ⟨A, c, rfl, h1, h2, fun i hi => ?_⟩
  obtain ⟨q1, q2, q3, q4⟩ := vcells_at hi
  obtain ⟨g, hA, c1⟩ := h3 _ _ q1
  obtain ⟨g', hA', c2⟩ := h3 _ _ q2
  obtain ⟨g3, hA3, c3⟩ := h3 _ _ q3
  obtain ⟨g4, hA4, c4⟩ := h3 _ _ q4
  subst hA
  cases hA'
  cases hA3
  cases hA4
  exact ⟨g, 0, rfl, c1, c2, c3, c4⟩
end Go.Proofs.Ytggafdimbddflaa
