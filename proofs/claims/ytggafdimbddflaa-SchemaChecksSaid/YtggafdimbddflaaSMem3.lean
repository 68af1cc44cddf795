/- Rows of types that a call has built: each type's fields lie in a block of their own. Conditions: none. -/
import Derived.Test.YtggafdimbddflaaSMem2
import Derived.Test.YtggafdimbddflaaBase
namespace Go.Proofs.Ytggafdimbddflaa
open Go Go.RowKit

/-- the cells of types in a row, their fields lying behind these slices -/
def tcells (L : List TZ) (R : List Value) : List Value := (L.zip R).flatMap fun p => [.string p.1.n, p.2]
theorem tcells_append (L M : List TZ) (R S : List Value) (h : R.length = L.length) : tcells (L ++ M) (R ++ S) = tcells L R ++ tcells M S := by
  unfold tcells
  rw [List.zip_append h.symm, List.flatMap_append]
theorem tcells_at : ∀ {L : List TZ} {R : List Value} {i : Nat} (h : R.length = L.length) (hi : i < L.length), (tcells L R)[i * 2]? = some (.string L[i].n) ∧ (tcells L R)[i * 2 + 1]? = some (R[i]'(by omega))
  | [], _, _, _, hi => absurd hi (Nat.not_lt_zero _)
  | _ :: _, [], _, h, _ => by cases h
  | t :: L, r :: R, 0, _, _ => ⟨rfl, rfl⟩
  | t :: L, r :: R, i + 1, h, hi => by
    have ih := tcells_at (L := L) (R := R) (i := i) (Nat.succ.inj h) (Nat.lt_of_succ_lt_succ hi)
    have e : (tcells (t :: L) (r :: R)) = .string t.n :: r :: tcells L R := rfl
    rw [e]
    constructor
    · rw [show (i + 1) * 2 = i * 2 + 1 + 1 by omega, List.getElem?_cons_succ, List.getElem?_cons_succ, ih.1]
      rfl
    · rw [show (i + 1) * 2 + 1 = i * 2 + 1 + 1 + 1 by omega, List.getElem?_cons_succ, List.getElem?_cons_succ, ih.2]
      rfl

/-- a slice of fields is none of this block's -/
def Apart (r : Value) (F : List FZ) (v : Value) : Prop := F ≠ [] → ∀ g o n c, r = .slice (some ⟨g, o, none⟩) n c → v.ownBlock ≠ some g
/-- types that a call has built -/
def Built (w : World) (base : Nat) (e : TypeId) (v : Value) (L : List TZ) : Prop :=
  ∃ R : List Value, R.length = L.length ∧ w.ownsRow base e 2 v L.length (tcells L R) ∧ ∀ i (h : i < L.length) (hr : i < R.length), FieldsAt w R[i] L[i].f ∧ Apart R[i] L[i].f v

theorem Built.nil (w : World) (base : Nat) (e : TypeId) : Built w base e (.slice none 0 0) [] := ⟨[], rfl, World.ownsRow_nil _ _ _ _, fun _ h => absurd h (Nat.not_lt_zero _)⟩
theorem Built.types {w : World} {base : Nat} {e : TypeId} {v : Value} {L : List TZ} (h : Built w base e v L) : TypesAt w v L := by
  obtain ⟨R, hl, hown, hR⟩ := h
  obtain ⟨A, c, rfl, h1, h2, h3⟩ := own_form hown
  refine ⟨A, c, rfl, h1, h2, fun i hi => ?_⟩
  obtain ⟨q1, q2⟩ := tcells_at hl hi
  obtain ⟨g, hA, c1⟩ := h3 _ _ q1
  obtain ⟨g', hA', c2⟩ := h3 _ _ q2
  subst hA
  cases hA'
  exact ⟨g, 0, _, rfl, c1, c2, (hR i hi (by omega)).1⟩
/-- behind what only makes new blocks, it is as it was -/
theorem Built.ext {w w' : World} {base : Nat} {e : TypeId} {v : Value} {L : List TZ} (h : Built w base e v L) (hx : Ext w w') : Built w' base e v L := by
  obtain ⟨R, hl, hown, hR⟩ := h
  refine ⟨R, hl, own_later hown hx, fun i h1 h2 => ?_⟩
  obtain ⟨q1, q2⟩ := hR i h1 h2
  exact ⟨q1.ext hx, q2⟩
/-- fields that lie apart from a row are kept where that row has grown -/
theorem FieldsAt.grown {w w' : World} {row : Option Nat} {r : Value} {F : List FZ} (h : FieldsAt w r F) (hg : w.grownBy w' row) (ha : F ≠ [] → ∀ g o n c, r = .slice (some ⟨g, o, none⟩) n c → row ≠ some g) : FieldsAt w' r F := by
  obtain ⟨A, c, rfl, h1, h2, h3⟩ := h
  refine ⟨A, c, rfl, h1, h2, fun i hi => ?_⟩
  obtain ⟨g, o, rfl, q1, q2⟩ := h3 i hi
  have hne : some g ≠ row := fun e => ha (by rintro rfl; exact absurd hi (Nat.not_lt_zero _)) g o _ _ rfl e.symm
  exact ⟨g, o, rfl, hg.cell q1 hne, hg.cell q2 hne⟩
theorem FieldsAt.lt {w : World} {F : List FZ} {g o n c : Nat} (h : FieldsAt w (.slice (some ⟨g, o, none⟩) n c) F) (hF : F ≠ []) : g < w.heap.size := by
  obtain ⟨A, c, e, h1, h2, h3⟩ := h
  obtain ⟨g', o', hA, q1, _⟩ := h3 0 (List.length_pos_iff.2 hF)
  cases e
  cases hA
  exact World.block_lt_of_cell? w _ q1

/-- one type more -/
theorem Built.more {w w1 w2 : World} {base : Nat} {e : TypeId} {v v' : Value} {L : List TZ} {R : List Value} {t : TZ} {r : Value}
    (hl : R.length = L.length) (hRR : ∀ i (h : i < L.length) (hr : i < R.length), FieldsAt w R[i] L[i].f ∧ Apart R[i] L[i].f v) (hr : FieldsAt w r t.f) (ha : Apart r t.f v) (hx : Ext w w1) (hg : w1.grownBy w2 v.ownBlock)
    (hb : v.ownBlock = v'.ownBlock ∨ v'.ownBlock = some w1.heap.size)
    (h2 : w2.ownsRow base e 2 v' (L.length + 1) (tcells L R ++ [.string t.n, r])) :
    Built w2 base e v' (L ++ [t]) := by
  refine ⟨R ++ [r], by simp [hl], ?_, fun i h1 h3 => ?_⟩
  · rw [tcells_append _ _ _ _ hl]
    have : (L ++ [t]).length = L.length + 1 := by simp
    rw [this]
    exact h2
  · have key : ∀ (r' : Value) (F : List FZ), FieldsAt w r' F → Apart r' F v → FieldsAt w2 r' F ∧ Apart r' F v' := by
      intro r' F hf hap
      refine ⟨(hf.ext hx).grown hg (fun hF g o n c e => hap hF g o n c e), fun hF g o n c e => ?_⟩
      subst e
      have hlt := (hf.ext hx).lt hF
      rcases hb with hb | hb
      · rw [← hb]; exact hap hF g o n c rfl
      · rw [hb]
        intro e
        have := Option.some.inj e
        omega
    by_cases hi : i < L.length
    · rw [List.getElem_append_left (by omega), List.getElem_append_left hi]
      exact key _ _ (hRR i hi (by omega)).1 (hRR i hi (by omega)).2
    · have : i = L.length := by simp at h1; omega
      subst this
      rw [List.getElem_append_right (by omega), List.getElem_append_right (by omega)]
      simp only [hl, Nat.sub_self, List.getElem_cons_zero]
      exact key _ _ hr ha
/-- a block that stood is kept where a row has grown that lies behind it -/
theorem grown_block {w W w1 : World} {base S : Nat} {o : Obj} {row : Option Nat} (hx : Ext w W) (hg : W.grownBy w1 row) (hr : ∀ k, row = some k → base ≤ k) (hb : w.heap[S]? = some o) (hS : S < base) : w1.heap[S]? = some o := by
  have hW := hx.block hb
  have hlt : S < W.heap.size := (Array.getElem?_eq_some_iff.1 hW).1
  exact (hg.block S hlt (fun e => by have := hr S e.symm; omega)).trans hW
theorem own_block_lt {w : World} {base : Nat} {e : TypeId} {size n : Nat} {v : Value} {xs : List Value} (h : w.ownsRow base e size v n xs) : ∀ k, v.ownBlock = some k → k < w.heap.size := fun k hk => by
  rcases h.2 with ⟨rfl, _⟩ | ⟨g, cap, cur, rfl, _, hg, _⟩
  · cases hk
  · cases hk
    exact (Array.getElem?_eq_some_iff.1 hg).1
/-- fields that were built behind a block lie apart from a row ahead of it -/
theorem apart_own {w : World} {S : Nat} {e : TypeId} {r v : Value} {n : Nat} {F : List FZ} {xs : List Value} (h : w.ownsRow (S + 1) e 2 r n xs) (hv : ∀ k, v.ownBlock = some k → k < S) : Apart r F v := by
  intro _ g o n' c e he
  subst e
  have h1 := hv g he
  rcases h.2 with ⟨h2, _⟩ | ⟨g', cap, cur, h2, h3, _⟩
  · cases h2
  · cases h2
    omega
end Go.Proofs.Ytggafdimbddflaa
