/- Several texts in one: EP5, EP7. Conditions: those of each. -/
import Derived.Lib.LazyBuf
import Derived.WalkMore
import Derived.Test.YtnldgmpfinlikaaGEP1
import Derived.Test.YtnldgmpfinlikaaER6
import Derived.Test.YtnldgmpfinlikaaBase
import Derived.Test.YtnldgmpfinlikaaGELaw1
/- The landed program's way to sort events: the closure, the insertion sort, by their contracts. Conditions: few events. (Written by tools/mkep5.py.) -/
namespace Go.Proofs.Ytnldgmpfinlikaa
open Go Go.RowKit

/-- what the slots of the region hold -/
def eclsG (_ga _gb : Nat) (a b : EZ) (ra rb : Value) : Nat → Value → World → Prop
  | 0, v, _ => v = evv a ra
  | 1, v, _ => v = idv a
  | 2, v, _ => v = evv b rb
  | 3, v, _ => v = idv b
  | 4, v, _ => v = .int .i64 (ordE a b)
  | 5, v, _ => v = .int .i64 (ordE a b)
  | _, _, _ => True
theorem eclsG_st (ga gb : Nat) (a b : EZ) (ra rb : Value) : ∀ i9 z9 x9 y9, eclsG ga gb a b ra rb i9 z9 x9 → Ext x9 y9 → eclsG ga gb a b ra rb i9 z9 y9 := by
  intro i9 z9 x9 y9 h e
  unfold eclsG at *
  split at h <;> first | exact h | trivial

set_option maxRecDepth 100000 in
set_option maxHeartbeats 2000000 in
theorem ecls_any (a b : EZ) (ra rb : Value) (w : World) : Calls Try.prog 30 #[evv a ra, evv b rb] w (Says w (.int .i64 (ordE a b))) := by
  show Calls _ _ #[.agg #[.int .i64 a.m, .int .i64 a.o, .int .i64 a.q, .string a.n, ra], .agg #[.int .i64 b.m, .int .i64 b.o, .int .i64 b.q, .string b.n, rb]] _ _
  obtain ⟨W2, hW2⟩ : ∃ W2, W2 = (w.alloc (Obj.cells #[.int .i64 a.m, .int .i64 a.o, .int .i64 a.q, .string a.n, ra] 37 (0, 0))).alloc (Obj.cells #[.int .i64 b.m, .int .i64 b.o, .int .i64 b.q, .string b.n, rb] 37 (0, 0)) := ⟨_, rfl⟩
  have HX := hid (show Ext w W2 by rw [hW2]; exact (Ext.alloc _ _).then_alloc _)
  have HA := hid (show W2.heap[w.heap.size]? = some (Obj.cells #[.int .i64 a.m, .int .i64 a.o, .int .i64 a.q, .string a.n, ra] 37 (0, 0)) by rw [hW2]; exact heap_alloc2_old w _ _)
  have HB := hid (show W2.heap[w.heap.size + 1]? = some (Obj.cells #[.int .i64 b.m, .int .i64 b.o, .int .i64 b.q, .string b.n, rb] 37 (0, 0)) by rw [hW2]; exact heap_alloc2_new w _ _)
  obtain ⟨⟨p0, p1, p2, p3, p4⟩, _, _⟩ := box5 HA.out
  obtain ⟨⟨q0, q1, q2, q3, q4⟩, _, _⟩ := box5 HB.out
  go_enter Try.func30, Try.ntmps30
  go_wp2_with fail
  rw [← hW2]
  clear hW2
  obtain ⟨ga, hga⟩ : ∃ g, g = w.heap.size := ⟨_, rfl⟩
  rw [← hga] at p0 p1 p2 p3 p4 q0 q1 q2 q3 q4 ⊢
  obtain ⟨gb, hgb⟩ : ∃ g, g = ga + 1 := ⟨_, rfl⟩
  rw [← hgb] at q0 q1 q2 q3 q4 ⊢
  clear hga hgb HA HB
  refine wp_region_slots Ext (eclsG ga gb a b ra rb) (by kernel_rfl) Ext.trans Ext.refl (Ext.drew _) (eclsG_st _ _ _ _ _ _) (by kernel_rfl) ?_ ?_
  · intro tmps wr hle hfr j o9 ho hty
    have h2 : tmps[2]?.getD undef = .pointer (some ⟨ga, 0, none⟩) := hfr 2 (by kernel_rfl)
    have h3 : tmps[3]?.getD undef = .pointer (some ⟨gb, 0, none⟩) := hfr 3 (by kernel_rfl)
    have p0 := hle.cell p0
    have p1 := hle.cell p1
    have p2 := hle.cell p2
    have p3 := hle.cell p3
    have p4 := hle.cell p4
    have q0 := hle.cell q0
    have q1 := hle.cell q1
    have q2 := hle.cell q2
    have q3 := hle.cell q3
    have q4 := hle.cell q4
    clear hfr
    match j, ho with
    | 0, ho =>
      obtain rfl := (Option.some.inj ho)
      clear hty ho
      refine step_pure (evv a ra) (wanted_free rfl) ?_ (Ext.refl _) rfl
      simp [execOp, Act.eval, h2, evv, p0, p1, p2, p3, p4, go_sem]
    | 1, ho =>
      have h5 : tmps[5]?.getD undef = evv a ra := hty 0 5 rfl (by obtain rfl := (Option.some.inj ho); rfl)
      obtain rfl := (Option.some.inj ho)
      clear hty ho
      refine step_call 14 #[evv a ra] (wanted_free rfl) ?_ ?_
      · simp [execOp, Act.eval, h5, go_sem]
      · exact (eid_any a ra _).mono fun e w' ⟨h1, h2⟩ => ⟨_, h1, h2, rfl⟩
    | 2, ho =>
      obtain rfl := (Option.some.inj ho)
      clear hty ho
      refine step_pure (evv b rb) (wanted_free rfl) ?_ (Ext.refl _) rfl
      simp [execOp, Act.eval, h3, evv, q0, q1, q2, q3, q4, go_sem]
    | 3, ho =>
      have h7 : tmps[7]?.getD undef = evv b rb := hty 2 7 rfl (by obtain rfl := (Option.some.inj ho); rfl)
      obtain rfl := (Option.some.inj ho)
      clear hty ho
      refine step_call 14 #[evv b rb] (wanted_free rfl) ?_ ?_
      · simp [execOp, Act.eval, h7, go_sem]
      · exact (eid_any b rb _).mono fun e w' ⟨h1, h2⟩ => ⟨_, h1, h2, rfl⟩
    | 4, ho =>
      have h6 : tmps[6]?.getD undef = idv a := hty 1 6 rfl (by obtain rfl := (Option.some.inj ho); rfl)
      have h8 : tmps[8]?.getD undef = idv b := hty 3 8 rfl (by obtain rfl := (Option.some.inj ho); rfl)
      obtain rfl := (Option.some.inj ho)
      clear hty ho
      refine step_call 31 #[idv a, idv b] (wanted_free rfl) ?_ ?_
      · simp [execOp, Act.eval, h6, h8, go_sem]
      · exact (eorder_any a b _).mono fun e w' ⟨h1, h2⟩ => ⟨_, h1, h2, rfl⟩
    | 5, ho =>
      have h9 : tmps[9]?.getD undef = .int .i64 (ordE a b) := hty 4 9 rfl (by obtain rfl := (Option.some.inj ho); rfl)
      obtain rfl := (Option.some.inj ho)
      clear hty ho
      refine step_pure (.int .i64 (ordE a b)) (wanted_free rfl) ?_ (Ext.refl _) rfl
      simp [execOp, Act.eval, h9, go_sem]
    | (j + 6), ho => exact absurd ho (by simp)
  · intro tmps w7 hle hs hfr hty
    have h0 : tmps[4]?.getD undef = .int .i64 (ordE a b) := hty 5 4 rfl
    have hfe := frame_eq [4, 5, 6, 7, 8, 9] hs hfr (by kernel_rfl)
    rw [hfe]
    clear hfe hfr hs hty
    simp only [List.foldl_cons, List.foldl_nil]
    rw [h0]
    clear h0
    simp only [List.setIfInBounds_toArray, List.set_cons_succ, List.set_cons_zero]
    go_wp2_with fail
    go_ret
    exact ⟨rfl, HX.out.trans hle⟩

/-- the cells of events, their values lying behind these slices -/
def pcells (P : List (EZ × Value)) : List Value := P.flatMap fun x => ecell x.1 x.2
theorem pcells_append (P Q : List (EZ × Value)) : pcells (P ++ Q) = pcells P ++ pcells Q := by simp [pcells]
theorem pcells_len : ∀ P : List (EZ × Value), (pcells P).length = P.length * 5
  | [] => rfl
  | x :: r => by
    show (ecell x.1 x.2 ++ pcells r).length = (r.length + 1) * 5
    rw [List.length_append, pcells_len r]
    show 5 + r.length * 5 = _
    omega
/-- what the row holds while it is sorted -/
structure MidE (w0 : World) (g : Nat) (t : TypeId) (L : List EZ) (rest : List Value) (P : List (EZ × Value)) (w : World) : Prop where
  len : P.length = L.length
  row : w.heap[g]? = some (.cells (pcells P ++ rest).toArray t (0, 0))
  twin : ∀ k, (P.map Prod.fst).filter (twinE k) = L.filter (twinE k)
  vals : ∀ x ∈ P, ValsAt w0 x.2 x.1.v
  ext : Ext w0 w
theorem MidE.later {w0 : World} {g : Nat} {t : TypeId} {L : List EZ} {rest : List Value} {P : List (EZ × Value)} {w w' : World} (h : MidE w0 g t L rest P w) (x : Ext w w') : MidE w0 g t L rest P w' := ⟨h.len, x.block h.row, h.twin, h.vals, h.ext.trans x⟩
/-- the cells of one of them -/
theorem MidE.at_ {w0 : World} {g : Nat} {t : TypeId} {L : List EZ} {rest : List Value} {X Y : List (EZ × Value)} {x : EZ × Value} {w : World} (h : MidE w0 g t L rest (X ++ x :: Y) w) {j : Nat} (hj : X.length = j) :
    (w.cell? ⟨g, j * 5, none⟩ = some (.int .i64 x.1.m) ∧ w.cell? ⟨g, j * 5 + 1, none⟩ = some (.int .i64 x.1.o) ∧ w.cell? ⟨g, j * 5 + 2, none⟩ = some (.int .i64 x.1.q) ∧ w.cell? ⟨g, j * 5 + 3, none⟩ = some (.string x.1.n) ∧ w.cell? ⟨g, j * 5 + 4, none⟩ = some x.2) ∧
    (w.frozen? ⟨g, j * 5, none⟩ = false ∧ w.frozen? ⟨g, j * 5 + 1, none⟩ = false ∧ w.frozen? ⟨g, j * 5 + 2, none⟩ = false ∧ w.frozen? ⟨g, j * 5 + 3, none⟩ = false ∧ w.frozen? ⟨g, j * 5 + 4, none⟩ = false) := by
  have hc : ∀ k u, (ecell x.1 x.2)[k]? = some u → w.cell? ⟨g, j * 5 + k, none⟩ = some u := by
    intro k u hu
    rw [cell_of_row w g (j * 5 + k) _ _ _ h.row, List.getElem?_toArray, pcells_append, List.append_assoc, List.getElem?_append_right (by rw [pcells_len]; omega), pcells_len, hj]
    show (ecell x.1 x.2 ++ pcells Y ++ rest)[j * 5 + k - j * 5]? = some u
    rw [Nat.add_sub_cancel_left, List.append_assoc, List.getElem?_append_left (List.getElem?_eq_some_iff.1 hu).1, hu]
  exact ⟨⟨hc 0 _ rfl, hc 1 _ rfl, hc 2 _ rfl, hc 3 _ rfl, hc 4 _ rfl⟩, frozen_of_row _ _ _ _ _ h.row, frozen_of_row _ _ _ _ _ h.row, frozen_of_row _ _ _ _ _ h.row, frozen_of_row _ _ _ _ _ h.row, frozen_of_row _ _ _ _ _ h.row⟩

/-- one more in its place -/
theorem calm_in {X Y : List EZ} {e : EZ} (h : calmE (X ++ Y)) (h1 : ∀ x ∈ X, lessE e x = false) (h2 : ∀ y ∈ Y, lessE e y = true) : calmE (X ++ e :: Y) := by
  obtain ⟨a, b, c⟩ := List.pairwise_append.1 h
  refine List.pairwise_append.2 ⟨a, List.pairwise_cons.2 ⟨fun y hy => lessE_turn (h2 y hy), b⟩, fun x hx y hy => ?_⟩
  rcases List.mem_cons.1 hy with rfl | hy
  · exact h1 x hx
  · exact c x hx y hy
theorem calm_ahead {X : List EZ} {e p : EZ} (h : calmE (X ++ [p])) (hp : lessE e p = false) : ∀ x ∈ X ++ [p], lessE e x = false := by
  intro x hx
  rcases List.mem_append.1 hx with hx | hx
  · rw [← Bool.not_eq_true]
    intro g
    have := less_calm g ((List.pairwise_append.1 h).2.2 x hx p (by simp))
    rw [hp] at this
    cases this
  · rw [List.mem_singleton.1 hx]
    exact hp
theorem twin_swap {X Y : List EZ} {e p : EZ} (h : lessE e p = true) (k : EZ) : (X ++ [p] ++ e :: Y).filter (twinE k) = (X ++ e :: p :: Y).filter (twinE k) := by
  have h1 := twin_less h
  simp only [List.filter_append, List.filter_cons, List.filter_nil, List.append_assoc]
  cases g1 : twinE k p <;> cases g2 : twinE k e
  · rfl
  · rfl
  · rfl
  · exfalso
    unfold twinE at h1 g1 g2
    rw [decide_eq_true_iff] at g1 g2
    rw [decide_eq_false_iff_not] at h1
    exact h1 ⟨g2.1.symm.trans g1.1, g2.2.1.symm.trans g1.2.1, g2.2.2.symm.trans g1.2.2⟩
theorem take_in {α : Type} (X Y Z : List α) (e : α) {i : Nat} (h : X.length + Y.length = i) : (X ++ e :: (Y ++ Z)).take (i + 1) = X ++ e :: Y := by
  have : X ++ e :: (Y ++ Z) = (X ++ e :: Y) ++ Z := by simp
  rw [this, List.take_left' (by simp; omega)]
theorem calm_done {X Y Z : List (EZ × Value)} {e : EZ × Value} {i : Nat} (hl : X.length + Y.length = i) (hc : calmE ((X ++ Y).map Prod.fst)) (hb : ∀ y ∈ Y, lessE e.1 y.1 = true) (ha : ∀ x ∈ X.map Prod.fst, lessE e.1 x = false) : calmE (((X ++ e :: (Y ++ Z)).take (i + 1)).map Prod.fst) := by
  rw [take_in X Y Z e hl, List.map_append, List.map_cons]
  rw [List.map_append] at hc
  refine calm_in hc ha fun y hy => ?_
  obtain ⟨y', hy', rfl⟩ := List.mem_map.1 hy
  exact hb y' hy'
theorem calm_last {X Y : List (EZ × Value)} {e p : EZ × Value} (hc : calmE ((X ++ [p] ++ Y).map Prod.fst)) (hp : lessE e.1 p.1 = false) : ∀ x ∈ (X ++ [p]).map Prod.fst, lessE e.1 x = false := by
  rw [List.map_append, List.map_append] at hc
  rw [List.map_append]
  exact calm_ahead (List.pairwise_append.1 hc).1 hp
theorem MidE.swap {w0 : World} {g : Nat} {t : TypeId} {L : List EZ} {rest : List Value} {X Y : List (EZ × Value)} {e p : EZ × Value} {w w' : World} (h : MidE w0 g t L rest (X ++ [p] ++ e :: Y) w) (hl : lessE e.1 p.1 = true) (hx : Ext w0 w')
    (hr : w'.heap[g]? = some (.cells (pcells (X ++ e :: p :: Y) ++ rest).toArray t (0, 0))) : MidE w0 g t L rest (X ++ e :: p :: Y) w' := by
  refine ⟨by rw [← h.len]; simp, hr, fun k => ?_, fun x hx => h.vals x ?_, hx⟩
  · rw [← h.twin k]
    simp only [List.map_append, List.map_cons, List.map_nil]
    exact (twin_swap hl k).symm
  · simp only [List.mem_append, List.mem_cons, List.not_mem_nil, or_false] at hx ⊢
    rcases hx with h | h | h | h
    · exact .inl (.inl h)
    · exact .inr (.inl h)
    · exact .inl (.inr h)
    · exact .inr (.inr h)

theorem gen_exit9 {T : Exit → Act → World → Prop} {e : Exit} {a : Act} {X : World} (F : World → Prop) (hF : F X) (h : ∀ W, F W → T e a W) : T e a X := h X hF
theorem set5_in (A B : List Value) (u0 u1 u2 u3 u4 v0 v1 v2 v3 v4 : Value) {k : Nat} (hk : A.length = k) :
    (((((A ++ ([u0, u1, u2, u3, u4] ++ B)).set k v0).set (k + 1) v1).set (k + 2) v2).set (k + 3) v3).set (k + 4) v4 = A ++ ([v0, v1, v2, v3, v4] ++ B) := by
  subst hk
  simp
theorem swapped_row {w : World} {g : Nat} {t : TypeId} {X Y : List (EZ × Value)} {rest : List Value} {e p : EZ} {re rp : Value} {j : Nat}
    (h : w.heap[g]? = some (.cells (pcells (X ++ [(p, rp)] ++ (e, re) :: Y) ++ rest).toArray t (0, 0))) (hj : j = X.length) :
    ((((((((((w.setCell ⟨g, (j + 1) * 5, none⟩ (.int .i64 p.m)).setCell ⟨g, (j + 1) * 5 + 1, none⟩ (.int .i64 p.o)).setCell ⟨g, (j + 1) * 5 + 2, none⟩ (.int .i64 p.q)).setCell ⟨g, (j + 1) * 5 + 3, none⟩ (.string p.n)).setCell ⟨g, (j + 1) * 5 + 4, none⟩ rp).setCell
      ⟨g, j * 5, none⟩ (.int .i64 e.m)).setCell ⟨g, j * 5 + 1, none⟩ (.int .i64 e.o)).setCell ⟨g, j * 5 + 2, none⟩ (.int .i64 e.q)).setCell ⟨g, j * 5 + 3, none⟩ (.string e.n)).setCell ⟨g, j * 5 + 4, none⟩ re).heap[g]? = some (.cells (pcells (X ++ (e, re) :: (p, rp) :: Y) ++ rest).toArray t (0, 0)) := by
  have h1 := heap_setCell_same _ g ((j + 1) * 5) _ t (.int .i64 p.m) h
  have h2 := heap_setCell_same _ g ((j + 1) * 5 + 1) _ t (.int .i64 p.o) h1
  have h3 := heap_setCell_same _ g ((j + 1) * 5 + 2) _ t (.int .i64 p.q) h2
  have h4 := heap_setCell_same _ g ((j + 1) * 5 + 3) _ t (.string p.n) h3
  have h5 := heap_setCell_same _ g ((j + 1) * 5 + 4) _ t rp h4
  have h6 := heap_setCell_same _ g (j * 5) _ t (.int .i64 e.m) h5
  have h7 := heap_setCell_same _ g (j * 5 + 1) _ t (.int .i64 e.o) h6
  have h8 := heap_setCell_same _ g (j * 5 + 2) _ t (.int .i64 e.q) h7
  have h9 := heap_setCell_same _ g (j * 5 + 3) _ t (.string e.n) h8
  have h10 := heap_setCell_same _ g (j * 5 + 4) _ t re h9
  rw [h10]
  simp only [List.setIfInBounds_toArray]
  have e0 : pcells (X ++ [(p, rp)] ++ (e, re) :: Y) ++ rest = (pcells X ++ ecell p rp) ++ ([.int .i64 e.m, .int .i64 e.o, .int .i64 e.q, .string e.n, re] ++ (pcells Y ++ rest)) := by
    simp [pcells, ecell]
  rw [e0, set5_in _ _ _ _ _ _ _ _ _ _ _ _ (by rw [List.length_append, pcells_len, hj]; show X.length * 5 + 5 = _; omega)]
  have e1 : pcells X ++ ecell p rp ++ ([.int .i64 p.m, .int .i64 p.o, .int .i64 p.q, .string p.n, rp] ++ (pcells Y ++ rest)) = pcells X ++ ([.int .i64 p.m, .int .i64 p.o, .int .i64 p.q, .string p.n, rp] ++ (ecell p rp ++ (pcells Y ++ rest))) := by
    simp [ecell]
  rw [e1, set5_in _ _ _ _ _ _ _ _ _ _ _ _ (by rw [pcells_len, hj])]
  have e2 : pcells X ++ ([.int .i64 e.m, .int .i64 e.o, .int .i64 e.q, .string e.n, re] ++ (ecell p rp ++ (pcells Y ++ rest))) = pcells (X ++ (e, re) :: (p, rp) :: Y) ++ rest := by
    simp [pcells, ecell]
  rw [e2]

/-- what the slots of the region hold -/
def einsG (g N c jp : Nat) (e p : EZ) (re rp : Value) : Nat → Value → World → Prop
  | 0, v, _ => v = .int .i64 ((jp : Int) + 1)
  | 1, v, _ => v = .int .i64 0
  | 2, v, _ => v = .bool true
  | 3, v, _ => v = .bool true
  | 4, v, _ => v = .func (.func 30) #[] #[]
  | 5, v, _ => v = .slice (some ⟨g, 0, none⟩) N c
  | 6, v, _ => v = .int .i64 ((jp : Int) + 1)
  | 7, v, _ => v = .pointer (some ⟨g, (jp + 1) * 5, none⟩)
  | 8, v, _ => v = evv e re
  | 9, v, _ => v = .slice (some ⟨g, 0, none⟩) N c
  | 10, v, _ => v = .int .i64 ((jp : Int) + 1)
  | 11, v, _ => v = .int .i64 (jp : Int)
  | 12, v, _ => v = .pointer (some ⟨g, jp * 5, none⟩)
  | 13, v, _ => v = evv p rp
  | 14, v, _ => v = .int .i64 (ordE e p)
  | 15, v, _ => v = .bool (lessE e p)
  | 16, v, _ => v = .bool (lessE e p)
  | _, _, _ => True
theorem einsG_st (g N c jp : Nat) (e p : EZ) (re rp : Value) : ∀ i9 z9 x9 y9, einsG g N c jp e p re rp i9 z9 x9 → Ext x9 y9 → einsG g N c jp e p re rp i9 z9 y9 := by
  intro i9 z9 x9 y9 h e
  unfold einsG at *
  split at h <;> first | exact h | trivial

set_option maxRecDepth 100000 in
set_option maxHeartbeats 3000000 in
theorem eins_any (w0 : World) (g c : Nat) (L : List EZ) (rest : List Value) (P : List (EZ × Value)) (w : World) (hh : MidE w0 g 37 L rest P w) (hg : w0.heap.size ≤ g) (hn : L.length ≤ 20) :
    Calls Try.prog 62 #[.slice (some ⟨g, 0, none⟩) L.length c, .int .i64 0, .int .i64 (L.length : Int), .func (.func 30) #[] #[]] w
      (fun e w' => e = .returned (.tuple #[]) ∧ ∃ P, MidE w0 g 37 L rest P w' ∧ calmE (P.map Prod.fst)) := by
  have HH := hid hh
  have HG := hid hg
  have hml : (L.length : Int) ≤ 20 := by omega
  clear hh hg
  generalize hN : L.length = N at *
  have HN := hid hN
  clear hN
  go_enter Try.func62, Try.ntmps62
  go_wp2_with fail
  go_loopw [8] (fun x wr => ∃ i : Nat, x = .int .i64 (i : Int) ∧ 1 ≤ i ∧ i ≤ N + 1 ∧ Hid (∃ P, MidE w0 g 37 L rest P wr ∧ calmE ((P.take i).map Prod.fst)))
    (fun x _ => N + 1 - (intOf x).toNat)
  case atStart => exact ⟨1, rfl, by omega, by omega, hid ⟨P, HH.out, by
    cases P with
    | nil => exact List.Pairwise.nil
    | cons x r => exact List.pairwise_singleton _ _⟩⟩
  case round =>
    obtain ⟨i, rfl, hi1, hi2, ho⟩ := hrel
    obtain ⟨Q, HQ, HC⟩ := ho.out
    have HQ := hid HQ
    have HC := hid HC
    clear ho
    have hlq : Q.length = N := by rw [HQ.out.len, HN.out]
    by_cases hlt : i < N
    · go_wp2_with fail
      go_loopw [9] (fun y wr2 => ∃ (j : Nat) (X Y Z : List (EZ × Value)) (e : EZ × Value), y = .int .i64 (j : Int) ∧ j ≤ i ∧ Hid (X.length = j ∧ X.length + Y.length = i ∧ MidE w0 g 37 L rest (X ++ e :: (Y ++ Z)) wr2 ∧ calmE ((X ++ Y).map Prod.fst) ∧ ∀ y ∈ Y, lessE e.1 y.1 = true))
        (fun y _ => (intOf y).toNat)
      case atStart => exact ⟨i, Q.take i, [], Q.drop (i + 1), Q[i], rfl, Nat.le_refl _, hid ⟨by rw [List.length_take]; omega, by rw [List.length_take]; simp; omega, by
        have : Q.take i ++ Q[i] :: ([] ++ Q.drop (i + 1)) = Q := by rw [List.nil_append, List.getElem_cons_drop, List.take_append_drop]
        rw [this]
        exact HQ.out, by rw [List.append_nil]; exact HC.out, fun y hy => by cases hy⟩⟩
      case round =>
        obtain ⟨j, X, Y, Z, e, rfl, hji, hr⟩ := hrel
        obtain ⟨hX, hXY, hH, hcalm, hbig⟩ := hr.out
        clear hr
        have HBIG := hid hbig
        have HXY := hid hXY
        have HCA := hid hcalm
        rcases List.eq_nil_or_concat X with rfl | ⟨X0, p, rfl⟩
        · have hj0 : j = 0 := hX.symm
          subst hj0
          have HH2 := hid hH
          have HH3 := hid (calm_done (X := []) (Y := Y) (Z := Z) (e := e) hXY hcalm hbig (fun x hx => by cases hx))
          clear hX hXY hH hcalm hbig
          go_wp2_with fail
          go_quiet (fail)
          rename_i nq
          go_wp2_with fail
          go_roundw
          case rel => exact ⟨i + 1, by go_num, by omega, by omega, hid ⟨_, HH2.out.later (Ext.drewN _ nq), HH3.out⟩⟩
          case measure => simp only [intOf]; omega
        · rw [List.concat_eq_append] at *
          have hX' : X0.length + 1 = j := by rw [← hX]; simp
          obtain ⟨jp, hjp⟩ : ∃ jp, jp = X0.length := ⟨_, rfl⟩
          rw [← hjp] at hX'
          subst hX'
          obtain ⟨e, re⟩ := e
          obtain ⟨p, rp⟩ := p
          have HH2 := hid hH
          have HJP := hid hjp
          obtain ⟨⟨p0, p1, p2, p3, p4⟩, m0, m1, m2, m3, m4⟩ := hH.at_ (j := jp + 1) (by simp [hjp])
          have hH' : MidE w0 g 37 L rest (X0 ++ (p, rp) :: ((e, re) :: (Y ++ Z))) wr := by simpa using hH
          obtain ⟨⟨q0, q1, q2, q3, q4⟩, n0, n1, n2, n3, n4⟩ := hH'.at_ hjp.symm
          clear hX hXY hH hH' hcalm hbig hjp
          dsimp only at *
          go_wp2_with fail
          refine wp_region_slots Ext (einsG g N c jp e p re rp) (by kernel_rfl) Ext.trans Ext.refl (Ext.drew _) (einsG_st _ _ _ _ _ _ _ _) (by kernel_rfl) ?_ ?_
          · intro tmps wr hle hfr j o9 ho hty
            have h0 : tmps[0]?.getD undef = .slice (some ⟨g, 0, none⟩) N c := hfr 0 (by kernel_rfl)
            have h1 : tmps[1]?.getD undef = .int .i64 0 := hfr 1 (by kernel_rfl)
            have h3 : tmps[3]?.getD undef = .func (.func 30) #[] #[] := hfr 3 (by kernel_rfl)
            have h9 : tmps[9]?.getD undef = .int .i64 ((jp : Int) + 1) := hfr 9 (by kernel_rfl)
            have p0 := hle.cell p0
            have p1 := hle.cell p1
            have p2 := hle.cell p2
            have p3 := hle.cell p3
            have p4 := hle.cell p4
            have q0 := hle.cell q0
            have q1 := hle.cell q1
            have q2 := hle.cell q2
            have q3 := hle.cell q3
            have q4 := hle.cell q4
            have hpos : 0 < (jp : Int) + 1 := by omega
            have hby : (jp : Int) + 1 < (N : Int) := by omega
            have hbx : (jp : Int) < (N : Int) := by omega
            have hneg : ¬ (jp : Int) + 1 < 0 := by omega
            have hcast : ((jp : Int) + 1).toNat = jp + 1 := by omega
            have hsub : (jp : Int) + 1 - 1 = (jp : Int) := by omega
            have hsub2 : IntKind.i64.wrap (jp : Int) = (jp : Int) := iwrap _ (by omega) (by omega)
            have hless := ordE_less_dec e p
            clear hfr
            match j, ho with
            | 0, ho =>
              obtain rfl := (Option.some.inj ho)
              clear hty ho
              refine step_pure (.int .i64 ((jp : Int) + 1)) (wanted_free rfl) ?_ (Ext.refl _) rfl
              simp [execOp, Act.eval, h9, go_sem]
            | 1, ho =>
              obtain rfl := (Option.some.inj ho)
              clear hty ho
              refine step_pure (.int .i64 0) (wanted_free rfl) ?_ (Ext.refl _) rfl
              simp [execOp, Act.eval, h1, go_sem]
            | 2, ho =>
              have h18 : tmps[18]?.getD undef = .int .i64 ((jp : Int) + 1) := hty 0 18 rfl (by obtain rfl := (Option.some.inj ho); rfl)
              have h19 : tmps[19]?.getD undef = .int .i64 0 := hty 1 19 rfl (by obtain rfl := (Option.some.inj ho); rfl)
              obtain rfl := (Option.some.inj ho)
              clear hty ho
              refine step_pure (.bool true) (wanted_free rfl) ?_ (Ext.refl _) rfl
              simp [execOp, Act.eval, h18, h19, hpos, go_sem]
            | 3, ho =>
              have h20 : tmps[20]?.getD undef = .bool true := hty 2 20 rfl (by obtain rfl := (Option.some.inj ho); rfl)
              obtain rfl := (Option.some.inj ho)
              clear hty ho
              refine step_pure (.bool true) (wanted_free rfl) ?_ (Ext.refl _) rfl
              simp [execOp, Act.eval, h20, go_sem]
            | 4, ho =>
              have h21 : tmps[21]?.getD undef = .bool true := hty 3 21 rfl (by obtain rfl := (Option.some.inj ho); rfl)
              obtain rfl := (Option.some.inj ho)
              clear hty ho
              refine step_pure (.func (.func 30) #[] #[]) (wanted_guard rfl rfl h21) ?_ (Ext.refl _) rfl
              simp [execOp, Act.eval, h3, go_sem]
            | 5, ho =>
              have h21 : tmps[21]?.getD undef = .bool true := hty 3 21 rfl (by obtain rfl := (Option.some.inj ho); rfl)
              obtain rfl := (Option.some.inj ho)
              clear hty ho
              refine step_pure (.slice (some ⟨g, 0, none⟩) N c) (wanted_guard rfl rfl h21) ?_ (Ext.refl _) rfl
              simp [execOp, Act.eval, h0, go_sem]
            | 6, ho =>
              have h21 : tmps[21]?.getD undef = .bool true := hty 3 21 rfl (by obtain rfl := (Option.some.inj ho); rfl)
              obtain rfl := (Option.some.inj ho)
              clear hty ho
              refine step_pure (.int .i64 ((jp : Int) + 1)) (wanted_guard rfl rfl h21) ?_ (Ext.refl _) rfl
              simp [execOp, Act.eval, h9, go_sem]
            | 7, ho =>
              have h23 : tmps[23]?.getD undef = .slice (some ⟨g, 0, none⟩) N c := hty 5 23 rfl (by obtain rfl := (Option.some.inj ho); rfl)
              have h24 : tmps[24]?.getD undef = .int .i64 ((jp : Int) + 1) := hty 6 24 rfl (by obtain rfl := (Option.some.inj ho); rfl)
              have h21 : tmps[21]?.getD undef = .bool true := hty 3 21 rfl (by obtain rfl := (Option.some.inj ho); rfl)
              obtain rfl := (Option.some.inj ho)
              clear hty ho
              refine step_pure (.pointer (some ⟨g, (jp + 1) * 5, none⟩)) (wanted_guard rfl rfl h21) ?_ (Ext.refl _) rfl
              simp [execOp, Act.eval, h23, h24, hby, hneg, hcast, go_sem]
            | 8, ho =>
              have h25 : tmps[25]?.getD undef = .pointer (some ⟨g, (jp + 1) * 5, none⟩) := hty 7 25 rfl (by obtain rfl := (Option.some.inj ho); rfl)
              have h21 : tmps[21]?.getD undef = .bool true := hty 3 21 rfl (by obtain rfl := (Option.some.inj ho); rfl)
              obtain rfl := (Option.some.inj ho)
              clear hty ho
              refine step_pure (evv e re) (wanted_guard rfl rfl h21) ?_ (Ext.refl _) rfl
              simp [execOp, Act.eval, h25, evv, p0, p1, p2, p3, p4, go_sem]
            | 9, ho =>
              have h21 : tmps[21]?.getD undef = .bool true := hty 3 21 rfl (by obtain rfl := (Option.some.inj ho); rfl)
              obtain rfl := (Option.some.inj ho)
              clear hty ho
              refine step_pure (.slice (some ⟨g, 0, none⟩) N c) (wanted_guard rfl rfl h21) ?_ (Ext.refl _) rfl
              simp [execOp, Act.eval, h0, go_sem]
            | 10, ho =>
              have h21 : tmps[21]?.getD undef = .bool true := hty 3 21 rfl (by obtain rfl := (Option.some.inj ho); rfl)
              obtain rfl := (Option.some.inj ho)
              clear hty ho
              refine step_pure (.int .i64 ((jp : Int) + 1)) (wanted_guard rfl rfl h21) ?_ (Ext.refl _) rfl
              simp [execOp, Act.eval, h9, go_sem]
            | 11, ho =>
              have h28 : tmps[28]?.getD undef = .int .i64 ((jp : Int) + 1) := hty 10 28 rfl (by obtain rfl := (Option.some.inj ho); rfl)
              have h21 : tmps[21]?.getD undef = .bool true := hty 3 21 rfl (by obtain rfl := (Option.some.inj ho); rfl)
              obtain rfl := (Option.some.inj ho)
              clear hty ho
              refine step_pure (.int .i64 (jp : Int)) (wanted_guard rfl rfl h21) ?_ (Ext.refl _) rfl
              simp [execOp, Act.eval, h28, hsub, hsub2, go_sem]
            | 12, ho =>
              have h27 : tmps[27]?.getD undef = .slice (some ⟨g, 0, none⟩) N c := hty 9 27 rfl (by obtain rfl := (Option.some.inj ho); rfl)
              have h29 : tmps[29]?.getD undef = .int .i64 (jp : Int) := hty 11 29 rfl (by obtain rfl := (Option.some.inj ho); rfl)
              have h21 : tmps[21]?.getD undef = .bool true := hty 3 21 rfl (by obtain rfl := (Option.some.inj ho); rfl)
              obtain rfl := (Option.some.inj ho)
              clear hty ho
              refine step_pure (.pointer (some ⟨g, jp * 5, none⟩)) (wanted_guard rfl rfl h21) ?_ (Ext.refl _) rfl
              simp [execOp, Act.eval, h27, h29, hbx, go_sem]
            | 13, ho =>
              have h30 : tmps[30]?.getD undef = .pointer (some ⟨g, jp * 5, none⟩) := hty 12 30 rfl (by obtain rfl := (Option.some.inj ho); rfl)
              have h21 : tmps[21]?.getD undef = .bool true := hty 3 21 rfl (by obtain rfl := (Option.some.inj ho); rfl)
              obtain rfl := (Option.some.inj ho)
              clear hty ho
              refine step_pure (evv p rp) (wanted_guard rfl rfl h21) ?_ (Ext.refl _) rfl
              simp [execOp, Act.eval, h30, evv, q0, q1, q2, q3, q4, go_sem]
            | 14, ho =>
              have h22 : tmps[22]?.getD undef = .func (.func 30) #[] #[] := hty 4 22 rfl (by obtain rfl := (Option.some.inj ho); rfl)
              have h26 : tmps[26]?.getD undef = evv e re := hty 8 26 rfl (by obtain rfl := (Option.some.inj ho); rfl)
              have h31 : tmps[31]?.getD undef = evv p rp := hty 13 31 rfl (by obtain rfl := (Option.some.inj ho); rfl)
              have h21 : tmps[21]?.getD undef = .bool true := hty 3 21 rfl (by obtain rfl := (Option.some.inj ho); rfl)
              obtain rfl := (Option.some.inj ho)
              clear hty ho
              refine step_call 30 #[evv e re, evv p rp] (wanted_guard rfl rfl h21) ?_ ?_
              · simp [execOp, Act.eval, h22, h26, h31, go_sem]
              · exact (ecls_any e p re rp _).mono fun e w' ⟨h1, h2⟩ => ⟨_, h1, h2, rfl⟩
            | 15, ho =>
              have h32 : tmps[32]?.getD undef = .int .i64 (ordE e p) := hty 14 32 rfl (by obtain rfl := (Option.some.inj ho); rfl)
              have h21 : tmps[21]?.getD undef = .bool true := hty 3 21 rfl (by obtain rfl := (Option.some.inj ho); rfl)
              obtain rfl := (Option.some.inj ho)
              clear hty ho
              refine step_pure (.bool (lessE e p)) (wanted_guard rfl rfl h21) ?_ (Ext.refl _) rfl
              simp [execOp, Act.eval, h32, hless, go_sem]
            | 16, ho =>
              have h21 : tmps[21]?.getD undef = .bool true := hty 3 21 rfl (by obtain rfl := (Option.some.inj ho); rfl)
              have h33 : tmps[33]?.getD undef = .bool (lessE e p) := hty 15 33 rfl (by obtain rfl := (Option.some.inj ho); rfl)
              obtain rfl := (Option.some.inj ho)
              clear hty ho
              refine step_pure (.bool (lessE e p)) (wanted_free rfl) ?_ (Ext.refl _) rfl
              simp [execOp, Act.eval, h21, h33, go_sem]
            | (j + 17), ho => exact absurd ho (by simp)
          · intro tmps w7 hle hs hfr hty
            have h0 : tmps[34]?.getD undef = .bool (lessE e p) := hty 16 34 rfl
            have hfe := frame_eq [18, 19, 20, 21, 22, 23, 24, 25, 26, 27, 28, 29, 30, 31, 32, 33, 34] hs hfr (by kernel_rfl)
            rw [hfe]
            clear hfe hfr hs hty
            simp only [List.foldl_cons, List.foldl_nil]
            rw [h0]
            clear h0
            generalize tmps[18]?.getD undef = x18
            generalize tmps[19]?.getD undef = x19
            generalize tmps[20]?.getD undef = x20
            generalize tmps[21]?.getD undef = x21
            generalize tmps[22]?.getD undef = x22
            generalize tmps[23]?.getD undef = x23
            generalize tmps[24]?.getD undef = x24
            generalize tmps[25]?.getD undef = x25
            generalize tmps[26]?.getD undef = x26
            generalize tmps[27]?.getD undef = x27
            generalize tmps[28]?.getD undef = x28
            generalize tmps[29]?.getD undef = x29
            generalize tmps[30]?.getD undef = x30
            generalize tmps[31]?.getD undef = x31
            generalize tmps[32]?.getD undef = x32
            generalize tmps[33]?.getD undef = x33
            simp only [List.setIfInBounds_toArray, List.set_cons_succ, List.set_cons_zero]
            have HH7 := hid (HH2.out.later hle)
            clear hle p0 p1 p2 p3 p4 q0 q1 q2 q3 q4 m0 m1 m2 m3 m4 n0 n1 n2 n3 n4
            cases hZ : lessE e p
            · have HL := hid (calm_done (X := X0 ++ [(p, rp)]) (Y := Y) (Z := Z) (e := (e, re)) HXY.out HCA.out HBIG.out (calm_last (X := X0) (Y := Y) (e := (e, re)) (p := (p, rp)) HCA.out hZ))
              clear hZ
              go_wp2_with fail
              go_roundw
              case rel => exact ⟨i + 1, by go_num, by omega, by omega, hid ⟨_, HH7.out, HL.out⟩⟩
              case measure => simp only [intOf]; omega
            · have HZ := hid hZ
              clear hZ
              obtain ⟨⟨p0, p1, p2, p3, p4⟩, m0, m1, m2, m3, m4⟩ := HH7.out.at_ (j := jp + 1) (by simp [HJP.out])
              obtain ⟨⟨q0, q1, q2, q3, q4⟩, n0, n1, n2, n3, n4⟩ := (show MidE w0 g 37 L rest (X0 ++ (p, rp) :: ((e, re) :: (Y ++ Z))) w7 by simpa using HH7.out).at_ HJP.out.symm
              have hby : (jp : Int) + 1 < (N : Int) := by omega
              have hbx : (jp : Int) < (N : Int) := by omega
              have hneg : ¬ (jp : Int) + 1 < 0 := by omega
              have hcast : ((jp : Int) + 1).toNat = jp + 1 := by omega
              have hsub : (jp : Int) + 1 - 1 = (jp : Int) := by omega
              have hsub2 : IntKind.i64.wrap (jp : Int) = (jp : Int) := iwrap _ (by omega) (by omega)
              dsimp only at *
              obtain ⟨A1, c1, e1, _⟩ := HH7.out.vals (p, rp) (by simp)
              obtain ⟨A2, c2, e2, _⟩ := HH7.out.vals (e, re) (by simp)
              dsimp only at e1 e2
              subst e1
              subst e2
              go_wp2_with fail
              go_region
              have HS := hid (MidE.swap (X := X0) (Y := Y ++ Z) (e := (e, .slice A2 e.v.length c2)) (p := (p, .slice A1 p.v.length c1)) HH7.out HZ.out (by
                repeat (first | (with_reducible exact HH7.out.ext) | (with_reducible refine Ext.setCell ?_ HG.out _))) (swapped_row HH7.out.row HJP.out))
              refine gen_exit9 (fun W => MidE w0 g 37 L rest (X0 ++ (e, .slice A2 e.v.length c2) :: (p, .slice A1 p.v.length c1) :: (Y ++ Z)) W) (HS.out.later (Ext.drew _)) ?_
              intro w8 HW8
              have HW8 := hid HW8
              clear HS p0 p1 p2 p3 p4 q0 q1 q2 q3 q4 m0 m1 m2 m3 m4 n0 n1 n2 n3 n4
              go_wp2_with fail
              go_roundw
              case rel => exact ⟨jp, X0, (p, .slice A1 p.v.length c1) :: Y, Z, (e, .slice A2 e.v.length c2), rfl, by omega, hid ⟨HJP.out.symm, by have := HXY.out; simp at this ⊢; omega, HW8.out, by simpa using HCA.out, fun y hy => by
                rcases List.mem_cons.1 hy with rfl | hy
                · exact HZ.out
                · exact HBIG.out y hy⟩⟩
              case measure => simp only [intOf]; omega
    · have hlt' : ¬ (i : Int) < (N : Int) := by omega
      go_wp2_with fail
      go_end0
      exact ⟨rfl, Q, HQ.out, by rw [List.take_of_length_le (by omega)] at HC; exact HC.out⟩
end Go.Proofs.Ytnldgmpfinlikaa

/- The landed program's Sort of events, by its contract. Conditions: at most 20 events. -/
namespace Go.Proofs.Ytnldgmpfinlikaa
open Go Go.RowKit

set_option maxRecDepth 100000 in
set_option maxHeartbeats 2000000 in
theorem eclone_any (L : List EZ) (R : List Value) (v : Value) (w : World) (hf : EventsR w v L R) (h20 : L.length ≤ 20) : Calls Try.prog 28 #[v] w (fun e w' => ∃ u, e = .returned u ∧ w'.ownsRow w.heap.size 37 5 u L.length (ecells L R) ∧ Ext w w') := by
  have HF := hid hf
  obtain ⟨A, c, rfl, q1, q2, hrw, hcl⟩ := hf
  have HRW := hid hrw
  have heq := fun W => Go.Lib.run_eql_slice_nil (P := Try.prog) W 25 37 A L.length c 0 0 Try.underlying25
  cases A with
  | none =>
    have hF0 : L = [] := by
      cases L with
      | nil => rfl
      | cons f r =>
        obtain ⟨g, o, e1, _⟩ := hcl 0 (Nat.succ_pos _) (by rw [hrw.1]; exact Nat.succ_pos _)
        cases e1
    subst hF0
    simp only [List.length_nil] at heq
    clear hcl hrw
    go_enter Try.func28, Try.ntmps28
    go_wp2_with fail
    go_ret
    exact ⟨_, rfl, World.ownsRow_nil _ _ _ _, Ext.refl _⟩
  | some a =>
    clear hcl hrw
    go_enter Try.func28, Try.ntmps28
    have HL := hid HF.out.lies
    have HON := hid (ecells_one L R HRW.out.one)
    have HOW := hid (own_build w w.heap.size 37 5 0 #[] (Nat.le_refl _) (by unfold maxLen; omega) rfl)
    go_wp2_with (at_builtin; refine wpList_append_lies _ rfl (.tmp 5) (.tmp 6) 25 rfl w.heap.size 37 (.agg #[.int .i64 0, .int .i64 0, .int .i64 0, .string ⟨#[]⟩, .slice none 0 0]) 5 64 Try.underlying25 infoE1 rfl (by decide) _ 0 [] rfl HOW.out (some a) L.length c (ecells L R) rfl (ecells_len _ _ HRW.out.1) (HL.out.ext (Ext.alloc _ _)) HON.out (by unfold maxLen; omega) (by omega) (by simp) ?_; intro v9 w9 hown9 hgrow9 hat9)
    have HG := hid ((Ext.alloc w _).grown hgrow9 (fun k hk => own_block_ge HOW.out k hk))
    have HW := hid (show w9.ownsRow w.heap.size 37 5 v9 L.length (ecells L R) by simpa using hown9)
    clear hgrow9 hown9 hat9
    go_wp2_with fail
    go_ret
    exact ⟨_, rfl, HW.out, HG.out⟩

set_option maxHeartbeats 1000000 in
/-- nothing to insert -/
theorem eins0_any (v f : Value) (a b : Int) (w : World) (h : b ≤ a + 1) (ha : 0 ≤ a) (hb : a ≤ 1000) :
    Calls Try.prog 62 #[v, .int .i64 a, .int .i64 b, f] w (fun e w' => e = .returned (.tuple #[]) ∧ w' = w) := by
  have h1 : ¬ a + 1 < b := by omega
  have hw1 : IntKind.i64.wrap (a + 1) = a + 1 := iwrap _ (by omega) (by omega)
  go_enter Try.func62, Try.ntmps62
  go_wp2_with fail
  go_loopw [8] (fun x wr => x = .int .i64 (a + 1) ∧ wr = w)
    (fun _ _ => 0)
  case atStart => exact ⟨by go_num, rfl⟩
  case round =>
    obtain ⟨rfl, rfl⟩ := hrel
    go_wp2_with fail
    go_end0
    exact ⟨rfl, rfl⟩

/-- sorted, or there is nothing to sort -/
def DoneE (w0 : World) (L : List EZ) (v : Value) (w : World) : Prop := EventsAt w v (sortE L) ∧ Ext w0 w

theorem MidE.done {w0 : World} {g c : Nat} {t : TypeId} {L : List EZ} {rest : List Value} {P : List (EZ × Value)} {w : World} (h : MidE w0 g t L rest P w) (hc : calmE (P.map Prod.fst)) (h1 : L.length ≤ c) (h2 : c ≤ maxLen) : DoneE w0 L (.slice (some ⟨g, 0, none⟩) L.length c) w := by
  have hs : P.map Prod.fst = sortE L := sort_one _ _ hc h.twin
  have hl : (sortE L).length = L.length := sortE_length L
  refine ⟨⟨P.map Prod.snd, ?_⟩, h.ext⟩
  rw [← hs, ← hl, ← hs]
  have hz : ecells (P.map Prod.fst) (P.map Prod.snd) = pcells P := by
    unfold ecells pcells
    rw [← List.unzip_fst, ← List.unzip_snd, List.zip_unzip]
  refine EventsR.of_lies (fun j u hu => ⟨g, 0, rfl, ?_⟩) ⟨by simp, fun i i1 i2 => ?_⟩ (by rw [hs, hl]; exact h1) h2
  · rw [hz] at hu
    rw [Nat.zero_add, cell_of_row w g j _ _ _ h.row, List.getElem?_toArray, List.getElem?_append_left (List.getElem?_eq_some_iff.1 hu).1]
    exact hu
  · rw [List.getElem_map, List.getElem_map]
    exact (h.vals _ (List.getElem_mem _)).ext h.ext

set_option maxRecDepth 100000 in
set_option maxHeartbeats 3000000 in
theorem estable_any (w0 : World) (g c : Nat) (L : List EZ) (rest : List Value) (P : List (EZ × Value)) (w : World) (hh : MidE w0 g 37 L rest P w) (hg : w0.heap.size ≤ g) (hn : L.length ≤ 20) :
    Calls Try.prog 47 #[.slice (some ⟨g, 0, none⟩) L.length c, .int .i64 (L.length : Int), .func (.func 30) #[] #[]] w
      (fun e w' => e = .returned (.tuple #[]) ∧ ∃ P, MidE w0 g 37 L rest P w' ∧ calmE (P.map Prod.fst)) := by
  have ki := fun Q W (h : MidE w0 g 37 L rest Q W) => eins_any w0 g c L rest Q W h hg hn
  have k0 := fun W => eins0_any (.slice (some ⟨g, 0, none⟩) L.length c) (.func (.func 30) #[] #[]) 20 20 W (by omega) (by omega) (by omega)
  have HH := hid hh
  clear hh hg
  have hn' : (L.length : Int) ≤ 20 := by omega
  have hlt : ¬ (20 : Int) < (L.length : Int) := by omega
  by_cases h20 : L.length = 20
  · rw [h20] at ki k0 ⊢
    have ki := ki P w HH.out
    obtain ⟨z, hz⟩ : ∃ z : Int, z = ((20 : Nat) : Int) := ⟨_, rfl⟩
    rw [← hz] at ki ⊢
    have hz2 : z = 20 := hz
    rw [hz2] at ki ⊢
    clear hz hz2 z
    clear hn hn' hlt h20
    go_enter Try.func47, Try.ntmps47
    go_wp2_with fail
    go_loopw [7, 8] (fun x y wr => ∃ s : Nat, s ≤ 20 ∧ x = .int .i64 (s : Int) ∧ y = .int .i64 ((s : Int) + 20) ∧ Hid ((s = 0 ∧ wr = w) ∨ (s = 20 ∧ ∃ P, MidE w0 g 37 L rest P wr ∧ calmE (P.map Prod.fst))))
      (fun x _ _ => 20 - (intOf x).toNat)
    case atStart => exact ⟨0, by omega, rfl, rfl, hid (.inl ⟨rfl, rfl⟩)⟩
    case round =>
      obtain ⟨s, _, rfl, rfl, hs⟩ := hrel
      rcases hs.out with ⟨rfl, rfl⟩ | ⟨rfl, hd⟩
      · clear hs
        go_wp2_with (go_at_call 62; refine ki.mono ?_; rintro e w1 ⟨rfl, hd⟩)
        have HD := hid hd
        clear hd
        go_roundw
        case rel => exact ⟨20, by omega, by go_num, by go_num, hid (.inr ⟨rfl, HD.out⟩)⟩
        case measure => simp only [intOf]; omega
      · have HD := hid hd
        clear hs hd
        go_wp2_with (go_at_call 62; refine (k0 _).mono ?_; rintro e w1 ⟨rfl, rfl⟩)
        go_loopw [6] (fun x wr2 => ∃ q : Nat, x = .int .i64 20 ∧ wr2 = w1)
          (fun _ _ => 0)
        case atStart => exact ⟨0, rfl, rfl⟩
        case round =>
          obtain ⟨_, rfl, rfl⟩ := hrel
          go_wp2_with fail
          go_end0
          exact ⟨rfl, HD.out⟩
  · have hn1 : ¬ (20 : Int) ≤ (L.length : Int) := by omega
    have ki := ki P w HH.out
    generalize L.length = N at *
    clear hn hn' h20 k0
    go_enter Try.func47, Try.ntmps47
    go_wp2_with fail
    go_loopw [7, 8] (fun x y wr => x = .int .i64 0 ∧ y = .int .i64 20 ∧ wr = w)
      (fun _ _ _ => 0)
    case atStart => exact ⟨rfl, rfl, rfl⟩
    case round =>
      obtain ⟨rfl, rfl, rfl⟩ := hrel
      go_wp2_with (go_at_call 62; refine ki.mono ?_; rintro e w1 ⟨rfl, hd⟩)
      have HD := hid hd
      clear hd
      go_loopw [6] (fun x wr2 => x = .int .i64 20 ∧ wr2 = w1)
        (fun _ _ => 0)
      case atStart => exact ⟨rfl, rfl⟩
      case round =>
        obtain ⟨rfl, rfl⟩ := hrel
        go_wp2_with fail
        go_end0
        exact ⟨rfl, HD.out⟩

set_option maxRecDepth 100000 in
set_option maxHeartbeats 3000000 in
/-- there is nothing to sort -/
theorem estable0_any (v f : Value) (w : World) : Calls Try.prog 47 #[v, .int .i64 0, f] w (fun e w' => e = .returned (.tuple #[]) ∧ w' = w) := by
  have k0 := fun W => eins0_any v f 0 0 W (by omega) (by omega) (by omega)
  go_enter Try.func47, Try.ntmps47
  go_wp2_with fail
  go_loopw [7, 8] (fun x y wr => x = .int .i64 0 ∧ y = .int .i64 20 ∧ wr = w)
    (fun _ _ _ => 0)
  case atStart => exact ⟨rfl, rfl, rfl⟩
  case round =>
    obtain ⟨rfl, rfl, rfl⟩ := hrel
    go_wp2_with (go_at_call 62; refine (k0 _).mono ?_; rintro e w1 ⟨rfl, rfl⟩)
    go_loopw [6] (fun x wr2 => x = .int .i64 20 ∧ wr2 = w1)
      (fun _ _ => 0)
    case atStart => exact ⟨rfl, rfl⟩
    case round =>
      obtain ⟨rfl, rfl⟩ := hrel
      go_wp2_with fail
      go_end0
      exact ⟨rfl, rfl⟩

/-- what the clone holds is sorted -/
theorem esorts_any (w0 : World) (L : List EZ) (R : List Value) (u : Value) (w : World) (hR : RowsAt w0 R L) (ho : w.ownsRow w0.heap.size 37 5 u L.length (ecells L R)) (hx : Ext w0 w) (hn : L.length ≤ 20) :
    Calls Try.prog 47 #[u, .int .i64 (L.length : Int), .func (.func 30) #[] #[]] w (fun e w' => e = .returned (.tuple #[]) ∧ DoneE w0 L u w') := by
  rcases ho.2 with ⟨rfl, h0⟩ | ⟨g, cap, cur, rfl, hb, hg, hcap, hm, hcs, hct⟩
  · have hL : L = [] := List.eq_nil_of_length_eq_zero h0
    subst hL
    refine (estable0_any _ _ w).mono ?_
    rintro e w' ⟨rfl, rfl⟩
    exact ⟨rfl, EventsAt.nil _, hx⟩
  · have hrl : R.length = L.length := hR.1
    have hpz : pcells (L.zip R) = ecells L R := rfl
    have hmf : (L.zip R).map Prod.fst = L := by rw [List.map_fst_zip]; omega
    have hrow : w.heap[g]? = some (.cells (pcells (L.zip R) ++ cur.toList.drop (L.length * 5)).toArray 37 (0, 0)) := by
      rw [hg, hpz, ← hct, List.take_append_drop, Array.toArray_toList]
    refine (estable_any w0 g cap L _ (L.zip R) w ⟨by rw [List.length_zip, hrl, Nat.min_self], hrow, fun k => by rw [hmf], fun x hx => ?_, hx⟩ hb hn).mono ?_
    · obtain ⟨i, hi, rfl⟩ := List.getElem_of_mem hx
      rw [List.getElem_zip]
      rw [List.length_zip] at hi
      exact hR.2 i (by omega) (by omega)
    · rintro e w' ⟨rfl, P, hP, hc⟩
      exact ⟨rfl, hP.done hc hcap hm⟩

set_option maxRecDepth 100000 in
set_option maxHeartbeats 1000000 in
theorem esortf_any (w0 : World) (L : List EZ) (R : List Value) (u : Value) (w : World) (hR : RowsAt w0 R L) (ho : w.ownsRow w0.heap.size 37 5 u L.length (ecells L R)) (hx : Ext w0 w) (hn : L.length ≤ 20) :
    Calls Try.prog 29 #[u, .func (.func 30) #[] #[]] w (fun e w' => e = .returned (.tuple #[]) ∧ DoneE w0 L u w') := by
  have kk := esorts_any w0 L R u w hR ho hx hn
  obtain ⟨A, c, rfl, _, _, _⟩ := own_form ho
  clear ho hR
  go_enter Try.func29, Try.ntmps29
  go_wp2_with (go_at_call 47; refine kk.mono ?_; rintro e w1 ⟨rfl, hd⟩)
  go_end0
  exact ⟨rfl, hd⟩

set_option maxRecDepth 100000 in
set_option maxHeartbeats 1000000 in
theorem esortp_any (L : List EZ) (v : Value) (w : World) (hv : EventsAt w v L) (hl : L.length ≤ 20) : Calls Try.prog 8 #[v] w (fun e w' => ∃ u, e = .returned u ∧ EventsAt w' u (sortE L) ∧ Ext w w') := by
  obtain ⟨R, hv⟩ := hv
  have hR : RowsAt w R L := by obtain ⟨_, _, _, _, _, h, _⟩ := hv; exact h
  have kc := eclone_any L R v w hv hl
  have ks := fun u W ho hx => esortf_any w L R u W hR ho hx hl
  clear hv hR
  go_enter Try.func8, Try.ntmps8
  go_wp2_with fail
  refine kc.mono ?_
  rintro e w1 ⟨u, rfl, ho, hx⟩
  have ks := ks u w1 ho hx
  clear kc ho
  go_wp2_with (go_at_call 29; refine ks.mono ?_; rintro e2 w2 ⟨rfl, hd⟩)
  go_ret
  exact ⟨_, rfl, hd.1, hd.2⟩
end Go.Proofs.Ytnldgmpfinlikaa

