/- Several texts in one: SMem2, SMem3, EMem, EOpen, SOk. Conditions: those of each. -/
import Derived.Deep.AppendLies
import Derived.Lib.SmallJoins
import Derived.Test.YtnldgmpfinlikaaGreatGSR1
import Derived.Test.YtnldgmpfinlikaaGreatBase
import Derived.Test.YtnldgmpfinlikaaGreatGSOpen
/- Rows of fields, of types, of values that a call has built. Conditions: none. -/
namespace Go.Proofs.YtnldgmpfinlikaaGreat
open Go Go.RowKit

/-- the cells of fields, of types, of values in a row -/
def fcells (F : List FZ) : List Value := F.flatMap fun f => [.string f.n, .int .u8 (f.k : Int)]
def vcells (V : List VZ) : List Value := V.flatMap fun v => [.int .u8 (v.k : Int), .int .i64 v.n, .int .u64 (v.b : Int), .string v.t]
theorem fcells_len (F : List FZ) : (fcells F).length = F.length * 2 := by
  induction F with
  | nil => rfl
  | cons f r ih =>
    show ([_, _] ++ fcells r).length = _
    rw [List.length_append, ih, List.length_cons]
    simp only [List.length_cons, List.length_nil]
    omega
theorem vcells_len (V : List VZ) : (vcells V).length = V.length * 4 := by
  induction V with
  | nil => rfl
  | cons f r ih =>
    show ([_, _, _, _] ++ vcells r).length = _
    rw [List.length_append, ih, List.length_cons]
    simp only [List.length_cons, List.length_nil]
    omega
theorem fcells_append (F G : List FZ) : fcells (F ++ G) = fcells F ++ fcells G := List.flatMap_append
theorem vcells_append (F G : List VZ) : vcells (F ++ G) = vcells F ++ vcells G := List.flatMap_append
theorem fcells_at {F : List FZ} {i : Nat} (h : i < F.length) : (fcells F)[i * 2]? = some (.string F[i].n) ∧ (fcells F)[i * 2 + 1]? = some (.int .u8 (F[i].k : Int)) := by
  have e : F = F.take i ++ F[i] :: F.drop (i + 1) := by rw [← List.drop_eq_getElem_cons h, List.take_append_drop]
  have hl : (fcells (F.take i)).length = i * 2 := by rw [fcells_len, List.length_take, Nat.min_eq_left (by omega)]
  have e2 : fcells F = fcells (F.take i) ++ (.string F[i].n :: .int .u8 (F[i].k : Int) :: fcells (F.drop (i + 1))) := by
    conv => lhs; rw [e, fcells_append]
    rfl
  constructor
  · rw [e2, List.getElem?_append_right (by omega), hl, Nat.sub_self]; rfl
  · rw [e2, List.getElem?_append_right (by omega), hl, show i * 2 + 1 - i * 2 = 1 by omega]; rfl
theorem vcells_at {V : List VZ} {i : Nat} (h : i < V.length) : (vcells V)[i * 4]? = some (.int .u8 (V[i].k : Int)) ∧ (vcells V)[i * 4 + 1]? = some (.int .i64 V[i].n) ∧ (vcells V)[i * 4 + 2]? = some (.int .u64 (V[i].b : Int)) ∧ (vcells V)[i * 4 + 3]? = some (.string V[i].t) := by
  have e : V = V.take i ++ V[i] :: V.drop (i + 1) := by rw [← List.drop_eq_getElem_cons h, List.take_append_drop]
  have hl : (vcells (V.take i)).length = i * 4 := by rw [vcells_len, List.length_take, Nat.min_eq_left (by omega)]
  have e2 : vcells V = vcells (V.take i) ++ (.int .u8 (V[i].k : Int) :: .int .i64 V[i].n :: .int .u64 (V[i].b : Int) :: .string V[i].t :: vcells (V.drop (i + 1))) := by
    conv => lhs; rw [e, vcells_append]
    rfl
  refine ⟨?_, ?_, ?_, ?_⟩
  · rw [e2, List.getElem?_append_right (by omega), hl, Nat.sub_self]; rfl
  · rw [e2, List.getElem?_append_right (by omega), hl, show i * 4 + 1 - i * 4 = 1 by omega]; rfl
  · rw [e2, List.getElem?_append_right (by omega), hl, show i * 4 + 2 - i * 4 = 2 by omega]; rfl
  · rw [e2, List.getElem?_append_right (by omega), hl, show i * 4 + 3 - i * 4 = 3 by omega]; rfl

/-- what a row that is owned looks like -/
theorem own_form {w : World} {base : Nat} {e : TypeId} {size n : Nat} {v : Value} {xs : List Value} (h : w.ownsRow base e size v n xs) :
    ∃ A c, v = .slice A n c ∧ n ≤ c ∧ c ≤ maxLen ∧ ∀ j u, xs[j]? = some u → ∃ g, A = some ⟨g, 0, none⟩ ∧ w.cell? ⟨g, 0 + j, none⟩ = some u := by
  obtain ⟨A, c, rfl, h1, h2, h3⟩ := own_shape h
  refine ⟨A, c, rfl, h1, h2, fun j u hu => ?_⟩
  obtain ⟨g, o, hA, hc⟩ := h3.open_at (k := j) (List.getElem?_eq_some_iff.1 hu).1
  rcases h.2 with ⟨hv, hn⟩ | ⟨g', cap, cur, hv, _⟩
  · cases hv; cases hA
  · cases hv
    cases hA
    refine ⟨_, rfl, ?_⟩
    rw [hc]
    have := (List.getElem?_eq_some_iff.1 hu).2
    rw [this]
theorem FieldsAt.of_own {w : World} {base : Nat} {e : TypeId} {v : Value} {F : List FZ} (h : w.ownsRow base e 2 v F.length (fcells F)) : FieldsAt w v F := by
  obtain ⟨A, c, rfl, h1, h2, h3⟩ := own_form h
  refine ⟨A, c, rfl, h1, h2, fun i hi => ?_⟩
  obtain ⟨q1, q2⟩ := fcells_at hi
  obtain ⟨g, hA, c1⟩ := h3 _ _ q1
  obtain ⟨g', hA', c2⟩ := h3 _ _ q2
  subst hA
  cases hA'
  exact ⟨g, 0, rfl, c1, c2⟩
theorem ValsAt.of_own {w : World} {base : Nat} {e : TypeId} {v : Value} {V : List VZ} (h : w.ownsRow base e 4 v V.length (vcells V)) : ValsAt w v V := by
  obtain ⟨A, c, rfl, h1, h2, h3⟩ := own_form h
  refine ⟨A, c, rfl, h1, h2, fun i hi => ?_⟩
  obtain ⟨q1, q2, q3, q4⟩ := vcells_at hi
  obtain ⟨g, hA, c1⟩ := h3 _ _ q1
  obtain ⟨g', hA', c2⟩ := h3 _ _ q2
  obtain ⟨g3, hA3, c3⟩ := h3 _ _ q3
  obtain ⟨g4, hA4, c4⟩ := h3 _ _ q4
  subst hA
  cases hA'
  cases hA3
  cases hA4
  exact ⟨g, 0, rfl, c1, c2, c3, c4⟩
theorem info4 : (Tryz.prog.info? 44).map (fun i => (i.zero, i.size, i.bytes)) = some (some (.agg #[.int .u8 0, .int .i64 0, .int .u64 0, .string ⟨#[]⟩]), 4, 40) := by kernel_rfl

set_option maxRecDepth 100000 in
set_option maxHeartbeats 4000000 in
theorem vals_own (V : List VZ) (v : Value) (w : World) (hv : ValsAt w v V) (h12 : V.length ≤ 12) : Calls Tryz.prog 25 #[v] w (fun e w' => ∃ u, e = .returned u ∧ w'.ownsRow w.heap.size 44 4 u V.length (vcells V) ∧ Ext w w') := by
  have HV := hid hv
  obtain ⟨A, c, rfl, q1, q2, _⟩ := hv
  obtain ⟨i0, hi0, hz0, hz1, hz2⟩ := info_parts info4
  go_enter Tryz.func25, Tryz.ntmps25
  go_wp2_with fail
  go_loopw [3, 4] (fun x y wr => ∃ i : Nat, i ≤ V.length ∧ y = .int .i64 (i : Int) ∧ wr.ownsRow w.heap.size 44 4 x i (vcells (V.take i)) ∧ Ext w wr)
    (fun _ y _ => V.length - (intOf y).toNat)
  case atStart => exact ⟨0, by omega, rfl, World.ownsRow_nil _ _ _ _, Ext.refl _⟩
  case round =>
    obtain ⟨i, hi, rfl, hown, hext⟩ := hrel
    have HE := hid hext
    have hsz := hext.size
    have HO := hid hown
    clear hext hown
    by_cases hlt : i < V.length
    · obtain ⟨g, o, c', e1, v0, v1, v2, v3⟩ := (HV.out.ext HE.out).open_ hlt
      obtain ⟨rfl, rfl⟩ : A = some ⟨g, o, none⟩ ∧ c = c' := by simpa using e1
      have hstep : vcells (V.take (i + 1)) = vcells (V.take i) ++ [.int .u8 (V[i].k : Int), .int .i64 V[i].n, .int .u64 (V[i].b : Int), .string V[i].t] := by
        rw [List.take_succ_eq_append_getElem hlt, vcells_append]
        rfl
      have HS := hid hstep
      generalize V[i] = T at *
      obtain ⟨k, n, b, t⟩ := T
      dsimp only at *
      clear e1 hstep
      go_wp2_with (at_builtin; refine Go.wpList_append_lies _ rfl (.tmp 11) (.tmp 16) 32 rfl w.heap.size 44 i0 (.agg #[.int .u8 0, .int .i64 0, .int .u64 0, .string ⟨#[]⟩]) 4 40 Tryz.underlying32 hi0 hz0 hz1 hz2 rfl (by decide) _ i _ rfl (HO.out.alloc _) ⟨wr.heap.size, 0, none⟩ 1 1 [.int .u8 (k : Int), .int .i64 n, .int .u64 (b : Int), .string t] rfl rfl (fun j u h => World.news_of_block (heap_alloc_new wr _) j u h) (by intro u hu; simp at hu; rcases hu with rfl | rfl | rfl | rfl <;> rfl) (by decide) (by unfold maxLen; omega) (by omega) (by simp; omega) _ rfl ?_; intro g9 cap9 w9 hown9 hgrow9 hat9 hlt9)
      have HG := hid ((HE.out.then_alloc _).grown hgrow9 (fun k hk => own_block_ge HO.out k hk))
      have HW := hid hown9
      clear hgrow9 hown9 hat9 hlt9
      go_roundw
      case rel => exact ⟨i + 1, by omega, by go_num, by rw [HS.out]; exact HW.out, HG.out⟩
      case measure => simp only [intOf]; omega
    · have hi' : i = V.length := by omega
      subst hi'
      have HW := hid (List.take_length (l := V) ▸ HO.out)
      go_wp2_with fail
      go_ret
      exact ⟨_, rfl, HW.out, HE.out⟩
end Go.Proofs.YtnldgmpfinlikaaGreat

/- Rows of types that a call has built: each type's fields lie in a block of their own. Conditions: none. -/
namespace Go.Proofs.YtnldgmpfinlikaaGreat
open Go Go.RowKit

/-- the cells of types in a row, their fields lying behind these slices -/
def tcells (L : List TZ) (R : List Value) : List Value := (L.zip R).flatMap fun p => [.string p.1.n, p.2]
theorem tcells_append (L M : List TZ) (R S : List Value) (h : R.length = L.length) : tcells (L ++ M) (R ++ S) = tcells L R ++ tcells M S := by
  unfold tcells
  rw [List.zip_append h.symm, List.flatMap_append]
theorem tcells_at : ∀ {L : List TZ} {R : List Value} {i : Nat} (h : R.length = L.length) (hi : i < L.length), (tcells L R)[i * 2]? = some (.string L[i].n) ∧ (tcells L R)[i * 2 + 1]? = some (R[i]'(by omega))
  | [], _, _, _, hi => absurd hi (Nat.not_lt_zero _)
  | _ :: _, [], _, h, _ => by cases h
  | t :: L, r :: R, 0, _, _ => ⟨rfl, rfl⟩
  | t :: L, r :: R, i + 1, h, hi => by
    have ih := tcells_at (L := L) (R := R) (i := i) (Nat.succ.inj h) (Nat.lt_of_succ_lt_succ hi)
    have e : (tcells (t :: L) (r :: R)) = .string t.n :: r :: tcells L R := rfl
    rw [e]
    constructor
    · rw [show (i + 1) * 2 = i * 2 + 1 + 1 by omega, List.getElem?_cons_succ, List.getElem?_cons_succ, ih.1]
      rfl
    · rw [show (i + 1) * 2 + 1 = i * 2 + 1 + 1 + 1 by omega, List.getElem?_cons_succ, List.getElem?_cons_succ, ih.2]
      rfl

/-- a slice of fields is none of this block's -/
def Apart (r : Value) (F : List FZ) (v : Value) : Prop := F ≠ [] → ∀ g o n c, r = .slice (some ⟨g, o, none⟩) n c → v.ownBlock ≠ some g
/-- types that a call has built -/
def Built (w : World) (base : Nat) (e : TypeId) (v : Value) (L : List TZ) : Prop :=
  ∃ R : List Value, R.length = L.length ∧ w.ownsRow base e 2 v L.length (tcells L R) ∧ ∀ i (h : i < L.length) (hr : i < R.length), FieldsAt w R[i] L[i].f ∧ Apart R[i] L[i].f v

theorem Built.nil (w : World) (base : Nat) (e : TypeId) : Built w base e (.slice none 0 0) [] := ⟨[], rfl, World.ownsRow_nil _ _ _ _, fun _ h => absurd h (Nat.not_lt_zero _)⟩
theorem Built.types {w : World} {base : Nat} {e : TypeId} {v : Value} {L : List TZ} (h : Built w base e v L) : TypesAt w v L := by
  obtain ⟨R, hl, hown, hR⟩ := h
  obtain ⟨A, c, rfl, h1, h2, h3⟩ := own_form hown
  refine ⟨A, c, rfl, h1, h2, fun i hi => ?_⟩
  obtain ⟨q1, q2⟩ := tcells_at hl hi
  obtain ⟨g, hA, c1⟩ := h3 _ _ q1
  obtain ⟨g', hA', c2⟩ := h3 _ _ q2
  subst hA
  cases hA'
  exact ⟨g, 0, _, rfl, c1, c2, (hR i hi (by omega)).1⟩
/-- behind what only makes new blocks, it is as it was -/
theorem Built.ext {w w' : World} {base : Nat} {e : TypeId} {v : Value} {L : List TZ} (h : Built w base e v L) (hx : Ext w w') : Built w' base e v L := by
  obtain ⟨R, hl, hown, hR⟩ := h
  refine ⟨R, hl, own_later hown hx, fun i h1 h2 => ?_⟩
  obtain ⟨q1, q2⟩ := hR i h1 h2
  exact ⟨q1.ext hx, q2⟩
/-- fields that lie apart from a row are kept where that row has grown -/
theorem FieldsAt.grown {w w' : World} {row : Option Nat} {r : Value} {F : List FZ} (h : FieldsAt w r F) (hg : w.grownBy w' row) (ha : F ≠ [] → ∀ g o n c, r = .slice (some ⟨g, o, none⟩) n c → row ≠ some g) : FieldsAt w' r F := by
  obtain ⟨A, c, rfl, h1, h2, h3⟩ := h
  refine ⟨A, c, rfl, h1, h2, fun i hi => ?_⟩
  obtain ⟨g, o, rfl, q1, q2⟩ := h3 i hi
  have hne : some g ≠ row := fun e => ha (by rintro rfl; exact absurd hi (Nat.not_lt_zero _)) g o _ _ rfl e.symm
  exact ⟨g, o, rfl, hg.cell q1 hne, hg.cell q2 hne⟩
theorem FieldsAt.lt {w : World} {F : List FZ} {g o n c : Nat} (h : FieldsAt w (.slice (some ⟨g, o, none⟩) n c) F) (hF : F ≠ []) : g < w.heap.size := by
  obtain ⟨A, c, e, h1, h2, h3⟩ := h
  obtain ⟨g', o', hA, q1, _⟩ := h3 0 (List.length_pos_iff.2 hF)
  cases e
  cases hA
  exact World.block_lt_of_cell? w _ q1

/-- one type more -/
theorem Built.more {w w1 w2 : World} {base : Nat} {e : TypeId} {v v' : Value} {L : List TZ} {R : List Value} {t : TZ} {r : Value}
    (hl : R.length = L.length) (hRR : ∀ i (h : i < L.length) (hr : i < R.length), FieldsAt w R[i] L[i].f ∧ Apart R[i] L[i].f v) (hr : FieldsAt w r t.f) (ha : Apart r t.f v) (hx : Ext w w1) (hg : w1.grownBy w2 v.ownBlock)
    (hb : v.ownBlock = v'.ownBlock ∨ v'.ownBlock = some w1.heap.size)
    (h2 : w2.ownsRow base e 2 v' (L.length + 1) (tcells L R ++ [.string t.n, r])) :
    Built w2 base e v' (L ++ [t]) := by
  refine ⟨R ++ [r], by simp [hl], ?_, fun i h1 h3 => ?_⟩
  · rw [tcells_append _ _ _ _ hl]
    have : (L ++ [t]).length = L.length + 1 := by simp
    rw [this]
    exact h2
  · have key : ∀ (r' : Value) (F : List FZ), FieldsAt w r' F → Apart r' F v → FieldsAt w2 r' F ∧ Apart r' F v' := by
      intro r' F hf hap
      refine ⟨(hf.ext hx).grown hg (fun hF g o n c e => hap hF g o n c e), fun hF g o n c e => ?_⟩
      subst e
      have hlt := (hf.ext hx).lt hF
      rcases hb with hb | hb
      · rw [← hb]; exact hap hF g o n c rfl
      · rw [hb]
        intro e
        have := Option.some.inj e
        omega
    by_cases hi : i < L.length
    · rw [List.getElem_append_left (by omega), List.getElem_append_left hi]
      exact key _ _ (hRR i hi (by omega)).1 (hRR i hi (by omega)).2
    · have : i = L.length := by simp at h1; omega
      subst this
      rw [List.getElem_append_right (by omega), List.getElem_append_right (by omega)]
      simp only [hl, Nat.sub_self, List.getElem_cons_zero]
      exact key _ _ hr ha
/-- a block that stood is kept where a row has grown that lies behind it -/
theorem grown_block {w W w1 : World} {base S : Nat} {o : Obj} {row : Option Nat} (hx : Ext w W) (hg : W.grownBy w1 row) (hr : ∀ k, row = some k → base ≤ k) (hb : w.heap[S]? = some o) (hS : S < base) : w1.heap[S]? = some o := by
  have hW := hx.block hb
  have hlt : S < W.heap.size := (Array.getElem?_eq_some_iff.1 hW).1
  exact (hg.block S hlt (fun e => by have := hr S e.symm; omega)).trans hW
theorem own_block_lt {w : World} {base : Nat} {e : TypeId} {size n : Nat} {v : Value} {xs : List Value} (h : w.ownsRow base e size v n xs) : ∀ k, v.ownBlock = some k → k < w.heap.size := fun k hk => by
  rcases h.2 with ⟨rfl, _⟩ | ⟨g, cap, cur, rfl, _, hg, _⟩
  · cases hk
  · cases hk
    exact (Array.getElem?_eq_some_iff.1 hg).1
/-- fields that were built behind a block lie apart from a row ahead of it -/
theorem apart_own {w : World} {S : Nat} {e : TypeId} {r v : Value} {n : Nat} {F : List FZ} {xs : List Value} (h : w.ownsRow (S + 1) e 2 r n xs) (hv : ∀ k, v.ownBlock = some k → k < S) : Apart r F v := by
  intro _ g o n' c e he
  subst e
  have h1 := hv g he
  rcases h.2 with ⟨h2, _⟩ | ⟨g', cap, cur, h2, h3, _⟩
  · cases h2
  · cases h2
    omega
end Go.Proofs.YtnldgmpfinlikaaGreat

/- Events in memory: rows of events, each with its values' row; rows that a call has built. Conditions: none. -/
namespace Go.Proofs.YtnldgmpfinlikaaGreat
open Go Go.RowKit

/-- the cells of an event, its values lying behind this slice -/
def ecell (e : EZ) (r : Value) : List Value := [.int .i64 e.m, .int .i64 e.o, .int .i64 e.q, .string e.n, r]
def ecells (L : List EZ) (R : List Value) : List Value := (L.zip R).flatMap fun x => ecell x.1 x.2
/-- an event as a value -/
def EventV (w : World) (v : Value) (e : EZ) : Prop := ∃ r, v = .agg #[.int .i64 e.m, .int .i64 e.o, .int .i64 e.q, .string e.n, r] ∧ ValsAt w r e.v
/-- the values of these events lie behind these slices -/
def RowsAt (w : World) (R : List Value) (L : List EZ) : Prop := R.length = L.length ∧ ∀ i (h : i < L.length) (hr : i < R.length), ValsAt w R[i] L[i].v
/-- events lie behind this slice, their values behind these -/
def EventsR (w : World) (v : Value) (L : List EZ) (R : List Value) : Prop :=
  ∃ A c, v = .slice A L.length c ∧ L.length ≤ c ∧ c ≤ maxLen ∧ RowsAt w R L ∧
    ∀ i (h : i < L.length) (hr : i < R.length), ∃ g o, A = some ⟨g, o, none⟩ ∧ w.cell? ⟨g, o + i * 5, none⟩ = some (.int .i64 L[i].m) ∧ w.cell? ⟨g, o + i * 5 + 1, none⟩ = some (.int .i64 L[i].o) ∧
      w.cell? ⟨g, o + i * 5 + 2, none⟩ = some (.int .i64 L[i].q) ∧ w.cell? ⟨g, o + i * 5 + 3, none⟩ = some (.string L[i].n) ∧ w.cell? ⟨g, o + i * 5 + 4, none⟩ = some R[i]
def EventsAt (w : World) (v : Value) (L : List EZ) : Prop := ∃ R, EventsR w v L R

theorem EventV.ext {w w' : World} {v : Value} {e : EZ} (h : EventV w v e) (x : Ext w w') : EventV w' v e := by
  obtain ⟨r, h1, h2⟩ := h
  exact ⟨r, h1, h2.ext x⟩
theorem RowsAt.ext {w w' : World} {R : List Value} {L : List EZ} (h : RowsAt w R L) (x : Ext w w') : RowsAt w' R L := ⟨h.1, fun i h1 h2 => (h.2 i h1 h2).ext x⟩
theorem EventsR.ext {w w' : World} {v : Value} {L : List EZ} {R : List Value} (h : EventsR w v L R) (x : Ext w w') : EventsR w' v L R := by
  obtain ⟨A, c, rfl, h1, h2, h3, h4⟩ := h
  refine ⟨A, c, rfl, h1, h2, h3.ext x, fun i hi hr => ?_⟩
  obtain ⟨g, o, hA, q0, q1, q2, q3, q4⟩ := h4 i hi hr
  exact ⟨g, o, hA, x.cell q0, x.cell q1, x.cell q2, x.cell q3, x.cell q4⟩
theorem EventsAt.ext {w w' : World} {v : Value} {L : List EZ} (h : EventsAt w v L) (x : Ext w w') : EventsAt w' v L := by
  obtain ⟨R, h⟩ := h
  exact ⟨R, h.ext x⟩
theorem EventsAt.nil (w : World) : EventsAt w (.slice none 0 0) [] := ⟨[], none, 0, rfl, Nat.le_refl _, by unfold maxLen; omega, ⟨rfl, fun _ h => absurd h (Nat.not_lt_zero _)⟩, fun _ h => absurd h (Nat.not_lt_zero _)⟩
/-- one of them, by its cells -/
theorem EventsAt.open_ {w : World} {v : Value} {L : List EZ} (h : EventsAt w v L) {i : Nat} (hi : i < L.length) :
    ∃ g o c r, v = .slice (some ⟨g, o, none⟩) L.length c ∧ L.length ≤ c ∧ c ≤ maxLen ∧ w.cell? ⟨g, o + i * 5, none⟩ = some (.int .i64 L[i].m) ∧ w.cell? ⟨g, o + i * 5 + 1, none⟩ = some (.int .i64 L[i].o) ∧
      w.cell? ⟨g, o + i * 5 + 2, none⟩ = some (.int .i64 L[i].q) ∧ w.cell? ⟨g, o + i * 5 + 3, none⟩ = some (.string L[i].n) ∧ w.cell? ⟨g, o + i * 5 + 4, none⟩ = some r ∧ ValsAt w r L[i].v := by
  obtain ⟨R, A, c, rfl, h1, h2, h3, h4⟩ := h
  have hr : i < R.length := by rw [h3.1]; exact hi
  obtain ⟨g, o, rfl, q0, q1, q2, q3, q4⟩ := h4 i hi hr
  exact ⟨g, o, c, _, rfl, h1, h2, q0, q1, q2, q3, q4, h3.2 i hi hr⟩
theorem EventsAt.shape {w : World} {v : Value} {L : List EZ} (h : EventsAt w v L) : ∃ A c, v = .slice A L.length c ∧ L.length ≤ c ∧ c ≤ maxLen := by
  obtain ⟨R, A, c, rfl, h1, h2, _⟩ := h
  exact ⟨A, c, rfl, h1, h2⟩

theorem ecells_cons (e : EZ) (L : List EZ) (r : Value) (R : List Value) : ecells (e :: L) (r :: R) = ecell e r ++ ecells L R := rfl
theorem ecells_len : ∀ (L : List EZ) (R : List Value), R.length = L.length → (ecells L R).length = L.length * 5
  | [], [], _ => rfl
  | [], _ :: _, h => by cases h
  | _ :: _, [], h => by cases h
  | e :: L, r :: R, h => by
    rw [ecells_cons, List.length_append, ecells_len L R (Nat.succ.inj h), List.length_cons]
    show 5 + L.length * 5 = (L.length + 1) * 5
    omega
theorem ecells_append (L M : List EZ) (R S : List Value) (h : R.length = L.length) : ecells (L ++ M) (R ++ S) = ecells L R ++ ecells M S := by
  unfold ecells
  rw [List.zip_append h.symm, List.flatMap_append]
theorem ecells_one : ∀ (L : List EZ) (R : List Value), (∀ r ∈ R, r.oneCell' = true) → ∀ u ∈ ecells L R, u.oneCell' = true := by
  intro L R hR u hu
  obtain ⟨x, hx, h⟩ := List.mem_flatMap.1 hu
  have hr := hR x.2 (List.of_mem_zip hx).2
  simp only [ecell, List.mem_cons, List.not_mem_nil, or_false] at h
  rcases h with rfl | rfl | rfl | rfl | rfl
  · rfl
  · rfl
  · rfl
  · rfl
  · exact hr
theorem ecells_at : ∀ {L : List EZ} {R : List Value} {i : Nat} (h : R.length = L.length) (hi : i < L.length), ∀ k u, (ecell L[i] (R[i]'(by omega)))[k]? = some u → (ecells L R)[i * 5 + k]? = some u
  | [], _, _, _, hi, _, _, _ => absurd hi (Nat.not_lt_zero _)
  | _ :: _, [], _, h, _, _, _, _ => by cases h
  | e :: L, r :: R, 0, _, _, k, u, hk => by
    have hk2 : (ecell e r)[k]? = some u := hk
    rw [ecells_cons, Nat.zero_mul, Nat.zero_add, List.getElem?_append_left (List.getElem?_eq_some_iff.1 hk2).1]
    exact hk2
  | e :: L, r :: R, i + 1, h, hi, k, u, hk => by
    have ih := ecells_at (L := L) (R := R) (i := i) (Nat.succ.inj h) (Nat.lt_of_succ_lt_succ hi) k u hk
    rw [ecells_cons, List.getElem?_append_right (by show 5 ≤ _; omega)]
    have : (i + 1) * 5 + k - (ecell e r).length = i * 5 + k := by show (i + 1) * 5 + k - 5 = _; omega
    rw [this]
    exact ih
/-- a cell of the row, by its event -/
theorem ecells_of {L : List EZ} {R : List Value} (h : R.length = L.length) {j : Nat} {u : Value} (hu : (ecells L R)[j]? = some u) : ∃ hi : j / 5 < L.length, (ecell L[j / 5] (R[j / 5]'(by omega)))[j % 5]? = some u := by
  have hj : j < L.length * 5 := by rw [← ecells_len L R h]; exact (List.getElem?_eq_some_iff.1 hu).1
  have hi : j / 5 < L.length := by omega
  refine ⟨hi, ?_⟩
  have hk : j % 5 < (ecell L[j / 5] (R[j / 5]'(by omega))).length := Nat.mod_lt _ (by omega)
  obtain ⟨x, hx⟩ : ∃ x, (ecell L[j / 5] (R[j / 5]'(by omega)))[j % 5]? = some x := ⟨_, List.getElem?_eq_getElem hk⟩
  have := ecells_at h hi _ _ hx
  rw [show j / 5 * 5 + j % 5 = j by omega, hu] at this
  rw [hx, ← this]

/-- a row lies as a list of cells -/
theorem EventsR.lies {w : World} {A : Option Addr} {c : Nat} {L : List EZ} {R : List Value} (h : EventsR w (.slice A L.length c) L R) : Lies w A (ecells L R) := fun hne => by
  obtain ⟨A', c', e0, h1, h2, h3, h4⟩ := h
  cases e0
  have h0 : 0 < L.length := by
    rcases Nat.eq_zero_or_pos L.length with h | h
    · exact absurd (List.eq_nil_of_length_eq_zero (by rw [ecells_len L R h3.1, h])) hne
    · exact h
  obtain ⟨g, o, rfl, _⟩ := h4 0 h0 (by rw [h3.1]; exact h0)
  refine ⟨_, rfl, fun j u hu => ?_⟩
  obtain ⟨hi, hk⟩ := ecells_of h3.1 hu
  obtain ⟨g', o', e1, q0, q1, q2, q3, q4⟩ := h4 (j / 5) hi (by rw [h3.1]; exact hi)
  obtain ⟨rfl, rfl⟩ : g = g' ∧ o = o' := by simpa using e1
  rw [Addr.add_lit, show o + j = o + j / 5 * 5 + j % 5 by omega]
  have hm : j % 5 = 0 ∨ j % 5 = 1 ∨ j % 5 = 2 ∨ j % 5 = 3 ∨ j % 5 = 4 := by omega
  rcases hm with e | e | e | e | e
  all_goals
    rw [e] at hk ⊢
    rw [← hk]
    assumption
/-- events out of a list of cells -/
theorem EventsR.of_lies {w : World} {A : Option Addr} {c : Nat} {L : List EZ} {R : List Value} (hl : ∀ j u, (ecells L R)[j]? = some u → ∃ g o, A = some ⟨g, o, none⟩ ∧ w.cell? ⟨g, o + j, none⟩ = some u) (hR : RowsAt w R L) (h1 : L.length ≤ c) (h2 : c ≤ maxLen) : EventsR w (.slice A L.length c) L R := by
  refine ⟨A, c, rfl, h1, h2, hR, fun i hi hr => ?_⟩
  have hc := ecells_at hR.1 hi
  obtain ⟨g, o, hA, p0⟩ := hl _ _ (hc 0 _ rfl)
  obtain ⟨g1, o1, hA1, p1⟩ := hl _ _ (hc 1 _ rfl)
  obtain ⟨g2, o2, hA2, p2⟩ := hl _ _ (hc 2 _ rfl)
  obtain ⟨g3, o3, hA3, p3⟩ := hl _ _ (hc 3 _ rfl)
  obtain ⟨g4, o4, hA4, p4⟩ := hl _ _ (hc 4 _ rfl)
  subst hA
  obtain ⟨rfl, rfl⟩ : g = g1 ∧ o = o1 := by simpa using hA1
  obtain ⟨rfl, rfl⟩ : g = g2 ∧ o = o2 := by simpa using hA2
  obtain ⟨rfl, rfl⟩ : g = g3 ∧ o = o3 := by simpa using hA3
  obtain ⟨rfl, rfl⟩ : g = g4 ∧ o = o4 := by simpa using hA4
  simp only [← Nat.add_assoc] at p0 p1 p2 p3 p4
  exact ⟨g, o, rfl, by simpa using p0, p1, p2, p3, p4⟩
theorem EventsR.of_own {w : World} {base : Nat} {e : TypeId} {v : Value} {L : List EZ} {R : List Value} (h : w.ownsRow base e 5 v L.length (ecells L R)) (hR : RowsAt w R L) : EventsR w v L R := by
  obtain ⟨A, c, rfl, h1, h2, h3⟩ := own_form h
  exact EventsR.of_lies (fun j u hu => by
    obtain ⟨g, hA, hc⟩ := h3 j u hu
    exact ⟨g, 0, hA, hc⟩) hR h1 h2

/-- a slice of values is none of this block's -/
def ApartV (r : Value) (V : List VZ) (v : Value) : Prop := V ≠ [] → ∀ g o n c, r = .slice (some ⟨g, o, none⟩) n c → v.ownBlock ≠ some g
/-- events that a call has built -/
def BuiltE (w : World) (base : Nat) (e : TypeId) (v : Value) (L : List EZ) (R : List Value) : Prop :=
  w.ownsRow base e 5 v L.length (ecells L R) ∧ RowsAt w R L ∧ ∀ i (h : i < L.length) (hr : i < R.length), ApartV R[i] L[i].v v
theorem BuiltE.nil (w : World) (base : Nat) (e : TypeId) : BuiltE w base e (.slice none 0 0) [] [] := ⟨World.ownsRow_nil _ _ _ _, ⟨rfl, fun _ h => absurd h (Nat.not_lt_zero _)⟩, fun _ h => absurd h (Nat.not_lt_zero _)⟩
theorem BuiltE.ext {w w' : World} {base : Nat} {e : TypeId} {v : Value} {L : List EZ} {R : List Value} (h : BuiltE w base e v L R) (hx : Ext w w') : BuiltE w' base e v L R := ⟨own_later h.1 hx, h.2.1.ext hx, h.2.2⟩
theorem ValsAt.grown {w w' : World} {row : Option Nat} {r : Value} {V : List VZ} (h : ValsAt w r V) (hg : w.grownBy w' row) (ha : V ≠ [] → ∀ g o n c, r = .slice (some ⟨g, o, none⟩) n c → row ≠ some g) : ValsAt w' r V := by
  obtain ⟨A, c, rfl, h1, h2, h3⟩ := h
  refine ⟨A, c, rfl, h1, h2, fun i hi => ?_⟩
  obtain ⟨g, o, rfl, q1, q2, q3, q4⟩ := h3 i hi
  have hne : some g ≠ row := fun e => ha (by rintro rfl; exact absurd hi (Nat.not_lt_zero _)) g o _ _ rfl e.symm
  exact ⟨g, o, rfl, hg.cell q1 hne, hg.cell q2 hne, hg.cell q3 hne, hg.cell q4 hne⟩
theorem ValsAt.lt {w : World} {V : List VZ} {g o n c : Nat} (h : ValsAt w (.slice (some ⟨g, o, none⟩) n c) V) (hV : V ≠ []) : g < w.heap.size := by
  obtain ⟨A, c, e, h1, h2, h3⟩ := h
  obtain ⟨g', o', hA, q1, _⟩ := h3 0 (List.length_pos_iff.2 hV)
  cases e
  cases hA
  exact World.block_lt_of_cell? w _ q1
/-- some events more -/
theorem BuiltE.more {w w1 w2 : World} {base : Nat} {e : TypeId} {v v' : Value} {L M : List EZ} {R S : List Value}
    (hb : BuiltE w base e v L R) (hS : RowsAt w S M) (ha : ∀ i (h : i < M.length) (hr : i < S.length), ApartV S[i] M[i].v v) (hx : Ext w w1) (hg : w1.grownBy w2 v.ownBlock)
    (hbl : v.ownBlock = v'.ownBlock ∨ v'.ownBlock = some w1.heap.size)
    (h2 : w2.ownsRow base e 5 v' (L.length + M.length) (ecells L R ++ ecells M S)) :
    BuiltE w2 base e v' (L ++ M) (R ++ S) := by
  obtain ⟨hown, hR, hA⟩ := hb
  have key : ∀ (r' : Value) (V : List VZ), ValsAt w r' V → ApartV r' V v → ValsAt w2 r' V ∧ ApartV r' V v' := by
    intro r' V hf hap
    refine ⟨(hf.ext hx).grown hg (fun hF g o n c e => hap hF g o n c e), fun hF g o n c e => ?_⟩
    subst e
    have hlt := (hf.ext hx).lt hF
    rcases hbl with hbl | hbl
    · rw [← hbl]; exact hap hF g o n c rfl
    · rw [hbl]
      intro e
      have := Option.some.inj e
      omega
  have hlen : (R ++ S).length = (L ++ M).length := by rw [List.length_append, List.length_append, hR.1, hS.1]
  have both : ∀ i (h : i < (L ++ M).length) (hr : i < (R ++ S).length), ValsAt w2 (R ++ S)[i] (L ++ M)[i].v ∧ ApartV (R ++ S)[i] (L ++ M)[i].v v' := by
    intro i h hr
    by_cases hi : i < L.length
    · rw [List.getElem_append_left (by rw [hR.1]; exact hi), List.getElem_append_left hi]
      exact key _ _ (hR.2 i hi (by rw [hR.1]; exact hi)) (hA i hi (by rw [hR.1]; exact hi))
    · rw [List.length_append] at h
      rw [List.getElem_append_right (by rw [hR.1]; omega), List.getElem_append_right (by omega)]
      simp only [hR.1]
      exact key _ _ (hS.2 _ (by omega) (by rw [hS.1]; omega)) (ha _ (by omega) (by rw [hS.1]; omega))
  refine ⟨?_, ⟨hlen, fun i h hr => (both i h hr).1⟩, fun i h hr => (both i h hr).2⟩
  rw [ecells_append _ _ _ _ hR.1, List.length_append]
  exact h2
end Go.Proofs.YtnldgmpfinlikaaGreat

/- Events that came in, opened. Conditions: none. -/
namespace Go.Proofs.YtnldgmpfinlikaaGreat
open Go Go.RowKit Go.ChangeShapes Go.WideShapes Go.ChangeAt Go.Deep

/-- an event within its kinds -/
def EventOk (e : EZ) : Prop := (-9223372036854775808 ≤ e.m ∧ e.m ≤ 9223372036854775807) ∧ (-9223372036854775808 ≤ e.o ∧ e.o ≤ 9223372036854775807) ∧ (-9223372036854775808 ≤ e.q ∧ e.q ≤ 9223372036854775807) ∧ e.n.size ≤ 9223372036854775807 ∧ ValsOk e.v
def EventsOk (L : List EZ) : Prop := ∀ e ∈ L, EventOk e

theorem trod_five {H : Type} {enc : TypeId × Value → H} {P : Program} {w : World} {base : Nat} {spare : Nat → Bool} {held : Bool} {t : TypeId} {f0 f1 f2 f3 f4 : Field} {fuel : Nat} {cs : List Value} {x : DataW H × List MemPlace} (ht : P.underlying t = some (.struct #[f0, f1, f2, f3, f4])) (h : DataW.trod enc P w base spare held fuel t cs = some x) :
    ∃ y0 y1 y2 y3 y4 n, DataW.trod enc P w base spare held n f0.type ((cs.drop f0.offset).take (P.cellsOf f0.type)) = some y0 ∧
      DataW.trod enc P w base spare held n f1.type ((cs.drop f1.offset).take (P.cellsOf f1.type)) = some y1 ∧ DataW.trod enc P w base spare held n f2.type ((cs.drop f2.offset).take (P.cellsOf f2.type)) = some y2 ∧
      DataW.trod enc P w base spare held n f3.type ((cs.drop f3.offset).take (P.cellsOf f3.type)) = some y3 ∧ DataW.trod enc P w base spare held n f4.type ((cs.drop f4.offset).take (P.cellsOf f4.type)) = some y4 := by
  obtain ⟨xs, n, _, rfl, hl, hlen, hf⟩ := DataW.trod_struct ht h
  match xs, hlen with
  | [y0, y1, y2, y3, y4], _ => exact ⟨y0, y1, y2, y3, y4, n, by simpa using hf 0 f0 rfl, by simpa using hf 1 f1 rfl, by simpa using hf 2 f2 rfl, by simpa using hf 3 f3 rfl, by simpa using hf 4 f4 rfl⟩
theorem array_five {α : Type} {cs : Array α} (h : cs.size = 5) : ∃ c0 c1 c2 c3 c4, cs = #[c0, c1, c2, c3, c4] := by
  obtain ⟨l⟩ := cs
  match l, h with
  | [c0, c1, c2, c3, c4], _ => exact ⟨c0, c1, c2, c3, c4, rfl⟩

section opened
variable {H : Type} {enc : TypeId × Value → H} {W : World}

set_option maxRecDepth 100000 in
theorem cells_event {m : Nat} {c0 c1 c2 c3 c4 : Value} {y : DataW H × List MemPlace}
    (h : DataW.trod enc Tryz.prog W 0 (fun _ => true) true m 25 [c0, c1, c2, c3, c4] = some y) :
    ∃ e : EZ, c0 = .int .i64 e.m ∧ c1 = .int .i64 e.o ∧ c2 = .int .i64 e.q ∧ c3 = .string e.n ∧ ValsAt W c4 e.v ∧ EventOk e := by
  obtain ⟨y0, y1, y2, y3, y4, q, h0, h1, h2, h3, h4⟩ := trod_five Tryz.underlying25 h
  obtain ⟨a, e0, _, wa⟩ := DataW.trod_int Tryz.underlying3 h0
  obtain ⟨b, e1, _, wb⟩ := DataW.trod_int Tryz.underlying3 h1
  obtain ⟨c, e2, _, wc⟩ := DataW.trod_int Tryz.underlying3 h2
  obtain ⟨t, e3, _, ht⟩ := DataW.trod_string Tryz.underlying9 h3
  have ba := bounds_i64 wa
  have bb := bounds_i64 wb
  have bc := bounds_i64 wc
  have k1 : Tryz.prog.cellsOf 3 = 1 := by kernel_rfl
  have k3 : Tryz.prog.cellsOf 9 = 1 := by kernel_rfl
  have k4 : Tryz.prog.cellsOf 23 = 1 := by kernel_rfl
  simp only [k1, List.drop_zero, List.take_succ_cons, List.take_zero, List.cons.injEq, and_true] at e0
  simp only [k1, List.drop_succ_cons, List.drop_zero, List.take_succ_cons, List.take_zero, List.cons.injEq, and_true] at e1 e2
  simp only [k3, List.drop_succ_cons, List.drop_zero, List.take_succ_cons, List.take_zero, List.cons.injEq, and_true] at e3
  simp only [k4, List.drop_succ_cons, List.drop_zero, List.take_succ_cons, List.take_zero] at h4
  obtain ⟨V, hV, hok⟩ := open_vals h4
  unfold maxLen at ht
  exact ⟨⟨a, b, c, t, V⟩, e0, e1, e2, e3, hV, ⟨ba.1, ba.2⟩, ⟨bb.1, bb.2⟩, ⟨bc.1, bc.2⟩, by show t.size ≤ _; omega, hok⟩

set_option maxRecDepth 100000 in
theorem open_event {base : Nat} {v : Value} {d : DataW H} {p : List MemPlace}
    (hv : Value.okWide Tryz.prog W .any base 25 v) (h : DataW.Trod enc Tryz.prog W 0 (fun _ => true) true 25 v d p) : ∃ e, EventV W v e ∧ EventOk e := by
  obtain ⟨cs, rfl, hsz⟩ := okWide_struct Tryz.underlying25 hv
  obtain ⟨c0, c1, c2, c3, c4, rfl⟩ := array_five (hsz.trans (show Tryz.prog.cellsOf 25 = 5 by kernel_rfl))
  obtain ⟨fuel, hf⟩ := h
  obtain ⟨e, rfl, rfl, rfl, rfl, h1, h2⟩ := cells_event (m := fuel) (by simpa [Value.cells] using hf)
  exact ⟨e, ⟨_, rfl, h1⟩, h2⟩

end opened
end Go.Proofs.YtnldgmpfinlikaaGreat

/- What may be of types is small: plain. Conditions: none. -/
namespace Go.Proofs.YtnldgmpfinlikaaGreat
open Go Go.RowKit

theorem name_le {s : ByteArray} (h : nameZ s = true) : s.size ≤ 12 := by
  unfold nameZ at h
  rw [Bool.and_eq_true, Bool.and_eq_true, decide_eq_true_iff] at h
  exact h.1.1.2
theorem fields_ok : ∀ (F ahead : List FZ), fieldsZ ahead F = 0 → ∀ f ∈ F, nameZ f.n = true ∧ 1 ≤ f.k ∧ f.k ≤ 4
  | [], _, _, f, hf => by cases hf
  | g :: r, ahead, h, f, hf => by
    unfold fieldsZ at h
    cases hn : nameZ g.n
    · rw [if_pos hn] at h; cases h
    · rw [if_neg (by rw [hn]; decide)] at h
      by_cases hk : g.k < 1 ∨ 4 < g.k
      · rw [if_pos hk] at h; cases h
      · rw [if_neg hk] at h
        split at h
        · cases h
        · rcases List.mem_cons.1 hf with rfl | hf
          · exact ⟨hn, by omega, by omega⟩
          · exact fields_ok r _ h f hf
theorem one_ok {t : TZ} (h : oneZ t = 0) : nameZ t.n = true ∧ t.f.length ≤ 6 ∧ fieldsZ [] t.f = 0 := by
  unfold oneZ at h
  cases hn : nameZ t.n
  · rw [if_pos hn] at h; cases h
  · rw [if_neg (by rw [hn]; decide)] at h
    by_cases h6 : 6 < t.f.length
    · rw [if_pos h6] at h; cases h
    · rw [if_neg h6] at h
      exact ⟨rfl, by omega, h⟩
theorem types_ok : ∀ (L ahead : List TZ), typesZ ahead L = 0 → ∀ t ∈ L, oneZ t = 0
  | [], _, _, t, ht => by cases ht
  | g :: r, ahead, h, t, ht => by
    unfold typesZ at h
    by_cases h1 : oneZ g = 0
    · rw [if_neg (fun e => e h1)] at h
      split at h
      · cases h
      · rcases List.mem_cons.1 ht with rfl | ht
        · exact h1
        · exact types_ok r _ h t ht
    · rw [if_pos h1] at h
      exact absurd h h1
theorem check_small {L : List TZ} (h : checkZ L = 0) : TypesSmall L := by
  unfold checkZ at h
  by_cases h8 : 8 < L.length
  · rw [if_pos h8] at h; cases h
  · rw [if_neg h8] at h
    refine ⟨by omega, fun t ht => ?_⟩
    obtain ⟨h1, h2, h3⟩ := one_ok (types_ok L [] h t ht)
    refine ⟨by have := name_le h1; omega, by omega, fun f hf => ?_⟩
    obtain ⟨q1, q2, q3⟩ := fields_ok t.f [] h3 f hf
    exact ⟨by have := name_le q1; omega, by omega⟩
end Go.Proofs.YtnldgmpfinlikaaGreat

