/- A region that draws its order, told by what holds once an operation has run: stores too. Conditions: none beyond those that the theorem states. -/
import Derived.Test.YtaahaehgdamkdaaReg
import Derived.Test.YtaahaehgdamkdaaMem
namespace Go.Proofs.Ytaahaehgdamkdaa
open Go Go.RowKit

/-- operation o waits for operation k, whatever the mode -/
def waitsB (o : Oper) (k : Nat) : Bool := o.after.any fun e => e.on == k && Region.binds .any e
theorem waitsB_spec {o : Oper} {k : Nat} (h : waitsB o k = true) : ∃ e ∈ o.after, e.on = k ∧ Region.binds .any e = true := by
  obtain ⟨e, he, hh⟩ := Array.any_eq_true'.1 h
  simp only [Bool.and_eq_true, beq_iff_eq] at hh
  exact ⟨e, he, hh.1, hh.2⟩

/-- edges point back, slots are apart, and what is told of an operation speaks of its own slot and of those that it waits for -/
def deepB (ops : Array Oper) (n : Nat) (rd : Nat → List Tmp) : Bool :=
  Region.noSelect ops &&
  (List.range ops.size).all fun i => match ops[i]? with
    | none => true
    | some o =>
      (o.after.all fun e => !Region.binds .any e || decide (e.on < i)) &&
      (match o.dst with
       | none => true
       | some d => decide (d < n) && (List.range ops.size).all fun k => k == i || rdst ops k != some d) &&
      (rd i).all fun t => (List.range ops.size).all fun k => rdst ops k != some t || k == i || waitsB o k

theorem deepB_at {ops : Array Oper} {n : Nat} {rd : Nat → List Tmp} (h : deepB ops n rd = true) {i : Nat} {o : Oper} (ho : ops[i]? = some o) :
    (∀ e ∈ o.after, Region.binds .any e = true → e.on < i) ∧ (∀ d, o.dst = some d → d < n ∧ ∀ k, rdst ops k = some d → k = i) ∧ (∀ t ∈ rd i, ∀ k, rdst ops k = some t → k = i ∨ waitsB o k = true) := by
  have hlt : ∀ k t, rdst ops k = some t → k < ops.size := by
    intro k t hk
    unfold rdst at hk
    rcases Nat.lt_or_ge k ops.size with hh | hh
    · exact hh
    · rw [Array.getElem?_eq_none hh] at hk; cases hk
  simp only [deepB, Bool.and_eq_true, List.all_eq_true, List.mem_range] at h
  have h1 := h.2 i (Array.getElem?_eq_some_iff.1 ho).1
  rw [ho] at h1
  simp only [Bool.and_eq_true] at h1
  refine ⟨fun e he hb => ?_, fun d hd => ?_, fun t ht k hk => ?_⟩
  · have h2 := Array.all_eq_true'.1 h1.1.1 e he
    simpa [hb] using h2
  · have h2 := h1.1.2
    rw [hd] at h2
    simp only [Bool.and_eq_true, decide_eq_true_eq, List.all_eq_true, List.mem_range] at h2
    refine ⟨h2.1, fun k hk => ?_⟩
    have h3 := h2.2 k (hlt k d hk)
    simpa [hk] using h3
  · have h2 := List.all_eq_true.1 (List.all_eq_true.1 h1.2 t ht) k (List.mem_range.2 (hlt k t hk))
    simpa [hk] using h2

/-- what holds in the middle of the region -/
structure DInv (ops : Array Oper) (Le : World → World → Prop) (D : Nat → (Nat → Value) → World → Prop) (a0 : Act) (w0 : World) (listed : Array Bool) (a : Act) (w : World) : Prop where
  le : Le w0 w
  defers : a.defers = a0.defers
  size : a.tmps.size = a0.tmps.size
  frame : ∀ t, (∀ k, rdst ops k ≠ some t) → a.tmps.getD t undef = a0.tmps.getD t undef
  closed : ∀ k o, listed.getD k false = true → ops[k]? = some o → ∀ e ∈ o.after, Region.binds .any e = true → listed.getD e.on false = true
  held : ∀ k, k < ops.size → listed.getD k false = true → D k (fun t => a.tmps.getD t undef) w

theorem DInv.step {ops : Array Oper} {Le : World → World → Prop} {D : Nat → (Nat → Value) → World → Prop} {rd : Nat → List Tmp} {a0 : Act} {w0 : World} {listed : Array Bool} {a : Act} {w w' : World} {i : Nat} {o : Oper} {v : Value}
    (htr : ∀ {x y z : World}, Le x y → Le y z → Le x z) (hst : ∀ k r x y, D k r x → Le x y → D k r y) (hrd : ∀ k r r' x, (∀ t ∈ rd k, r t = r' t) → D k r x → D k r' x)
    (hB : deepB ops a0.tmps.size rd = true) (ho : ops[i]? = some o) (hnot : listed.getD i false = false)
    (hall : ∀ e ∈ o.after, Region.binds .any e = true → listed.getD e.on false = true)
    (h : DInv ops Le D a0 w0 listed a w) (hle : Le w w') (hv : D i (fun t => (a.put o.dst v).tmps.getD t undef) w') : DInv ops Le D a0 w0 (listed.setIfInBounds i true) (a.put o.dst v) w' := by
  have hset : ∀ k, listed.getD k false = true → (listed.setIfInBounds i true).getD k false = true := by
    intro k hk
    by_cases hki : k = i
    · subst hki; rw [hk] at hnot; cases hnot
    · rwa [getD_set_ne false (Ne.symm hki)]
  refine ⟨htr h.le hle, (put_defs _ _ _).trans h.defers, (put_size _ _ _).trans h.size, fun t ht => ?_, fun k ok hk hok e he hb => ?_, fun k hks hk => ?_⟩
  · rw [put_getD_other _ _ _ _ (fun e => ht i (by unfold rdst; rw [ho]; exact e))]
    exact h.frame t ht
  · by_cases hki : k = i
    · subst hki
      rw [ho] at hok
      obtain rfl := Option.some.inj hok
      exact hset _ (hall e he hb)
    · have hk' : listed.getD k false = true := by rwa [getD_set_ne false (Ne.symm hki)] at hk
      exact hset _ (h.closed k ok hk' hok e he hb)
  · by_cases hki : k = i
    · subst hki; exact hv
    · have hk' : listed.getD k false = true := by rwa [getD_set_ne false (Ne.symm hki)] at hk
      refine hrd k _ _ _ (fun t ht => ?_) (hst _ _ _ _ (h.held k hks hk') hle)
      refine (put_getD_other _ _ _ _ (fun e => ?_)).symm
      have hok : ops[k]? = some ops[k] := Array.getElem?_eq_getElem hks
      rcases (deepB_at hB hok).2.2 t ht i (by unfold rdst; rw [ho]; exact e) with h1 | h1
      · exact hki h1.symm
      · obtain ⟨ed, hed, hon, hbd⟩ := waitsB_spec h1
        have h2 := h.closed k _ hk' hok ed hed hbd
        rw [hon, hnot] at h2
        cases h2

theorem wpAny_deep {P : Program} {ops : Array Oper} {Q : Exit → Act → World → Prop} {Le : World → World → Prop} {D : Nat → (Nat → Value) → World → Prop} {rd : Nat → List Tmp} {a0 : Act} {w0 : World}
    (htr : ∀ {x y z : World}, Le x y → Le y z → Le x z) (hst : ∀ k r x y, D k r x → Le x y → D k r y) (hrd : ∀ k r r' x, (∀ t ∈ rd k, r t = r' t) → D k r x → D k r' x)
    (hB : deepB ops a0.tmps.size rd = true)
    (hstep : ∀ i o, ops[i]? = some o → ∀ (a : Act) (w : World), Le w0 w → a.tmps.size = a0.tmps.size →
      (∀ t, (∀ k, rdst ops k ≠ some t) → a.tmps.getD t undef = a0.tmps.getD t undef) →
      (∀ k, waitsB o k = true → D k (fun t => a.tmps.getD t undef) w) →
      if Region.wanted o (yielded ops a.tmps) then o.wp P a w (fun a' w' => ∃ v, a' = a.put o.dst v ∧ Le w w' ∧ D i (fun t => (a.put o.dst v).tmps.getD t undef) w') (fun _ _ _ => False) else D i (fun t => (a.put o.dst undef).tmps.getD t undef) w)
    (hpost : ∀ a w, Le w0 w → a.defers = a0.defers → a.tmps.size = a0.tmps.size → (∀ t, (∀ k, rdst ops k ≠ some t) → a.tmps.getD t undef = a0.tmps.getD t undef) →
      (∀ k, k < ops.size → D k (fun t => a.tmps.getD t undef) w) → Q .normal a w)
    (hle0 : ∀ x, Le x x) :
    ∀ (fuel : Nat) (listed : Array Bool) (a : Act) (w : World), listed.size = ops.size → listed.count false ≤ fuel → DInv ops Le D a0 w0 listed a w → wpAny P .any ops Q fuel listed a w := by
  have hall : ∀ (listed : Array Bool) (a : Act) (w : World), listed.size = ops.size → (∀ i, i < ops.size → listed.getD i false = true) → DInv ops Le D a0 w0 listed a w → Q .normal a w :=
    fun listed a w _ hl h => hpost a w h.le h.defers h.size h.frame fun k hk => h.held k hk (hl k hk)
  have hdone : ∀ (listed : Array Bool), listed.size = ops.size → Region.ready .any ops listed = [] → ∀ i, i < ops.size → listed.getD i false = true := by
    intro listed hs hr i
    induction i using Nat.strongRecOn with
    | ind i ih =>
      intro hi
      cases hc : listed.getD i false with
      | true => rfl
      | false =>
        have hm : i ∈ Region.ready .any ops listed := by
          rw [mem_ready]
          refine ⟨?_, ops[i], Array.getElem?_eq_getElem hi, fun e he hb => ?_⟩
          · have : i < listed.size := by omega
            simp only [Array.getD, this, dite_true] at hc ⊢
            exact hc
          · have hlt := (deepB_at hB (Array.getElem?_eq_getElem hi)).1 e he hb
            exact ih e.on hlt (by omega)
        rw [hr] at hm
        cases hm
  intro fuel
  induction fuel with
  | zero =>
    intro listed a w hs hcnt h
    have hl : ∀ i, i < ops.size → listed.getD i false = true := by
      intro i hi
      cases hc : listed.getD i false with
      | true => rfl
      | false =>
        have hi' : i < listed.size := by omega
        have hmem : false ∈ listed := by
          simp only [Array.getD, hi', dite_true] at hc
          exact hc ▸ Array.getElem_mem hi'
        have := Array.count_pos_iff.2 hmem
        omega
    refine ⟨?_, hall listed a w hs hl h⟩
    refine List.eq_nil_iff_forall_not_mem.2 fun j hj => ?_
    obtain ⟨h0, o, ho, _⟩ := mem_ready.1 hj
    have hj' : j < ops.size := (Array.getElem?_eq_some_iff.1 ho).1
    have := hl j hj'
    have hj'' : j < listed.size := by omega
    simp only [Array.getD, hj'', dite_true] at this h0
    rw [this] at h0
    cases h0
  | succ fuel ih =>
    intro listed a w hs hcnt h
    refine ⟨fun hr => hall listed a w hs (hdone listed hs hr) h, fun i hi => ?_⟩
    obtain ⟨h0, o, ho, hedges⟩ := mem_ready.1 hi
    have hi' : i < ops.size := (Array.getElem?_eq_some_iff.1 ho).1
    have hil : i < listed.size := by omega
    have hif : listed[i] = false := by
      rw [Array.getD_eq_getD_getElem?, Array.getElem?_eq_getElem hil] at h0
      simpa using h0
    have hnot : listed.getD i false = false := by
      rw [Array.getD_eq_getD_getElem?, Array.getElem?_eq_getElem hil, hif]; rfl
    have hs' : (listed.setIfInBounds i true).size = ops.size := by simpa using hs
    have hcnt' : (listed.setIfInBounds i true).count false ≤ fuel := by
      have hpos : 0 < listed.count false := Array.count_pos_iff.2 (hif ▸ Array.getElem_mem hil)
      rw [Array.setIfInBounds_def, dif_pos hil]
      rw [Array.count_set]
      simp [hif]
      omega
    have hsees : ∀ k, waitsB o k = true → D k (fun t => a.tmps.getD t undef) w := by
      intro k hk
      obtain ⟨e, he, hek, hb⟩ := waitsB_spec hk
      have hlt := (deepB_at hB ho).1 e he hb
      exact h.held k (by omega) (hek ▸ hedges e he hb)
    have hs1 := hstep i o ho a w h.le h.size h.frame hsees
    unfold wpOp
    simp only [ho]
    by_cases hw : Region.wanted o (yielded ops a.tmps) = true
    · rw [if_pos hw] at hs1
      rw [if_pos hw]
      refine Or.inl ?_
      have hmono : o.wp P a w (wpAny P .any ops Q fuel (listed.setIfInBounds i true)) (fun _ _ _ => False) :=
        Oper.wp_mono (fun a' w' ⟨v, hv1, hv2, hv3⟩ => by
          subst hv1
          exact ih _ _ _ hs' hcnt' (h.step htr hst hrd hB ho hnot hedges hv2 hv3)) hs1
      revert hmono
      unfold Oper.wp
      generalize (execOp a.eval o).run P w = r
      intro hmono
      cases r with
      | ok n w' =>
        cases n <;> simp only [Oper.upon] at hmono ⊢
        all_goals first
          | exact hmono
          | exact Calls.mono hmono (fun e w'' he => by
              cases e with
              | returned v => exact he
              | panicked c => exact he.elim
              | outgrown => obtain ⟨_, _, hf⟩ := he; exact hf.elim)
      | halt x w' => cases x <;> simp only [Oper.upon] at hmono
    · rw [if_neg hw] at hs1
      rw [if_neg hw]
      exact ih _ _ _ hs' hcnt' (h.step htr hst hrd hB ho hnot hedges (hle0 w) hs1)

/-- what is asked of operation i in state a -/
def DStep (P : Program) (ops : Array Oper) (Le : World → World → Prop) (D : Nat → (Nat → Value) → World → Prop) (i : Nat) (o : Oper) (a : Act) (w : World) : Prop :=
  if Region.wanted o (yielded ops a.tmps) then o.wp P a w (fun a' w' => ∃ v, a' = a.put o.dst v ∧ Le w w' ∧ D i (fun t => (a.put o.dst v).tmps.getD t undef) w') (fun _ _ _ => False) else D i (fun t => (a.put o.dst undef).tmps.getD t undef) w

theorem dstep_run {P : Program} {ops : Array Oper} {Le : World → World → Prop} {D : Nat → (Nat → Value) → World → Prop} {i : Nat} {o : Oper} {a : Act} {w : World} (v : Value) (w' : World)
    (hw : Region.wanted o (yielded ops a.tmps) = true) (hr : (execOp a.eval o).run P w = .ok (.value v) w') (hle : Le w w') (hv : D i (fun t => (a.put o.dst v).tmps.getD t undef) w') : DStep P ops Le D i o a w := by
  unfold DStep
  rw [if_pos hw]
  unfold Oper.wp
  rw [hr]
  exact ⟨v, rfl, hle, hv⟩
theorem dstep_store {P : Program} {ops : Array Oper} {Le : World → World → Prop} {D : Nat → (Nat → Value) → World → Prop} {i : Nat} {o : Oper} {a : Act} {w : World} (w' : World)
    (hw : Region.wanted o (yielded ops a.tmps) = true) (hr : (execOp a.eval o).run P w = .ok .skip w') (hle : Le w w') (hv : D i (fun t => (a.put o.dst undef).tmps.getD t undef) w') : DStep P ops Le D i o a w := by
  unfold DStep
  rw [if_pos hw]
  unfold Oper.wp
  rw [hr]
  exact ⟨undef, rfl, hle, hv⟩
theorem dstep_call {P : Program} {ops : Array Oper} {Le : World → World → Prop} {D : Nat → (Nat → Value) → World → Prop} {i : Nat} {o : Oper} {a : Act} {w : World} (f : FuncId) (args : Array Value)
    (hw : Region.wanted o (yielded ops a.tmps) = true) (hr : (execOp a.eval o).run P w = .ok (.enter f args) w)
    (hc : Calls P f args w fun e w' => ∃ v, e = .returned v ∧ Le w w' ∧ D i (fun t => (a.put o.dst v).tmps.getD t undef) w') : DStep P ops Le D i o a w := by
  unfold DStep
  rw [if_pos hw]
  unfold Oper.wp
  rw [hr]
  refine Calls.mono hc ?_
  rintro e w' ⟨v, rfl, h1, h2⟩
  exact ⟨v, rfl, h1, h2⟩
theorem put_same (a : Act) (d : Tmp) (v : Value) (h : d < a.tmps.size) : (a.put (some d) v).tmps.getD d undef = v := put_getD_same a d v h

/-- the region by what holds once its operations have run -/
theorem wp_region_deep {P : Program} {ops : Array Oper} {id : Nat} {Q : Exit → Act → World → Prop} (Le : World → World → Prop) (D : Nat → (Nat → Value) → World → Prop) (rd : Nat → List Tmp) {a0 : Act} {w0 : World}
    (hm : P.follows .mixedOrders = true)
    (htr : ∀ {x y z : World}, Le x y → Le y z → Le x z) (hle0 : ∀ x, Le x x) (hdr : Le w0 w0.drew) (hst : ∀ k r x y, D k r x → Le x y → D k r y) (hrd : ∀ k r r' x, (∀ t ∈ rd k, r t = r' t) → D k r x → D k r' x)
    (hB : deepB ops a0.tmps.size rd = true)
    (hstep : ∀ (a : Act) (w : World), Le w0 w → a.tmps.size = a0.tmps.size → (∀ t, freeB ops t = true → a.tmps.getD t undef = a0.tmps.getD t undef) →
      ∀ i o, ops[i]? = some o → (∀ k, waitsB o k = true → D k (fun t => a.tmps.getD t undef) w) → DStep P ops Le D i o a w)
    (hpost : ∀ a w, Le w0 w → a.defers = a0.defers → a.tmps.size = a0.tmps.size → (∀ t, freeB ops t = true → a.tmps.getD t undef = a0.tmps.getD t undef) →
      (∀ k, k < ops.size → D k (fun t => a.tmps.getD t undef) w) → Q .normal a w) :
    (Code.region id ops true).wp P Q a0 w0 := by
  refine wp_region_any hm (wpAny_deep (Le := Le) (D := D) (rd := rd) (a0 := a0) (w0 := w0) htr hst hrd hB ?_ ?_ hle0 ops.size _ a0 _ (by simp) (by simp) ?_)
  · intro i o ho a w hle hsz hfr hty
    exact hstep a w hle hsz (fun t ht => hfr t (freeB_spec ht)) i o ho hty
  · intro a w hle hd hsz hfr hty
    exact hpost a w hle hd hsz (fun t ht => hfr t (freeB_spec ht)) hty
  · have hz : ∀ k : Nat, (Array.replicate ops.size false).getD k false = true → False := by
      intro k hk
      simp only [Array.getD_eq_getD_getElem?, Array.getElem?_replicate] at hk
      split at hk <;> simp at hk
    exact ⟨hdr, rfl, rfl, fun _ _ => rfl, fun k o hk _ _ _ _ => (hz k hk).elim, fun k _ hk => (hz k hk).elim⟩

/-- what was there below B is as it was; rows that held Z hold Z or S, those that held S hold it -/
def LeS (B : Nat) (Z S : Obj) (x y : World) : Prop := Below B x y ∧ ∀ k : Nat, (x.heap[k]? = some S → y.heap[k]? = some S) ∧ (x.heap[k]? = some Z → y.heap[k]? = some Z ∨ y.heap[k]? = some S)
theorem LeS.refl (B : Nat) (Z S : Obj) (x : World) : LeS B Z S x x := ⟨Below.refl _ _, fun _ => ⟨id, Or.inl⟩⟩
theorem LeS.trans {B : Nat} {Z S : Obj} {x y z : World} (h : LeS B Z S x y) (k : LeS B Z S y z) : LeS B Z S x z :=
  ⟨h.1.trans k.1, fun j => ⟨fun e => (k.2 j).1 ((h.2 j).1 e), fun e => ((h.2 j).2 e).elim (fun e => (k.2 j).2 e) (fun e => Or.inr ((k.2 j).1 e))⟩⟩
theorem LeS.of {B : Nat} {Z S : Obj} {x y : World} (h : Ext x y) (hB : B ≤ x.heap.size) : LeS B Z S x y :=
  ⟨Below.mono h hB, fun _ => ⟨fun e => h.block e, fun e => Or.inl (h.block e)⟩⟩
theorem LeS.block {B : Nat} {Z S : Obj} {x y : World} (h : LeS B Z S x y) {k : Nat} (hk : k < B) {o : Obj} (hc : x.heap[k]? = some o) : y.heap[k]? = some o := (h.1.block k hk).trans hc
end Go.Proofs.Ytaahaehgdamkdaa
