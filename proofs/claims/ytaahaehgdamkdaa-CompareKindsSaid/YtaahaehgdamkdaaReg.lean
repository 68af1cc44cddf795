/- A region that draws its order, typed slot by slot: if each operation, in whatever world that the relation lets it meet, yields a value of its own kind out of operands of their kinds, then all orders end alike. Conditions: none beyond those that the theorem states. -/
import Derived.Orders
import Derived.Still
import Derived.Below
namespace Go.Proofs.Ytaahaehgdamkdaa
open Go Go.RowKit

/-- slot of operation k -/
def rdst (ops : Array Oper) (k : Nat) : Option Tmp := (ops[k]?).bind (·.dst)

/-- no operand of 'o' is another operation's slot unless 'o' waits for that operation; edges point back; slots are apart -/
def regB (ops : Array Oper) (n : Nat) : Bool :=
  Region.noSelect ops &&
  (List.range ops.size).all fun i => match ops[i]? with
    | none => true
    | some o =>
      (o.after.all fun e => !Region.binds .any e || decide (e.on < i)) &&
      (match o.dst with
       | none => true
       | some d => decide (d < n) && (List.range ops.size).all fun k => k == i || rdst ops k != some d) &&
      (o.looksAt ops).all fun t => (List.range ops.size).all fun k => rdst ops k != some t || o.after.any fun e => e.on == k && Region.binds .any e

theorem regB_edge {ops : Array Oper} {n : Nat} (h : regB ops n = true) {i : Nat} {o : Oper} (ho : ops[i]? = some o) {e : Edge} (he : e ∈ o.after) (hb : Region.binds .any e = true) : e.on < i := by
  simp only [regB, Bool.and_eq_true, List.all_eq_true, List.mem_range] at h
  have hi : i < ops.size := (Array.getElem?_eq_some_iff.1 ho).1
  have h1 := h.2 i hi
  rw [ho] at h1
  simp only [Bool.and_eq_true] at h1
  have h2 := Array.all_eq_true'.1 h1.1.1 e he
  simpa [hb] using h2

theorem regB_slot {ops : Array Oper} {n : Nat} (h : regB ops n = true) {i k : Nat} {o : Oper} {d : Tmp} (ho : ops[i]? = some o) (hd : o.dst = some d) : d < n ∧ (rdst ops k = some d → k = i) := by
  simp only [regB, Bool.and_eq_true, List.all_eq_true, List.mem_range] at h
  have hi : i < ops.size := (Array.getElem?_eq_some_iff.1 ho).1
  have h1 := h.2 i hi
  rw [ho] at h1
  simp only [Bool.and_eq_true, hd] at h1
  have h2 := h1.1.2
  simp only [decide_eq_true_eq, List.all_eq_true, List.mem_range] at h2
  refine ⟨h2.1, fun hk => ?_⟩
  have hks : k < ops.size := by
    unfold rdst at hk
    rcases Nat.lt_or_ge k ops.size with hh | hh
    · exact hh
    · rw [Array.getElem?_eq_none hh] at hk; cases hk
  have h3 := h2.2 k hks
  simpa [hk] using h3

theorem regB_sees {ops : Array Oper} {n : Nat} (h : regB ops n = true) {i k : Nat} {o : Oper} {t : Tmp} (ho : ops[i]? = some o) (ht : t ∈ o.looksAt ops) (hk : rdst ops k = some t) :
    ∃ e ∈ o.after, e.on = k ∧ Region.binds .any e = true := by
  simp only [regB, Bool.and_eq_true, List.all_eq_true, List.mem_range] at h
  have hi : i < ops.size := (Array.getElem?_eq_some_iff.1 ho).1
  have h1 := h.2 i hi
  rw [ho] at h1
  simp only [Bool.and_eq_true] at h1
  have hks : k < ops.size := by
    unfold rdst at hk
    rcases Nat.lt_or_ge k ops.size with hh | hh
    · exact hh
    · rw [Array.getElem?_eq_none hh] at hk; cases hk
  have h2 := List.all_eq_true.1 h1.2 t ht
  have h3 := List.all_eq_true.1 h2 k (List.mem_range.2 hks)
  simp only [hk, bne_self_eq_false, Bool.false_or] at h3
  obtain ⟨e, he, hh⟩ := Array.any_eq_true'.1 h3
  simp only [Bool.and_eq_true, beq_iff_eq] at hh
  exact ⟨e, he, hh.1, hh.2⟩

/-- what holds in the middle of the region -/
structure RInv (ops : Array Oper) (Le : World → World → Prop) (G : Nat → Value → World → Prop) (a0 : Act) (w0 : World) (listed : Array Bool) (a : Act) (w : World) : Prop where
  le : Le w0 w
  defers : a.defers = a0.defers
  size : a.tmps.size = a0.tmps.size
  frame : ∀ t, (∀ k, rdst ops k ≠ some t) → a.tmps.getD t undef = a0.tmps.getD t undef
  typed : ∀ k t, listed.getD k false = true → rdst ops k = some t → G k (a.tmps.getD t undef) w

theorem put_size (a : Act) (d : Option Tmp) (v : Value) : (a.put d v).tmps.size = a.tmps.size := by
  cases d <;> simp [Act.put]

theorem put_defs (a : Act) (d : Option Tmp) (v : Value) : (a.put d v).defers = a.defers := by
  cases d <;> simp [Act.put]

theorem put_getD_other (a : Act) (d : Option Tmp) (v : Value) (t : Tmp) (h : d ≠ some t) : (a.put d v).tmps.getD t undef = a.tmps.getD t undef := by
  cases d with
  | none => rfl
  | some d =>
    have hne : d ≠ t := fun e => h (by rw [e])
    simp only [Act.put, Array.getD_eq_getD_getElem?]
    rw [Array.getElem?_setIfInBounds_ne hne]

theorem put_getD_same (a : Act) (d : Tmp) (v : Value) (h : d < a.tmps.size) : (a.put (some d) v).tmps.getD d undef = v := by
  simp only [Act.put, Array.getD_eq_getD_getElem?]
  rw [Array.getElem?_setIfInBounds_self_of_lt h]
  rfl

theorem RInv.step {ops : Array Oper} {Le : World → World → Prop} {G : Nat → Value → World → Prop} {a0 : Act} {w0 : World} {listed : Array Bool} {a : Act} {w w' : World} {i : Nat} {o : Oper} {v : Value}
    (htr : ∀ {x y z : World}, Le x y → Le y z → Le x z) (hst : ∀ k u x y, G k u x → Le x y → G k u y)
    (hB : regB ops a0.tmps.size = true) (ho : ops[i]? = some o)
    (h : RInv ops Le G a0 w0 listed a w) (hle : Le w w') (hv : G i v w') : RInv ops Le G a0 w0 (listed.setIfInBounds i true) (a.put o.dst v) w' := by
  refine ⟨htr h.le hle, (put_defs _ _ _).trans h.defers, (put_size _ _ _).trans h.size, fun t ht => ?_, fun k t hk hkt => ?_⟩
  · rw [put_getD_other _ _ _ _ (fun e => ht i (by unfold rdst; rw [ho]; exact e))]
    exact h.frame t ht
  · by_cases hki : k = i
    · subst hki
      have hd : o.dst = some t := by unfold rdst at hkt; rw [ho] at hkt; exact hkt
      have hlt := (regB_slot hB (k := k) ho hd).1
      rw [hd, put_getD_same _ _ _ (by rw [h.size]; exact hlt)]
      exact hv
    · have hk' : listed.getD k false = true := by rwa [getD_set_ne false (Ne.symm hki)] at hk
      rw [put_getD_other _ _ _ _ (fun e => hki ((regB_slot hB (k := k) ho e).2 hkt))]
      exact hst _ _ _ _ (h.typed k t hk' hkt) hle

theorem wpAny_typed {P : Program} {ops : Array Oper} {Q : Exit → Act → World → Prop} {Le : World → World → Prop} {G : Nat → Value → World → Prop} {a0 : Act} {w0 : World}
    (htr : ∀ {x y z : World}, Le x y → Le y z → Le x z) (hst : ∀ k u x y, G k u x → Le x y → G k u y)
    (hB : regB ops a0.tmps.size = true)
    (hstep : ∀ i o, ops[i]? = some o → ∀ (a : Act) (w : World), Le w0 w → a.tmps.size = a0.tmps.size →
      (∀ t, (∀ k, rdst ops k ≠ some t) → a.tmps.getD t undef = a0.tmps.getD t undef) →
      (∀ k t, rdst ops k = some t → t ∈ o.looksAt ops → G k (a.tmps.getD t undef) w) →
      if Region.wanted o (yielded ops a.tmps) then o.wp P a w (fun a' w' => ∃ v, a' = a.put o.dst v ∧ Le w w' ∧ G i v w') (fun _ _ _ => False) else G i undef w)
    (hpost : ∀ a w, Le w0 w → a.defers = a0.defers → a.tmps.size = a0.tmps.size → (∀ t, (∀ k, rdst ops k ≠ some t) → a.tmps.getD t undef = a0.tmps.getD t undef) →
      (∀ k t, rdst ops k = some t → G k (a.tmps.getD t undef) w) → Q .normal a w)
    (hle0 : ∀ x, Le x x) :
    ∀ (fuel : Nat) (listed : Array Bool) (a : Act) (w : World), listed.size = ops.size → listed.count false ≤ fuel → RInv ops Le G a0 w0 listed a w → wpAny P .any ops Q fuel listed a w := by
  have hall : ∀ (listed : Array Bool) (a : Act) (w : World), listed.size = ops.size → (∀ i, i < ops.size → listed.getD i false = true) → RInv ops Le G a0 w0 listed a w → Q .normal a w := by
    intro listed a w hs hl h
    refine hpost a w h.le h.defers h.size h.frame fun k t hk => h.typed k t (hl k ?_) hk
    unfold rdst at hk
    rcases Nat.lt_or_ge k ops.size with hh | hh
    · exact hh
    · rw [Array.getElem?_eq_none hh] at hk; cases hk
  have hdone : ∀ (listed : Array Bool), listed.size = ops.size → Region.ready .any ops listed = [] → ∀ i, i < ops.size → listed.getD i false = true := by
    intro listed hs hr i
    induction i using Nat.strongRecOn with
    | ind i ih =>
      intro hi
      cases hc : listed.getD i false with
      | true => rfl
      | false =>
        have hm : i ∈ Region.ready .any ops listed := by
          rw [mem_ready]
          refine ⟨?_, ops[i], Array.getElem?_eq_getElem hi, fun e he hb => ?_⟩
          · have : i < listed.size := by omega
            simp only [Array.getD, this, dite_true] at hc ⊢
            exact hc
          · have hlt := regB_edge hB (Array.getElem?_eq_getElem hi) he hb
            exact ih e.on hlt (by omega)
        rw [hr] at hm
        cases hm
  intro fuel
  induction fuel with
  | zero =>
    intro listed a w hs hcnt h
    have hl : ∀ i, i < ops.size → listed.getD i false = true := by
      intro i hi
      cases hc : listed.getD i false with
      | true => rfl
      | false =>
        have hi' : i < listed.size := by omega
        have hmem : false ∈ listed := by
          simp only [Array.getD, hi', dite_true] at hc
          exact hc ▸ Array.getElem_mem hi'
        have := Array.count_pos_iff.2 hmem
        omega
    refine ⟨?_, hall listed a w hs hl h⟩
    refine List.eq_nil_iff_forall_not_mem.2 fun j hj => ?_
    obtain ⟨h0, o, ho, _⟩ := mem_ready.1 hj
    have hj' : j < ops.size := (Array.getElem?_eq_some_iff.1 ho).1
    have := hl j hj'
    have hj'' : j < listed.size := by omega
    simp only [Array.getD, hj'', dite_true] at this h0
    rw [this] at h0
    cases h0
  | succ fuel ih =>
    intro listed a w hs hcnt h
    refine ⟨fun hr => hall listed a w hs (hdone listed hs hr) h, fun i hi => ?_⟩
    obtain ⟨h0, o, ho, hedges⟩ := mem_ready.1 hi
    have hi' : i < ops.size := (Array.getElem?_eq_some_iff.1 ho).1
    have hil : i < listed.size := by omega
    have hif : listed[i] = false := by
      rw [Array.getD_eq_getD_getElem?, Array.getElem?_eq_getElem hil] at h0
      simpa using h0
    have hs' : (listed.setIfInBounds i true).size = ops.size := by simpa using hs
    have hcnt' : (listed.setIfInBounds i true).count false ≤ fuel := by
      have hpos : 0 < listed.count false := Array.count_pos_iff.2 (hif ▸ Array.getElem_mem hil)
      rw [Array.setIfInBounds_def, dif_pos hil]
      rw [Array.count_set]
      simp [hif]
      omega
    have hsees : ∀ k t, rdst ops k = some t → t ∈ o.looksAt ops → G k (a.tmps.getD t undef) w := by
      intro k t hk ht
      obtain ⟨e, he, hek, hb⟩ := regB_sees hB ho ht hk
      exact h.typed k t (hek ▸ hedges e he hb) hk
    have hs1 := hstep i o ho a w h.le h.size h.frame hsees
    unfold wpOp
    simp only [ho]
    by_cases hw : Region.wanted o (yielded ops a.tmps) = true
    · rw [if_pos hw] at hs1
      rw [if_pos hw]
      refine Or.inl ?_
      have hmono : o.wp P a w (wpAny P .any ops Q fuel (listed.setIfInBounds i true)) (fun _ _ _ => False) :=
        Oper.wp_mono (fun a' w' ⟨v, hv1, hv2, hv3⟩ => by
          subst hv1
          exact ih _ _ _ hs' hcnt' (h.step htr hst hB ho hv2 hv3)) hs1
      revert hmono
      unfold Oper.wp
      generalize (execOp a.eval o).run P w = r
      intro hmono
      cases r with
      | ok n w' =>
        cases n <;> simp only [Oper.upon] at hmono ⊢
        all_goals first
          | exact hmono
          | exact Calls.mono hmono (fun e w'' he => by
              cases e with
              | returned v => exact he
              | panicked c => exact he.elim
              | outgrown => obtain ⟨_, _, hf⟩ := he; exact hf.elim)
      | halt x w' => cases x <;> simp only [Oper.upon] at hmono
    · rw [if_neg hw] at hs1
      rw [if_neg hw]
      exact ih _ _ _ hs' hcnt' (h.step htr hst hB ho (hle0 w) hs1)

/-! ### one operation at a time -/

/-- what is asked of operation i in state a -/
def RStep (P : Program) (ops : Array Oper) (Le : World → World → Prop) (G : Nat → Value → World → Prop) (i : Nat) (o : Oper) (a : Act) (w : World) : Prop :=
  if Region.wanted o (yielded ops a.tmps) then o.wp P a w (fun a' w' => ∃ v, a' = a.put o.dst v ∧ Le w w' ∧ G i v w') (fun _ _ _ => False) else G i undef w

/-- no operation of the region writes slot t -/
def freeB (ops : Array Oper) (t : Tmp) : Bool := (List.range ops.size).all fun k => rdst ops k != some t

theorem freeB_spec {ops : Array Oper} {t : Tmp} (h : freeB ops t = true) : ∀ k, rdst ops k ≠ some t := by
  intro k hk
  have hks : k < ops.size := by
    unfold rdst at hk
    rcases Nat.lt_or_ge k ops.size with hh | hh
    · exact hh
    · rw [Array.getElem?_eq_none hh] at hk; cases hk
  have := List.all_eq_true.1 h k (List.mem_range.2 hks)
  simp [hk] at this

theorem wanted_free {o : Oper} {y : Nat → Option Bool} (h : o.guard = none) : Region.wanted o y = true := by simp [Region.wanted, h]

theorem wanted_guard {ops : Array Oper} {o : Oper} {tmps : Array Value} {k : Nat} {b : Bool} {d : Tmp} (h : o.guard = some (k, b)) (hk : rdst ops k = some d) (hv : tmps[d]?.getD undef = .bool b) :
    Region.wanted o (yielded ops tmps) = true := by
  have h1 : tmps[d]? = some (.bool b) := by
    cases hq : tmps[d]? with
    | none => rw [hq] at hv; simp [undef] at hv
    | some v => rw [hq] at hv; simp at hv; rw [hv]
  unfold rdst at hk
  simp [Region.wanted, h, yielded, hk, h1]

theorem step_pure {P : Program} {ops : Array Oper} {Le : World → World → Prop} {G : Nat → Value → World → Prop} {i : Nat} {o : Oper} {a : Act} {w : World} (v : Value)
    (hw : Region.wanted o (yielded ops a.tmps) = true) (hr : (execOp a.eval o).run P w = .ok (.value v) w) (hle : Le w w) (hv : G i v w) : RStep P ops Le G i o a w := by
  unfold RStep
  rw [if_pos hw]
  unfold Oper.wp
  rw [hr]
  exact ⟨v, rfl, hle, hv⟩

theorem step_call {P : Program} {ops : Array Oper} {Le : World → World → Prop} {G : Nat → Value → World → Prop} {i : Nat} {o : Oper} {a : Act} {w : World} (f : FuncId) (args : Array Value)
    (hw : Region.wanted o (yielded ops a.tmps) = true) (hr : (execOp a.eval o).run P w = .ok (.enter f args) w)
    (hc : Calls P f args w fun e w' => ∃ v, e = .returned v ∧ Le w w' ∧ G i v w') : RStep P ops Le G i o a w := by
  unfold RStep
  rw [if_pos hw]
  unfold Oper.wp
  rw [hr]
  refine Calls.mono hc ?_
  rintro e w' ⟨v, rfl, h1, h2⟩
  exact ⟨v, rfl, h1, h2⟩

/-- the region by its slots -/
theorem wp_region_slots {P : Program} {ops : Array Oper} {id : Nat} {Q : Exit → Act → World → Prop} (Le : World → World → Prop) (G : Nat → Value → World → Prop) {tm : Array Value} {df : List Deferred} {w0 : World}
    (hm : P.follows .mixedOrders = true)
    (htr : ∀ {x y z : World}, Le x y → Le y z → Le x z) (hle0 : ∀ x, Le x x) (hdr : Le w0 w0.drew) (hst : ∀ k u x y, G k u x → Le x y → G k u y)
    (hB : regB ops tm.size = true)
    (hstep : ∀ (tmps : Array Value) (w : World), Le w0 w → (∀ t, freeB ops t = true → tmps[t]?.getD undef = tm[t]?.getD undef) →
      ∀ i o, ops[i]? = some o → (∀ k t, rdst ops k = some t → (o.looksAt ops).contains t = true → G k (tmps[t]?.getD undef) w) → RStep P ops Le G i o ⟨tmps, df⟩ w)
    (hpost : ∀ tmps w, Le w0 w → tmps.size = tm.size → (∀ t, freeB ops t = true → tmps[t]?.getD undef = tm[t]?.getD undef) →
      (∀ k t, rdst ops k = some t → G k (tmps[t]?.getD undef) w) → Q .normal ⟨tmps, df⟩ w) :
    (Code.region id ops true).wp P Q ⟨tm, df⟩ w0 := by
  have hg : ∀ (x : Array Value) (t : Nat), x.getD t undef = x[t]?.getD undef := fun x t => Array.getD_eq_getD_getElem? ..
  refine wp_region_any hm ?_
  have key := wpAny_typed (P := P) (ops := ops) (Q := Q) (Le := Le) (G := G) (a0 := ⟨tm, df⟩) (w0 := w0) htr hst hB ?_ ?_ hle0 ops.size (Array.replicate ops.size false) ⟨tm, df⟩ _ (by simp) (by simp) ⟨hdr, rfl, rfl, fun _ _ => rfl, fun k t hk _ => ?_⟩
  · exact key
  · intro i o ho a w hle hsz hfr hty
    obtain ⟨tmps, d'⟩ := a
    have h := hstep tmps w hle (fun t ht => by have := hfr t (freeB_spec ht); rwa [hg, hg] at this) i o ho (fun k t hk ht => by
      have := hty k t hk (by simpa using ht)
      rwa [hg] at this)
    have e : ∀ (d1 d2 : List Deferred), (⟨tmps, d1⟩ : Act).eval = (⟨tmps, d2⟩ : Act).eval := fun _ _ => by funext x; cases x <;> rfl
    unfold RStep at h
    by_cases hw : Region.wanted o (yielded ops tmps) = true
    · rw [if_pos hw] at h
      rw [if_pos hw]
      unfold Oper.wp at h ⊢
      rw [e d' df]
      revert h
      generalize (execOp (⟨tmps, df⟩ : Act).eval o).run P w = r
      intro h
      cases r with
      | ok n w' =>
        cases n <;> simp only [Oper.upon] at h ⊢
        case value v =>
          obtain ⟨u, h1, h2, h3⟩ := h
          have hu : (⟨tmps, d'⟩ : Act).put o.dst v = (⟨tmps, d'⟩ : Act).put o.dst u := by
            revert h1
            cases o.dst with
            | none => intro _; rfl
            | some d => intro h1; simp only [Act.put, Act.mk.injEq, and_true] at h1 ⊢; exact h1
          exact ⟨u, hu, h2, h3⟩
        case skip =>
          obtain ⟨u, h1, h2, h3⟩ := h
          have hu : (⟨tmps, d'⟩ : Act).put o.dst undef = (⟨tmps, d'⟩ : Act).put o.dst u := by
            revert h1
            cases o.dst with
            | none => intro _; rfl
            | some d => intro h1; simp only [Act.put, Act.mk.injEq, and_true] at h1 ⊢; exact h1
          exact ⟨u, hu, h2, h3⟩
        case defer d =>
          obtain ⟨u, h1, _⟩ := h
          exfalso
          revert h1
          cases o.dst <;> simp [Act.put]
        case enter f args =>
          refine Calls.mono h fun en w'' he => ?_
          cases en with
          | returned v =>
            obtain ⟨u, h1, h2, h3⟩ := he
            have hu : (⟨tmps, d'⟩ : Act).put o.dst v = (⟨tmps, d'⟩ : Act).put o.dst u := by
              revert h1
              cases o.dst with
              | none => intro _; rfl
              | some d => intro h1; simp only [Act.put, Act.mk.injEq, and_true] at h1 ⊢; exact h1
            exact ⟨u, hu, h2, h3⟩
          | panicked c => exact he
          | outgrown => exact he
        case row r as =>
          refine Rows.mono h fun v w'' he => ?_
          obtain ⟨u, h1, h2, h3⟩ := he
          have hu : (⟨tmps, d'⟩ : Act).put o.dst v = (⟨tmps, d'⟩ : Act).put o.dst u := by
            revert h1
            cases o.dst with
            | none => intro _; rfl
            | some d => intro h1; simp only [Act.put, Act.mk.injEq, and_true] at h1 ⊢; exact h1
          exact ⟨u, hu, h2, h3⟩
        all_goals exact h
      | halt x w' => cases x <;> simp only [Oper.upon] at h ⊢
    · rw [if_neg hw] at h
      rw [if_neg hw]
      exact h
  · intro a w hle hd hsz hfr hty
    obtain ⟨tmps, d'⟩ := a
    simp only at hd
    subst hd
    exact hpost tmps w hle hsz (fun t ht => by have := hfr t (freeB_spec ht); rwa [hg, hg] at this) (fun k t hk => by have := hty k t hk; rwa [hg] at this)
  · simp only [Array.getD_eq_getD_getElem?, Array.getElem?_replicate] at hk
    split at hk <;> simp at hk

/-- the frame behind the region, written out -/
theorem frame_eq {ops : Array Oper} {tm tmps : Array Value} (D : List Nat) (hs : tmps.size = tm.size) (hfr : ∀ t, freeB ops t = true → tmps[t]?.getD undef = tm[t]?.getD undef)
    (hD : ((List.range tm.size).all fun t => D.contains t || freeB ops t) = true) :
    tmps = D.foldl (fun acc d => acc.setIfInBounds d (tmps[d]?.getD undef)) tm := by
  have size_fold : ∀ (L : List Nat) (x : Array Value), (L.foldl (fun acc d => acc.setIfInBounds d (tmps[d]?.getD undef)) x).size = x.size := by
    intro L
    induction L with
    | nil => intro x; rfl
    | cons d L ih => intro x; simp [ih]
  have get_fold : ∀ (L : List Nat) (x : Array Value) (t : Nat), t < x.size →
      (L.foldl (fun acc d => acc.setIfInBounds d (tmps[d]?.getD undef)) x)[t]? = if t ∈ L then some (tmps[t]?.getD undef) else x[t]? := by
    intro L
    induction L with
    | nil => intro x t _; simp
    | cons d L ih =>
      intro x t ht
      rw [List.foldl_cons, ih _ t (by simpa using ht)]
      by_cases h1 : t ∈ L
      · simp [h1]
      · by_cases h2 : d = t
        · subst h2
          simp [h1, Array.getElem?_setIfInBounds_self_of_lt ht]
        · have h3 : ¬ t = d := fun e => h2 e.symm
          simp [h1, h3, Array.getElem?_setIfInBounds_ne h2]
  apply Array.ext_getElem?
  intro t
  rcases Nat.lt_or_ge t tm.size with ht | ht
  · rw [get_fold D tm t ht]
    have htm : tmps[t]? = some (tmps[t]?.getD undef) := by
      rw [Array.getElem?_eq_getElem (by omega)]; rfl
    by_cases hm : t ∈ D
    · rw [if_pos hm]; exact htm
    · rw [if_neg hm, htm]
      have h1 := List.all_eq_true.1 hD t (List.mem_range.2 ht)
      have h2 : freeB ops t = true := by
        simpa [hm] using h1
      rw [hfr t h2, Array.getElem?_eq_getElem ht]; rfl
  · rw [Array.getElem?_eq_none (by omega), Array.getElem?_eq_none (by rw [size_fold]; exact ht)]

end Go.Proofs.Ytaahaehgdamkdaa
