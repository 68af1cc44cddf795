/- Plain words and facts that the other texts stand on. Conditions: none. -/
import Derived.Orders
import Derived.Still
import Derived.Below
import Derived.WalkKit
import Derived.WalkSpells
import Derived.WalkLawsBesides
import Derived.Laws.CopyOwn
import Derived.Maps.AppendAt
import Derived.Deep.OwnRows
import Derived.Lib.AppendStr
import Derived.Laws.IdiomStrings
import Derived.Laws.BitsAllLaws
import Derived.Laws.Bits128
import GoSem.Core.Float
import Derived.Laws.FloatArith
import Derived.Laws.Externs
import Derived.Tactics
import Derived.Test.YtaahaehgdamkdaaProg
/- A region that draws its order, typed slot by slot: if each operation, in whatever world that the relation lets it meet, yields a value of its own kind out of operands of their kinds, then all orders end alike. Conditions: none beyond those that the theorem states. -/
namespace Go.Proofs.Ytaahaehgdamkdaa
open Go Go.RowKit

/-- slot of operation k -/
def rdst (ops : Array Oper) (k : Nat) : Option Tmp := (ops[k]?).bind (·.dst)

/-- no operand of 'o' is another operation's slot unless 'o' waits for that operation; edges point back; slots are apart -/
def regB (ops : Array Oper) (n : Nat) : Bool :=
  Region.noSelect ops &&
  (List.range ops.size).all fun i => match ops[i]? with
    | none => true
    | some o =>
      (o.after.all fun e => !Region.binds .any e || decide (e.on < i)) &&
      (match o.dst with
       | none => true
       | some d => decide (d < n) && (List.range ops.size).all fun k => k == i || rdst ops k != some d) &&
      (o.looksAt ops).all fun t => (List.range ops.size).all fun k => rdst ops k != some t || o.after.any fun e => e.on == k && Region.binds .any e

theorem regB_edge {ops : Array Oper} {n : Nat} (h : regB ops n = true) {i : Nat} {o : Oper} (ho : ops[i]? = some o) {e : Edge} (he : e ∈ o.after) (hb : Region.binds .any e = true) : e.on < i := by
  simp only [regB, Bool.and_eq_true, List.all_eq_true, List.mem_range] at h
  have hi : i < ops.size := (Array.getElem?_eq_some_iff.1 ho).1
  have h1 := h.2 i hi
  rw [ho] at h1
  simp only [Bool.and_eq_true] at h1
  have h2 := Array.all_eq_true'.1 h1.1.1 e he
  simpa [hb] using h2

theorem regB_slot {ops : Array Oper} {n : Nat} (h : regB ops n = true) {i k : Nat} {o : Oper} {d : Tmp} (ho : ops[i]? = some o) (hd : o.dst = some d) : d < n ∧ (rdst ops k = some d → k = i) := by
  simp only [regB, Bool.and_eq_true, List.all_eq_true, List.mem_range] at h
  have hi : i < ops.size := (Array.getElem?_eq_some_iff.1 ho).1
  have h1 := h.2 i hi
  rw [ho] at h1
  simp only [Bool.and_eq_true, hd] at h1
  have h2 := h1.1.2
  simp only [decide_eq_true_eq, List.all_eq_true, List.mem_range] at h2
  refine ⟨h2.1, fun hk => ?_⟩
  have hks : k < ops.size := by
    unfold rdst at hk
    rcases Nat.lt_or_ge k ops.size with hh | hh
    · exact hh
    · rw [Array.getElem?_eq_none hh] at hk; cases hk
  have h3 := h2.2 k hks
  simpa [hk] using h3

theorem regB_sees {ops : Array Oper} {n : Nat} (h : regB ops n = true) {i k : Nat} {o : Oper} {t : Tmp} (ho : ops[i]? = some o) (ht : t ∈ o.looksAt ops) (hk : rdst ops k = some t) :
    ∃ e ∈ o.after, e.on = k ∧ Region.binds .any e = true := by
  simp only [regB, Bool.and_eq_true, List.all_eq_true, List.mem_range] at h
  have hi : i < ops.size := (Array.getElem?_eq_some_iff.1 ho).1
  have h1 := h.2 i hi
  rw [ho] at h1
  simp only [Bool.and_eq_true] at h1
  have hks : k < ops.size := by
    unfold rdst at hk
    rcases Nat.lt_or_ge k ops.size with hh | hh
    · exact hh
    · rw [Array.getElem?_eq_none hh] at hk; cases hk
  have h2 := List.all_eq_true.1 h1.2 t ht
  have h3 := List.all_eq_true.1 h2 k (List.mem_range.2 hks)
  simp only [hk, bne_self_eq_false, Bool.false_or] at h3
  obtain ⟨e, he, hh⟩ := Array.any_eq_true'.1 h3
  simp only [Bool.and_eq_true, beq_iff_eq] at hh
  exact ⟨e, he, hh.1, hh.2⟩

/-- what holds in the middle of the region -/
structure RInv (ops : Array Oper) (Le : World → World → Prop) (G : Nat → Value → World → Prop) (a0 : Act) (w0 : World) (listed : Array Bool) (a : Act) (w : World) : Prop where
  le : Le w0 w
  defers : a.defers = a0.defers
  size : a.tmps.size = a0.tmps.size
  frame : ∀ t, (∀ k, rdst ops k ≠ some t) → a.tmps.getD t undef = a0.tmps.getD t undef
  typed : ∀ k t, listed.getD k false = true → rdst ops k = some t → G k (a.tmps.getD t undef) w

theorem put_size (a : Act) (d : Option Tmp) (v : Value) : (a.put d v).tmps.size = a.tmps.size := by
  cases d <;> simp [Act.put]

theorem put_defs (a : Act) (d : Option Tmp) (v : Value) : (a.put d v).defers = a.defers := by
  cases d <;> simp [Act.put]

theorem put_getD_other (a : Act) (d : Option Tmp) (v : Value) (t : Tmp) (h : d ≠ some t) : (a.put d v).tmps.getD t undef = a.tmps.getD t undef := by
  cases d with
  | none => rfl
  | some d =>
    have hne : d ≠ t := fun e => h (by rw [e])
    simp only [Act.put, Array.getD_eq_getD_getElem?]
    rw [Array.getElem?_setIfInBounds_ne hne]

theorem put_getD_same (a : Act) (d : Tmp) (v : Value) (h : d < a.tmps.size) : (a.put (some d) v).tmps.getD d undef = v := by
  simp only [Act.put, Array.getD_eq_getD_getElem?]
  rw [Array.getElem?_setIfInBounds_self_of_lt h]
  rfl

theorem RInv.step {ops : Array Oper} {Le : World → World → Prop} {G : Nat → Value → World → Prop} {a0 : Act} {w0 : World} {listed : Array Bool} {a : Act} {w w' : World} {i : Nat} {o : Oper} {v : Value}
    (htr : ∀ {x y z : World}, Le x y → Le y z → Le x z) (hst : ∀ k u x y, G k u x → Le x y → G k u y)
    (hB : regB ops a0.tmps.size = true) (ho : ops[i]? = some o)
    (h : RInv ops Le G a0 w0 listed a w) (hle : Le w w') (hv : G i v w') : RInv ops Le G a0 w0 (listed.setIfInBounds i true) (a.put o.dst v) w' := by
  refine ⟨htr h.le hle, (put_defs _ _ _).trans h.defers, (put_size _ _ _).trans h.size, fun t ht => ?_, fun k t hk hkt => ?_⟩
  · rw [put_getD_other _ _ _ _ (fun e => ht i (by unfold rdst; rw [ho]; exact e))]
    exact h.frame t ht
  · by_cases hki : k = i
    · subst hki
      have hd : o.dst = some t := by unfold rdst at hkt; rw [ho] at hkt; exact hkt
      have hlt := (regB_slot hB (k := k) ho hd).1
      rw [hd, put_getD_same _ _ _ (by rw [h.size]; exact hlt)]
      exact hv
    · have hk' : listed.getD k false = true := by rwa [getD_set_ne false (Ne.symm hki)] at hk
      rw [put_getD_other _ _ _ _ (fun e => hki ((regB_slot hB (k := k) ho e).2 hkt))]
      exact hst _ _ _ _ (h.typed k t hk' hkt) hle

theorem wpAny_typed {P : Program} {ops : Array Oper} {Q : Exit → Act → World → Prop} {Le : World → World → Prop} {G : Nat → Value → World → Prop} {a0 : Act} {w0 : World}
    (htr : ∀ {x y z : World}, Le x y → Le y z → Le x z) (hst : ∀ k u x y, G k u x → Le x y → G k u y)
    (hB : regB ops a0.tmps.size = true)
    (hstep : ∀ i o, ops[i]? = some o → ∀ (a : Act) (w : World), Le w0 w → a.tmps.size = a0.tmps.size →
      (∀ t, (∀ k, rdst ops k ≠ some t) → a.tmps.getD t undef = a0.tmps.getD t undef) →
      (∀ k t, rdst ops k = some t → t ∈ o.looksAt ops → G k (a.tmps.getD t undef) w) →
      if Region.wanted o (yielded ops a.tmps) then o.wp P a w (fun a' w' => ∃ v, a' = a.put o.dst v ∧ Le w w' ∧ G i v w') (fun _ _ _ => False) else G i undef w)
    (hpost : ∀ a w, Le w0 w → a.defers = a0.defers → a.tmps.size = a0.tmps.size → (∀ t, (∀ k, rdst ops k ≠ some t) → a.tmps.getD t undef = a0.tmps.getD t undef) →
      (∀ k t, rdst ops k = some t → G k (a.tmps.getD t undef) w) → Q .normal a w)
    (hle0 : ∀ x, Le x x) :
    ∀ (fuel : Nat) (listed : Array Bool) (a : Act) (w : World), listed.size = ops.size → listed.count false ≤ fuel → RInv ops Le G a0 w0 listed a w → wpAny P .any ops Q fuel listed a w := by
  have hall : ∀ (listed : Array Bool) (a : Act) (w : World), listed.size = ops.size → (∀ i, i < ops.size → listed.getD i false = true) → RInv ops Le G a0 w0 listed a w → Q .normal a w := by
    intro listed a w hs hl h
    refine hpost a w h.le h.defers h.size h.frame fun k t hk => h.typed k t (hl k ?_) hk
    unfold rdst at hk
    rcases Nat.lt_or_ge k ops.size with hh | hh
    · exact hh
    · rw [Array.getElem?_eq_none hh] at hk; cases hk
  have hdone : ∀ (listed : Array Bool), listed.size = ops.size → Region.ready .any ops listed = [] → ∀ i, i < ops.size → listed.getD i false = true := by
    intro listed hs hr i
    induction i using Nat.strongRecOn with
    | ind i ih =>
      intro hi
      cases hc : listed.getD i false with
      | true => rfl
      | false =>
        have hm : i ∈ Region.ready .any ops listed := by
          rw [mem_ready]
          refine ⟨?_, ops[i], Array.getElem?_eq_getElem hi, fun e he hb => ?_⟩
          · have : i < listed.size := by omega
            simp only [Array.getD, this, dite_true] at hc ⊢
            exact hc
          · have hlt := regB_edge hB (Array.getElem?_eq_getElem hi) he hb
            exact ih e.on hlt (by omega)
        rw [hr] at hm
        cases hm
  intro fuel
  induction fuel with
  | zero =>
    intro listed a w hs hcnt h
    have hl : ∀ i, i < ops.size → listed.getD i false = true := by
      intro i hi
      cases hc : listed.getD i false with
      | true => rfl
      | false =>
        have hi' : i < listed.size := by omega
        have hmem : false ∈ listed := by
          simp only [Array.getD, hi', dite_true] at hc
          exact hc ▸ Array.getElem_mem hi'
        have := Array.count_pos_iff.2 hmem
        omega
    refine ⟨?_, hall listed a w hs hl h⟩
    refine List.eq_nil_iff_forall_not_mem.2 fun j hj => ?_
    obtain ⟨h0, o, ho, _⟩ := mem_ready.1 hj
    have hj' : j < ops.size := (Array.getElem?_eq_some_iff.1 ho).1
    have := hl j hj'
    have hj'' : j < listed.size := by omega
    simp only [Array.getD, hj'', dite_true] at this h0
    rw [this] at h0
    cases h0
  | succ fuel ih =>
    intro listed a w hs hcnt h
    refine ⟨fun hr => hall listed a w hs (hdone listed hs hr) h, fun i hi => ?_⟩
    obtain ⟨h0, o, ho, hedges⟩ := mem_ready.1 hi
    have hi' : i < ops.size := (Array.getElem?_eq_some_iff.1 ho).1
    have hil : i < listed.size := by omega
    have hif : listed[i] = false := by
      rw [Array.getD_eq_getD_getElem?, Array.getElem?_eq_getElem hil] at h0
      simpa using h0
    have hs' : (listed.setIfInBounds i true).size = ops.size := by simpa using hs
    have hcnt' : (listed.setIfInBounds i true).count false ≤ fuel := by
      have hpos : 0 < listed.count false := Array.count_pos_iff.2 (hif ▸ Array.getElem_mem hil)
      rw [Array.setIfInBounds_def, dif_pos hil]
      rw [Array.count_set]
      simp [hif]
      omega
    have hsees : ∀ k t, rdst ops k = some t → t ∈ o.looksAt ops → G k (a.tmps.getD t undef) w := by
      intro k t hk ht
      obtain ⟨e, he, hek, hb⟩ := regB_sees hB ho ht hk
      exact h.typed k t (hek ▸ hedges e he hb) hk
    have hs1 := hstep i o ho a w h.le h.size h.frame hsees
    unfold wpOp
    simp only [ho]
    by_cases hw : Region.wanted o (yielded ops a.tmps) = true
    · rw [if_pos hw] at hs1
      rw [if_pos hw]
      refine Or.inl ?_
      have hmono : o.wp P a w (wpAny P .any ops Q fuel (listed.setIfInBounds i true)) (fun _ _ _ => False) :=
        Oper.wp_mono (fun a' w' ⟨v, hv1, hv2, hv3⟩ => by
          subst hv1
          exact ih _ _ _ hs' hcnt' (h.step htr hst hB ho hv2 hv3)) hs1
      revert hmono
      unfold Oper.wp
      generalize (execOp a.eval o).run P w = r
      intro hmono
      cases r with
      | ok n w' =>
        cases n <;> simp only [Oper.upon] at hmono ⊢
        all_goals first
          | exact hmono
          | exact Calls.mono hmono (fun e w'' he => by
              cases e with
              | returned v => exact he
              | panicked c => exact he.elim
              | outgrown => obtain ⟨_, _, hf⟩ := he; exact hf.elim)
      | halt x w' => cases x <;> simp only [Oper.upon] at hmono
    · rw [if_neg hw] at hs1
      rw [if_neg hw]
      exact ih _ _ _ hs' hcnt' (h.step htr hst hB ho (hle0 w) hs1)

/-! ### one operation at a time -/

/-- what is asked of operation i in state a -/
def RStep (P : Program) (ops : Array Oper) (Le : World → World → Prop) (G : Nat → Value → World → Prop) (i : Nat) (o : Oper) (a : Act) (w : World) : Prop :=
  if Region.wanted o (yielded ops a.tmps) then o.wp P a w (fun a' w' => ∃ v, a' = a.put o.dst v ∧ Le w w' ∧ G i v w') (fun _ _ _ => False) else G i undef w

/-- no operation of the region writes slot t -/
def freeB (ops : Array Oper) (t : Tmp) : Bool := (List.range ops.size).all fun k => rdst ops k != some t

theorem freeB_spec {ops : Array Oper} {t : Tmp} (h : freeB ops t = true) : ∀ k, rdst ops k ≠ some t := by
  intro k hk
  have hks : k < ops.size := by
    unfold rdst at hk
    rcases Nat.lt_or_ge k ops.size with hh | hh
    · exact hh
    · rw [Array.getElem?_eq_none hh] at hk; cases hk
  have := List.all_eq_true.1 h k (List.mem_range.2 hks)
  simp [hk] at this

theorem wanted_free {o : Oper} {y : Nat → Option Bool} (h : o.guard = none) : Region.wanted o y = true := by simp [Region.wanted, h]

theorem wanted_guard {ops : Array Oper} {o : Oper} {tmps : Array Value} {k : Nat} {b : Bool} {d : Tmp} (h : o.guard = some (k, b)) (hk : rdst ops k = some d) (hv : tmps[d]?.getD undef = .bool b) :
    Region.wanted o (yielded ops tmps) = true := by
  have h1 : tmps[d]? = some (.bool b) := by
    cases hq : tmps[d]? with
    | none => rw [hq] at hv; simp [undef] at hv
    | some v => rw [hq] at hv; simp at hv; rw [hv]
  unfold rdst at hk
  simp [Region.wanted, h, yielded, hk, h1]

theorem step_pure {P : Program} {ops : Array Oper} {Le : World → World → Prop} {G : Nat → Value → World → Prop} {i : Nat} {o : Oper} {a : Act} {w : World} (v : Value)
    (hw : Region.wanted o (yielded ops a.tmps) = true) (hr : (execOp a.eval o).run P w = .ok (.value v) w) (hle : Le w w) (hv : G i v w) : RStep P ops Le G i o a w := by
  unfold RStep
  rw [if_pos hw]
  unfold Oper.wp
  rw [hr]
  exact ⟨v, rfl, hle, hv⟩

theorem step_call {P : Program} {ops : Array Oper} {Le : World → World → Prop} {G : Nat → Value → World → Prop} {i : Nat} {o : Oper} {a : Act} {w : World} (f : FuncId) (args : Array Value)
    (hw : Region.wanted o (yielded ops a.tmps) = true) (hr : (execOp a.eval o).run P w = .ok (.enter f args) w)
    (hc : Calls P f args w fun e w' => ∃ v, e = .returned v ∧ Le w w' ∧ G i v w') : RStep P ops Le G i o a w := by
  unfold RStep
  rw [if_pos hw]
  unfold Oper.wp
  rw [hr]
  refine Calls.mono hc ?_
  rintro e w' ⟨v, rfl, h1, h2⟩
  exact ⟨v, rfl, h1, h2⟩

/-- the region by its slots -/
theorem wp_region_slots {P : Program} {ops : Array Oper} {id : Nat} {Q : Exit → Act → World → Prop} (Le : World → World → Prop) (G : Nat → Value → World → Prop) {tm : Array Value} {df : List Deferred} {w0 : World}
    (hm : P.follows .mixedOrders = true)
    (htr : ∀ {x y z : World}, Le x y → Le y z → Le x z) (hle0 : ∀ x, Le x x) (hdr : Le w0 w0.drew) (hst : ∀ k u x y, G k u x → Le x y → G k u y)
    (hB : regB ops tm.size = true)
    (hstep : ∀ (tmps : Array Value) (w : World), Le w0 w → (∀ t, freeB ops t = true → tmps[t]?.getD undef = tm[t]?.getD undef) →
      ∀ i o, ops[i]? = some o → (∀ k t, rdst ops k = some t → (o.looksAt ops).contains t = true → G k (tmps[t]?.getD undef) w) → RStep P ops Le G i o ⟨tmps, df⟩ w)
    (hpost : ∀ tmps w, Le w0 w → tmps.size = tm.size → (∀ t, freeB ops t = true → tmps[t]?.getD undef = tm[t]?.getD undef) →
      (∀ k t, rdst ops k = some t → G k (tmps[t]?.getD undef) w) → Q .normal ⟨tmps, df⟩ w) :
    (Code.region id ops true).wp P Q ⟨tm, df⟩ w0 := by
  have hg : ∀ (x : Array Value) (t : Nat), x.getD t undef = x[t]?.getD undef := fun x t => Array.getD_eq_getD_getElem? ..
  refine wp_region_any hm ?_
  have key := wpAny_typed (P := P) (ops := ops) (Q := Q) (Le := Le) (G := G) (a0 := ⟨tm, df⟩) (w0 := w0) htr hst hB ?_ ?_ hle0 ops.size (Array.replicate ops.size false) ⟨tm, df⟩ _ (by simp) (by simp) ⟨hdr, rfl, rfl, fun _ _ => rfl, fun k t hk _ => ?_⟩
  · exact key
  · intro i o ho a w hle hsz hfr hty
    obtain ⟨tmps, d'⟩ := a
    have h := hstep tmps w hle (fun t ht => by have := hfr t (freeB_spec ht); rwa [hg, hg] at this) i o ho (fun k t hk ht => by
      have := hty k t hk (by simpa using ht)
      rwa [hg] at this)
    have e : ∀ (d1 d2 : List Deferred), (⟨tmps, d1⟩ : Act).eval = (⟨tmps, d2⟩ : Act).eval := fun _ _ => by funext x; cases x <;> rfl
    unfold RStep at h
    by_cases hw : Region.wanted o (yielded ops tmps) = true
    · rw [if_pos hw] at h
      rw [if_pos hw]
      unfold Oper.wp at h ⊢
      rw [e d' df]
      revert h
      generalize (execOp (⟨tmps, df⟩ : Act).eval o).run P w = r
      intro h
      cases r with
      | ok n w' =>
        cases n <;> simp only [Oper.upon] at h ⊢
        case value v =>
          obtain ⟨u, h1, h2, h3⟩ := h
          have hu : (⟨tmps, d'⟩ : Act).put o.dst v = (⟨tmps, d'⟩ : Act).put o.dst u := by
            revert h1
            cases o.dst with
            | none => intro _; rfl
            | some d => intro h1; simp only [Act.put, Act.mk.injEq, and_true] at h1 ⊢; exact h1
          exact ⟨u, hu, h2, h3⟩
        case skip =>
          obtain ⟨u, h1, h2, h3⟩ := h
          have hu : (⟨tmps, d'⟩ : Act).put o.dst undef = (⟨tmps, d'⟩ : Act).put o.dst u := by
            revert h1
            cases o.dst with
            | none => intro _; rfl
            | some d => intro h1; simp only [Act.put, Act.mk.injEq, and_true] at h1 ⊢; exact h1
          exact ⟨u, hu, h2, h3⟩
        case defer d =>
          obtain ⟨u, h1, _⟩ := h
          exfalso
          revert h1
          cases o.dst <;> simp [Act.put]
        case enter f args =>
          refine Calls.mono h fun en w'' he => ?_
          cases en with
          | returned v =>
            obtain ⟨u, h1, h2, h3⟩ := he
            have hu : (⟨tmps, d'⟩ : Act).put o.dst v = (⟨tmps, d'⟩ : Act).put o.dst u := by
              revert h1
              cases o.dst with
              | none => intro _; rfl
              | some d => intro h1; simp only [Act.put, Act.mk.injEq, and_true] at h1 ⊢; exact h1
            exact ⟨u, hu, h2, h3⟩
          | panicked c => exact he
          | outgrown => exact he
        case row r zs9 =>
          refine Rows.mono h fun v w'' he => ?_
          obtain ⟨u, h1, h2, h3⟩ := he
          have hu : (⟨tmps, d'⟩ : Act).put o.dst v = (⟨tmps, d'⟩ : Act).put o.dst u := by
            revert h1
            cases o.dst with
            | none => intro _; rfl
            | some d => intro h1; simp only [Act.put, Act.mk.injEq, and_true] at h1 ⊢; exact h1
          exact ⟨u, hu, h2, h3⟩
        all_goals exact h
      | halt x w' => cases x <;> simp only [Oper.upon] at h ⊢
    · rw [if_neg hw] at h
      rw [if_neg hw]
      exact h
  · intro a w hle hd hsz hfr hty
    obtain ⟨tmps, d'⟩ := a
    simp only at hd
    subst hd
    exact hpost tmps w hle hsz (fun t ht => by have := hfr t (freeB_spec ht); rwa [hg, hg] at this) (fun k t hk => by have := hty k t hk; rwa [hg] at this)
  · simp only [Array.getD_eq_getD_getElem?, Array.getElem?_replicate] at hk
    split at hk <;> simp at hk

/-- the frame behind the region, written out -/
theorem frame_eq {ops : Array Oper} {tm tmps : Array Value} (D : List Nat) (hs : tmps.size = tm.size) (hfr : ∀ t, freeB ops t = true → tmps[t]?.getD undef = tm[t]?.getD undef)
    (hD : ((List.range tm.size).all fun t => D.contains t || freeB ops t) = true) :
    tmps = D.foldl (fun acc d => acc.setIfInBounds d (tmps[d]?.getD undef)) tm := by
  have size_fold : ∀ (L : List Nat) (x : Array Value), (L.foldl (fun acc d => acc.setIfInBounds d (tmps[d]?.getD undef)) x).size = x.size := by
    intro L
    induction L with
    | nil => intro x; rfl
    | cons d L ih => intro x; simp [ih]
  have get_fold : ∀ (L : List Nat) (x : Array Value) (t : Nat), t < x.size →
      (L.foldl (fun acc d => acc.setIfInBounds d (tmps[d]?.getD undef)) x)[t]? = if t ∈ L then some (tmps[t]?.getD undef) else x[t]? := by
    intro L
    induction L with
    | nil => intro x t _; simp
    | cons d L ih =>
      intro x t ht
      rw [List.foldl_cons, ih _ t (by simpa using ht)]
      by_cases h1 : t ∈ L
      · simp [h1]
      · by_cases h2 : d = t
        · subst h2
          simp [h1, Array.getElem?_setIfInBounds_self_of_lt ht]
        · have h3 : ¬ t = d := fun e => h2 e.symm
          simp [h1, h3, Array.getElem?_setIfInBounds_ne h2]
  apply Array.ext_getElem?
  intro t
  rcases Nat.lt_or_ge t tm.size with ht | ht
  · rw [get_fold D tm t ht]
    have htm : tmps[t]? = some (tmps[t]?.getD undef) := by
      rw [Array.getElem?_eq_getElem (by omega)]; rfl
    by_cases hm : t ∈ D
    · rw [if_pos hm]; exact htm
    · rw [if_neg hm, htm]
      have h1 := List.all_eq_true.1 hD t (List.mem_range.2 ht)
      have h2 : freeB ops t = true := by
        simpa [hm] using h1
      rw [hfr t h2, Array.getElem?_eq_getElem ht]; rfl
  · rw [Array.getElem?_eq_none (by omega), Array.getElem?_eq_none (by rw [size_fold]; exact ht)]

end Go.Proofs.Ytaahaehgdamkdaa

/- Words for memory: what only grows, cells that lie behind an address, a list of bytes behind a slice. Conditions: none. -/
namespace Go.Proofs.Ytaahaehgdamkdaa
open Go Go.RowKit Go.Lib

theorem hid {p : Prop} (h : p) : Hid p := h

/-- what was there is there as it was -/
def Ext (w w' : World) : Prop := Below w.heap.size w w'

theorem Ext.refl (w : World) : Ext w w := Below.refl _ _
theorem Ext.trans {x y z : World} (h : Ext x y) (k : Ext y z) : Ext x z := Below.trans h (Below.mono k h.size)
theorem Ext.drew (w : World) : Ext w w.drew := (Below.refl _ _).drew
theorem Ext.drewN (w : World) (n : Nat) : Ext w (w.drewN n) := ⟨rfl, rfl, rfl, Nat.le_refl _, fun _ _ => rfl⟩
theorem Ext.alloc (w : World) (o : Obj) : Ext w (w.alloc o) := (Below.refl _ _).alloc (Nat.le_refl _) o
theorem Ext.then_drew {x y : World} (h : Ext x y) : Ext x y.drew := h.trans (Ext.drew y)
theorem Ext.then_alloc {x y : World} (h : Ext x y) (o : Obj) : Ext x (y.alloc o) := h.trans (Ext.alloc y o)
theorem Ext.cell {w w' : World} (h : Ext w w') {p : Addr} {u : Value} (hc : w.cell? p = some u) : w'.cell? p = some u :=
  (Below.cell h (World.block_lt_of_cell? w p hc)).trans hc
theorem Ext.block {w w' : World} (h : Ext w w') {k : Nat} {o : Obj} (hc : w.heap[k]? = some o) : w'.heap[k]? = some o :=
  (Below.block h k (Array.getElem?_eq_some_iff.1 hc).1).trans hc
/-- a world that grew, but for one block that was not there at first -/
theorem Ext.grown {x y z : World} {row : Option Nat} (h : Ext x y) (hg : y.grownBy z row) (hr : ∀ k, row = some k → x.heap.size ≤ k) : Ext x z :=
  Below.grown h hg h.size hr
theorem Ext.setCell {x y : World} (h : Ext x y) {p : Addr} (hp : x.heap.size ≤ p.block) (u : Value) : Ext x (y.setCell p u) := Below.setCell h hp u

theorem add_two (a : Addr) (i j : Nat) : (a.add i).add j = a.add (i + j) := by
  unfold Addr.add
  by_cases hi : i = 0 <;> by_cases hj : j = 0 <;> simp [hi, hj, Nat.add_assoc]

/-- the cells xs lie from A on -/
def Lies (w : World) (A : Option Addr) (xs : List Value) : Prop := xs ≠ [] → ∃ ad, A = some ad ∧ ∀ j u, xs[j]? = some u → w.cell? (ad.add j) = some u

theorem Lies.ext {w w' : World} {A : Option Addr} {xs : List Value} (h : Lies w A xs) (e : Ext w w') : Lies w' A xs := fun hx => by
  obtain ⟨ad, ha, hc⟩ := h hx
  exact ⟨ad, ha, fun j u hu => e.cell (hc j u hu)⟩
theorem Lies.take {w : World} {A : Option Addr} {xs : List Value} (h : Lies w A xs) (n : Nat) : Lies w A (xs.take n) := fun hx => by
  obtain ⟨ad, ha, hc⟩ := h (by intro e; subst e; simp at hx)
  refine ⟨ad, ha, fun j u hu => hc j u ?_⟩
  rw [List.getElem?_take] at hu
  split at hu
  · exact hu
  · cases hu
/-- the cut that the model makes: at the capacity's end the address is kept -/
theorem Lies.cut {w : World} {A : Option Addr} {xs : List Value} {k cap : Nat} (h : Lies w A xs) (hc : xs.length ≤ cap) :
    Lies w (if cap = k then A else A.map (·.add k)) (xs.drop k) := fun hx => by
  have hk : k < xs.length := by
    rcases Nat.lt_or_ge k xs.length with h1 | h1
    · exact h1
    · exact absurd (List.drop_eq_nil_of_le h1) hx
  obtain ⟨ad, rfl, hcell⟩ := h (by intro e; subst e; simp at hk)
  rw [if_neg (by omega)]
  refine ⟨ad.add k, rfl, fun j u hu => ?_⟩
  rw [add_two]
  exact hcell _ u (by rw [← hu, List.getElem?_drop])
/-- bytes as cells -/
def bv (b : UInt8) : Value := .int .u8 (b.toNat : Int)
def bvs (l : List UInt8) : List Value := l.map bv
theorem bvs_length (l : List UInt8) : (bvs l).length = l.length := by simp [bvs]
theorem bvs_append (l m : List UInt8) : bvs (l ++ m) = bvs l ++ bvs m := by simp [bvs]
theorem bvs_one (l : List UInt8) : ∀ u ∈ bvs l, u.oneCell' = true := by
  intro u hu
  obtain ⟨_, _, rfl⟩ := List.mem_map.1 hu
  rfl
theorem bvs_zeros (n : Nat) : bvs (List.replicate n 0) = List.replicate n (.int .u8 0) := by simp [bvs, bv]
theorem bvs_take (l : List UInt8) (n : Nat) : bvs (l.take n) = (bvs l).take n := by simp [bvs, List.map_take]
theorem bvs_drop (l : List UInt8) (n : Nat) : bvs (l.drop n) = (bvs l).drop n := by simp [bvs, List.map_drop]

/-- the slice v reads as the bytes l -/
def Bytes (w : World) (v : Value) (l : List UInt8) : Prop := ∃ A c, v = .slice A l.length c ∧ l.length ≤ c ∧ c ≤ maxLen ∧ Lies w A (bvs l)

theorem Bytes.ext {w w' : World} {v : Value} {l : List UInt8} (h : Bytes w v l) (e : Ext w w') : Bytes w' v l := by
  obtain ⟨A, c, h1, h2, h3, h4⟩ := h
  exact ⟨A, c, h1, h2, h3, h4.ext e⟩
theorem own_len {w : World} {base n : Nat} {e : TypeId} {v : Value} {l : List UInt8} (h : w.ownsRow base e 1 v n (bvs l)) : w.ownsRow base e 1 v l.length (bvs l) := by
  have hl : l.length = n := by have := h.1; rwa [bvs_length, Nat.mul_one] at this
  rw [hl]; exact h

/-- a struct in a cell and a plain value are answered -/
theorem ret_cell_tmp {P : Program} {fn : Func} {p u : Tmp} {ty : TypeId} (h : fn.results = #[.cell p ty, .tmp u]) (tmps : Array Value) (w : World) (g : Nat) (t : TypeId) (cs : Array Value) (fr : Nat × Nat) (d : TypeDesc)
    (hp : tmps.getD p undef = .pointer (some ⟨g, 0, none⟩)) (hg : w.heap[g]? = some (.cells cs t fr))
    (hu : P.underlying ty = some d) (hd : (match d with | .struct _ | .array _ _ => true | _ => false) = true) (hi : (P.info? ty).map (·.size) = some cs.size) :
    (results fn tmps).run P w = .ok (.tuple #[.agg cs, tmps.getD u undef]) w := by
  have hp' : tmps[p]?.getD undef = .pointer (some ⟨g, 0, none⟩) := by simpa using hp
  simp [results, h, hp', asAddr, run_loadVar_row w g t ty cs fr d hg hu hd hi]

theorem size_toList (s : ByteArray) : s.data.toList.length = s.size := rfl

/-- copy out of a string that fits, into a row of bytes -/
theorem wpList_copy_str {P : Program} {w : World} {ops : Array Oper} {rest : List Oper} {o : Oper} {a : Act} {Q : Exit → Act → World → Prop} (hgd : o.guard = none) (d x : Operand) (dT sT : TypeId)
    (ho : o.op = .call { callee := .builtin .copy, args := #[d, x], argTypes := #[dT, sT] }) (elem : TypeId) (hu : P.underlying dT = some (.slice elem)) (hsz : (P.info? elem).map (·.size) = some 1)
    (dp : Option Addr) (dLen dCap : Nat) (s : ByteArray) (hd : a.eval d = .slice dp dLen dCap) (hs : a.eval x = .string s)
    (g off : Nat) (cur : List UInt8) (t : TypeId) (hg : w.heap[g]? = some (.cells (bvs cur).toArray t (0, 0))) (hle : s.size ≤ dLen)
    (hpos : 0 < s.size → dp = some ⟨g, off, none⟩) (hfit : off + s.size ≤ cur.length)
    (h : ∀ w', Hid (w'.heap[g]? = some (.cells (bvs (cur.take off ++ (s.data.toList ++ cur.drop (off + s.size)))).toArray t (0, 0))) → w.grownBy w' (some g) → wpList P ops Q rest (a.put o.dst (goInt s.size)) w') :
    wpList P ops Q (o :: rest) a w := by
  refine wpList_plain hgd fun K hK => ?_
  cases hq : P.info? elem with
  | none => simp [hq] at hsz
  | some i =>
    by_cases h0 : s.size = 0
    · have hrun : (Builtin.copy_ #[dT, sT] o.type #[.slice dp dLen dCap, .string s]).run P w = .ok (goInt s.size) w := by
        cases dp <;> simp [Builtin.copy_, run_underlying hu, Builtin.lenOf, Builtin.firstCells, sizeOf, typeInfo, hq, h0, storeCells]
      unfold Oper.wp
      simp [execOp, ho, resolve, invoke, builtin, hd, hs, hrun, Result.andThen]
      refine hK _ _ (h w ?_ (World.grownBy.refl w _))
      have hnil : s.data.toList = [] := List.eq_nil_of_length_eq_zero (by rw [size_toList]; exact h0)
      show _ = _
      rw [hnil, h0]
      simpa using hg
    · have hdp := hpos (by omega)
      subst hdp
      have hlen : (bvs s.data.toList).length = s.size := by rw [bvs_length, size_toList]
      have hst := run_storeCells_at P g off t (bvs s.data.toList) 0 (bvs cur).toArray w hg (by simp [bvs_length]; omega) (bvs_one _)
      have htk : List.take s.size (List.map (fun b : UInt8 => Value.int IntKind.u8 (b.toNat : Int)) s.data.toList) = bvs s.data.toList :=
        List.take_of_length_le (by rw [List.length_map, size_toList]; exact Nat.le_refl _)
      rw [hlen] at hst
      simp only [Nat.add_zero] at hst
      have hrun : (Builtin.copy_ #[dT, sT] o.type #[.slice (some ⟨g, off, none⟩) dLen dCap, .string s]).run P w =
          .ok (goInt s.size) (w.setRow g ((bvs cur).take off ++ bvs s.data.toList ++ (bvs cur).drop (off + s.size)).toArray) := by
        simp [Builtin.copy_, run_underlying hu, Builtin.lenOf, Builtin.firstCells, sizeOf, typeInfo, hq, Nat.min_eq_left hle]
        rw [htk, hst]
        simp [Result.andThen]
      unfold Oper.wp
      simp [execOp, ho, resolve, invoke, builtin, hd, hs, hrun, Result.andThen]
      refine hK _ _ (h _ ?_ ⟨rfl, rfl, rfl, by simp [World.setRow], fun k _ hk => setRow_other w g k _ (fun e => hk (by rw [e]))⟩)
      show _ = _
      have h2 := setRow_heap w g _ ((bvs cur).take off ++ bvs s.data.toList ++ (bvs cur).drop (off + s.size)).toArray t _ hg
      simpa [bvs_append, bvs_take, bvs_drop] using h2

end Go.Proofs.Ytaahaehgdamkdaa

/- More words for memory: a part of a slice, a list of numbers behind a slice, one cell of it. Conditions: none. -/
namespace Go.Proofs.Ytaahaehgdamkdaa
open Go Go.RowKit

theorem ba_eq {a b : ByteArray} (h : a.data.toList = b.data.toList) : a = b := by
  cases a
  cases b
  congr 1
  exact Array.toList_inj.1 h

end Go.Proofs.Ytaahaehgdamkdaa

/- How a contract ends: what is told, and that nothing that was there has turned. Conditions: none. -/
namespace Go.Proofs.Ytaahaehgdamkdaa
open Go Go.RowKit

/-- v is told, and nothing that was there has turned -/
def Says (w : World) (v : Value) (e : Ending) (w' : World) : Prop := e = .returned v ∧ Ext w w'
/-- new bytes are told, and nothing that was there has turned -/
def Told1 (w : World) (l : List UInt8) (e : Ending) (w' : World) : Prop := ∃ r, e = .returned r ∧ w'.ownsRow w.heap.size 5 1 r l.length (bvs l) ∧ Ext w w'
theorem Told1.mk {w w' : World} {l : List UInt8} {r : Value} {n : Nat} (hb : w'.ownsRow w.heap.size 5 1 r n (bvs l)) (hx : Ext w w') : Told1 w l (.returned r) w' := ⟨r, rfl, own_len hb, hx⟩

theorem Says.mk_int {w w' : World} {k : IntKind} {x y : Int} (h : x = y) (hx : Ext w w') : Says w (.int k y) (.returned (.int k x)) w' := by
  subst h
  exact ⟨rfl, hx⟩
/-- v is told, and the world is as it was -/
def Just (w : World) (v : Value) (e : Ending) (w' : World) : Prop := e = .returned v ∧ w' = w
theorem Just.mk_int {w : World} {k : IntKind} {x y : Int} (h : x = y) : Just w (.int k y) (.returned (.int k x)) w := by
  subst h
  exact ⟨rfl, rfl⟩
theorem Just.mk_bool {w : World} {x y : Bool} (h : x = y) : Just w (.bool y) (.returned (.bool x)) w := by
  subst h
  exact ⟨rfl, rfl⟩
theorem Just.says {w w' : World} {v : Value} {e : Ending} (h : Just w v e w') : Says w v e w' := ⟨h.1, by rw [h.2]; exact Ext.refl w⟩

theorem infoByte : (Try.prog.info? 5).map (fun i => (i.zero, i.size, i.bytes)) = some (some (.int .u8 0), 1, 1) := by kernel_rfl
end Go.Proofs.Ytaahaehgdamkdaa

/- Bits of bytes and of numbers of 64 bits. Plain; conditions: none. -/
namespace Go.Proofs.Ytaahaehgdamkdaa
open Go

/-- all ones less b -/
theorem ones_xor (b : Nat) (hb : b < 2 ^ 64) : (2 ^ 64 - 1) ^^^ b = 2 ^ 64 - 1 - b := by
  apply Nat.eq_of_testBit_eq
  intro i
  rw [Nat.testBit_xor, Nat.testBit_two_pow_sub_one, show 2 ^ 64 - 1 - b = 2 ^ 64 - (b + 1) by omega, Nat.testBit_two_pow_sub_succ hb]
  by_cases hi : i < 64
  · simp [hi]
  · have : b.testBit i = false := Nat.testBit_lt_two_pow (Nat.lt_of_lt_of_le hb (Nat.pow_le_pow_right (by decide) (by omega)))
    simp [hi, this]

theorem u64_not {x : Int} (h0 : 0 ≤ x) (h1 : x < 18446744073709551616) : bits .xor .u64 IntKind.u64.max x = 18446744073709551615 - x := by
  obtain ⟨b, rfl⟩ := Int.eq_ofNat_of_zero_le h0
  have e2 : IntKind.u64.max = ((2 ^ 64 - 1 : Nat) : Int) := by decide
  rw [e2, u64_xor_nat _ _ (by decide) (by omega), ones_xor _ (by omega)]
  omega

end Go.Proofs.Ytaahaehgdamkdaa

/- Sevens: numbers as zig lays and reads them, and folded whole numbers. Plain arithmetic; conditions: none. -/
namespace Go.Proofs.Ytaahaehgdamkdaa
open Go

/-- how many sevens -/
def zs (u : Nat) : Nat := if u < 128 then 1 else zs (u / 128) + 1
  termination_by u
  decreasing_by omega

/-- the k lowest sevens, each told to have one behind it -/
def hi : Nat → Nat → List UInt8
  | 0, _ => []
  | k + 1, u => hi k u ++ [UInt8.ofNat (u / 128 ^ k % 128 + 128)]

/-- a number's bytes -/
def zb (u : Nat) : List UInt8 := hi (zs u - 1) u ++ [UInt8.ofNat (u / 128 ^ (zs u - 1))]

end Go.Proofs.Ytaahaehgdamkdaa

/- zig.Take and zig.TakeInt, by their contracts. Conditions: the reach of a string. -/
namespace Go.Proofs.Ytaahaehgdamkdaa
open Go Go.RowKit

/-- what is read is told -/
def SaysT (w : World) (t : Nat × Int × Int) (e : Ending) (w' : World) : Prop := e = .returned (.tuple #[.int .u64 (t.1 : Int), .int .i64 t.2.1, .int .i64 t.2.2]) ∧ Ext w w'
theorem SaysT.mk {w w' : World} {t : Nat × Int × Int} {u : Nat} {n e : Int} (h : t = (u, n, e)) (hx : Ext w w') : SaysT w t (.returned (.tuple #[.int .u64 (u : Int), .int .i64 n, .int .i64 e])) w' := by
  subst h
  exact ⟨rfl, hx⟩

end Go.Proofs.Ytaahaehgdamkdaa

/- Doubles by their bits: what they are, how they stand, and how whole multiples of the least one are rounded. Plain arithmetic; conditions: none. -/
namespace Go.Proofs.Ytaahaehgdamkdaa
open Go

/-- a half, rounded to the even one: N / 2^k -/
def rhe (N k : Nat) : Nat := N / 2 ^ k + if 2 ^ k < 2 * (N % 2 ^ k) ∨ (2 ^ k = 2 * (N % 2 ^ k) ∧ N / 2 ^ k % 2 = 1) then 1 else 0

theorem rhe_zero (N : Nat) : rhe N 0 = N := by
  unfold rhe
  rw [Nat.pow_zero, Nat.div_one, Nat.mod_one, if_neg (by omega)]
  rfl

theorem rhe_ge (N k : Nat) : N / 2 ^ k ≤ rhe N k := Nat.le_add_right _ _
theorem rhe_le (N k : Nat) : rhe N k ≤ N / 2 ^ k + 1 := by unfold rhe; split <;> omega

theorem rhe_mono {N M : Nat} (k : Nat) (h : N ≤ M) : rhe N k ≤ rhe M k := by
  have hp : 0 < 2 ^ k := Nat.pow_pos (by decide)
  rcases Nat.lt_or_ge (N / 2 ^ k) (M / 2 ^ k) with h1 | h1
  · have := rhe_le N k
    have := rhe_ge M k
    omega
  · have h2 : N / 2 ^ k = M / 2 ^ k := Nat.le_antisymm (Nat.div_le_div_right h) h1
    have e1 := Nat.div_add_mod N (2 ^ k)
    have e2 := Nat.div_add_mod M (2 ^ k)
    rw [h2] at e1
    have h3 : N % 2 ^ k ≤ M % 2 ^ k := by omega
    unfold rhe
    rw [h2]
    generalize 2 ^ k = K at *
    split <;> split <;> omega

theorem rhe_exact {N k : Nat} (h : N % 2 ^ k = 0) : rhe N k = N / 2 ^ k := by
  have hp : 0 < 2 ^ k := Nat.pow_pos (by decide)
  unfold rhe
  rw [h, if_neg (by omega)]
  rfl

/-- how far a number is moved down -/
def dn (N : Nat) : Nat := N.log2 - 52
/-- the rung next to a number -/
def rnd (N : Nat) : Nat := dn N * 4503599627370496 + rhe N (dn N)

theorem dn_small {N : Nat} (h : N < 9007199254740992) : dn N = 0 := by
  unfold dn
  rcases Nat.eq_zero_or_pos N with h0 | h0
  · subst h0; rfl
  · have : N.log2 < 53 := (Nat.log2_lt (by omega)).2 (by omega)
    omega
theorem rnd_small {N : Nat} (h : N < 9007199254740992) : rnd N = N := by
  unfold rnd
  rw [dn_small h, rhe_zero]
  omega
theorem dn_big {N : Nat} (h : 9007199254740992 ≤ N) : 0 < dn N ∧ 4503599627370496 * 2 ^ dn N ≤ N ∧ N < 9007199254740992 * 2 ^ dn N := by
  have h0 : N ≠ 0 := by omega
  have h1 : 53 ≤ N.log2 := (Nat.le_log2 h0).2 (by omega)
  have e : N.log2 = dn N + 52 := by unfold dn; omega
  have h2 := Nat.log2_self_le h0
  have h3 := Nat.lt_log2_self (n := N)
  rw [e] at h2 h3
  refine ⟨by omega, ?_, ?_⟩
  · rw [Nat.pow_add] at h2; omega
  · rw [Nat.pow_add, Nat.pow_add] at h3; omega
theorem dn_uniq {N k : Nat} (h0 : k = 0 ∨ 4503599627370496 * 2 ^ k ≤ N) (h1 : N < 9007199254740992 * 2 ^ k) : dn N = k := by
  rcases Nat.lt_or_ge N 9007199254740992 with h | h
  · rw [dn_small h]
    rcases h0 with h0 | h0
    · exact h0.symm
    · rcases Nat.eq_zero_or_pos k with hk | hk
      · exact hk.symm
      · have : 2 ^ 1 ≤ 2 ^ k := Nat.pow_le_pow_right (by decide) hk
        omega
  · obtain ⟨a, b, c⟩ := dn_big h
    rcases Nat.lt_trichotomy (dn N) k with h2 | h2 | h2
    · have h3 : 2 ^ (dn N + 1) ≤ 2 ^ k := Nat.pow_le_pow_right (by decide) h2
      rw [Nat.pow_succ] at h3
      rcases h0 with h0 | h0 <;> omega
    · exact h2
    · have h3 : 2 ^ (k + 1) ≤ 2 ^ dn N := Nat.pow_le_pow_right (by decide) h2
      rw [Nat.pow_succ] at h3
      omega

theorem dn_mono {N M : Nat} (h : N ≤ M) : dn N ≤ dn M := by
  rcases Nat.lt_or_ge N 9007199254740992 with h1 | h1
  · rw [dn_small h1]; exact Nat.zero_le _
  · obtain ⟨a, b, c⟩ := dn_big h1
    obtain ⟨a2, b2, c2⟩ := dn_big (Nat.le_trans h1 h)
    rcases Nat.lt_or_ge (dn M) (dn N) with h2 | h2
    · have h3 : 2 ^ (dn M + 1) ≤ 2 ^ dn N := Nat.pow_le_pow_right (by decide) h2
      rw [Nat.pow_succ] at h3
      omega
    · exact h2

/-- what is kept has 53 digits, or all -/
theorem kept_lt (N : Nat) : N / 2 ^ dn N < 9007199254740992 := by
  have hp : 0 < 2 ^ dn N := Nat.pow_pos (by decide)
  rcases Nat.lt_or_ge N 9007199254740992 with h1 | h1
  · rw [dn_small h1]; simpa using h1
  · rw [Nat.div_lt_iff_lt_mul hp]
    exact (dn_big h1).2.2
theorem kept_ge {N : Nat} (h : 0 < dn N) : 4503599627370496 ≤ N / 2 ^ dn N := by
  have hp : 0 < 2 ^ dn N := Nat.pow_pos (by decide)
  rcases Nat.lt_or_ge N 9007199254740992 with h1 | h1
  · rw [dn_small h1] at h; omega
  · rw [Nat.le_div_iff_mul_le hp]
    exact (dn_big h1).2.1

theorem rnd_mono {N M : Nat} (h : N ≤ M) : rnd N ≤ rnd M := by
  have h1 := dn_mono h
  rcases Nat.lt_or_ge (dn N) (dn M) with h2 | h2
  · have a := kept_lt N
    have b := rhe_le N (dn N)
    have c := kept_ge (N := M) (by omega)
    have d := rhe_ge M (dn M)
    unfold rnd
    have e : (dn N + 1) * 4503599627370496 ≤ dn M * 4503599627370496 := Nat.mul_le_mul h2 (Nat.le_refl _)
    omega
  · have h3 : dn N = dn M := by omega
    have := rhe_mono (dn M) h
    unfold rnd
    rw [h3]
    omega

/-- what a rung is worth -/
def worthR (r : Nat) : Nat := if r < 4503599627370496 then r else (4503599627370496 + r % 4503599627370496) * 2 ^ (r / 4503599627370496 - 1)

theorem worth_low {r : Nat} (h : r < 9007199254740992) : worthR r = r := by
  unfold worthR
  split
  · rfl
  · have : r / 4503599627370496 = 1 := by omega
    rw [this]
    simp
    omega
theorem worth_high {r : Nat} (h : 4503599627370496 ≤ r) : worthR r = (4503599627370496 + r % 4503599627370496) * 2 ^ (r / 4503599627370496 - 1) := if_neg (by omega)

theorem rnd_worth (r : Nat) : rnd (worthR r) = r := by
  rcases Nat.lt_or_ge r 4503599627370496 with h | h
  · rw [worth_low (by omega), rnd_small (by omega)]
  · rw [worth_high h]
    obtain ⟨k, hk⟩ : ∃ k, r / 4503599627370496 = k + 1 := ⟨r / 4503599627370496 - 1, by omega⟩
    obtain ⟨f, hf⟩ : ∃ f, r % 4503599627370496 = f := ⟨_, rfl⟩
    have hfl : f < 4503599627370496 := by omega
    have hr : r = (k + 1) * 4503599627370496 + f := by omega
    have hp : 0 < 2 ^ k := Nat.pow_pos (by decide)
    rw [hk, hf, Nat.add_sub_cancel]
    have hd : dn ((4503599627370496 + f) * 2 ^ k) = k := by
      refine dn_uniq (Or.inr ?_) ?_
      · exact Nat.mul_le_mul (by omega) (Nat.le_refl _)
      · exact (Nat.mul_lt_mul_right hp).2 (by omega)
    unfold rnd
    rw [hd, rhe_exact (Nat.mul_mod_left _ _), Nat.mul_div_cancel _ hp]
    omega

/-- where nothing is lost, the rung is worth the number -/
theorem worth_rnd {N : Nat} (h : N % 2 ^ dn N = 0) : worthR (rnd N) = N := by
  have hp : 0 < 2 ^ dn N := Nat.pow_pos (by decide)
  have a := kept_lt N
  unfold rnd
  rw [rhe_exact h]
  rcases Nat.eq_zero_or_pos (dn N) with h0 | h0
  · rw [h0] at a ⊢
    rw [Nat.pow_zero, Nat.div_one] at *
    rw [Nat.zero_mul, Nat.zero_add]
    exact worth_low a
  · have b := kept_ge h0
    have e : N / 2 ^ dn N * 2 ^ dn N = N := Nat.div_mul_cancel (Nat.dvd_of_mod_eq_zero h)
    rw [worth_high (by omega)]
    obtain ⟨f, hf⟩ : ∃ f, N / 2 ^ dn N = 4503599627370496 + f := ⟨N / 2 ^ dn N - 4503599627370496, by omega⟩
    rw [hf] at e ⊢
    have e1 : (dn N * 4503599627370496 + (4503599627370496 + f)) % 4503599627370496 = f := by omega
    have e2 : (dn N * 4503599627370496 + (4503599627370496 + f)) / 4503599627370496 - 1 = dn N := by omega
    rw [e1, e2]
    exact e

theorem worth_step (r : Nat) : worthR r < worthR (r + 1) := by
  rcases Nat.lt_or_ge r 9007199254740991 with h | h
  · rw [worth_low (by omega), worth_low (by omega)]; omega
  · rw [worth_high (by omega), worth_high (by omega)]
    obtain ⟨k, hk⟩ : ∃ k, r / 4503599627370496 = k + 1 := ⟨r / 4503599627370496 - 1, by omega⟩
    have hp : 0 < 2 ^ k := Nat.pow_pos (by decide)
    by_cases hf : r % 4503599627370496 = 4503599627370495
    · have e1 : (r + 1) % 4503599627370496 = 0 := by omega
      have e2 : (r + 1) / 4503599627370496 = k + 2 := by omega
      rw [hk, hf, e1, e2, Nat.add_sub_cancel, show k + 2 - 1 = k + 1 by omega, Nat.pow_succ]
      omega
    · have e1 : (r + 1) % 4503599627370496 = r % 4503599627370496 + 1 := by omega
      have e2 : (r + 1) / 4503599627370496 = k + 1 := by omega
      rw [hk, e1, e2, Nat.add_sub_cancel]
      exact (Nat.mul_lt_mul_right hp).2 (by omega)
theorem worth_mono {r s : Nat} (h : r < s) : worthR r < worthR s := by
  obtain ⟨d, rfl⟩ : ∃ d, s = r + 1 + d := ⟨s - (r + 1), by omega⟩
  induction d with
  | zero => exact worth_step r
  | succ d ih => exact Nat.lt_trans (ih (by omega)) (worth_step _)
theorem worth_lt_iff {r s : Nat} : worthR r < worthR s ↔ r < s := by
  constructor
  · intro h
    rcases Nat.lt_or_ge r s with h1 | h1
    · exact h1
    · rcases Nat.eq_or_lt_of_le h1 with h2 | h2
      · subst h2; omega
      · have := worth_mono h2; omega
  · exact worth_mono
end Go.Proofs.Ytaahaehgdamkdaa

/- Doubles: what the document tells of them, and that the model's sums, order and roundings are these. Plain; conditions: none. -/
namespace Go.Proofs.Ytaahaehgdamkdaa
open Go

def exZ (u : Nat) : Nat := u / 4503599627370496 % 2048
def frZ (u : Nat) : Nat := u % 4503599627370496
def rungZ (u : Nat) : Nat := u % 9223372036854775808
def sgZ (u : Nat) : Bool := decide (9223372036854775808 ≤ u)
def kindZ (u : Nat) : Nat := if exZ u = 2047 ∧ frZ u ≠ 0 then 5 else if exZ u = 2047 then 4 else if exZ u ≠ 0 then 3 else if frZ u ≠ 0 then 2 else 1

theorem rung_parts {u : Nat} : rungZ u = exZ u * 4503599627370496 + frZ u := by unfold rungZ exZ frZ; omega
theorem fr_lt (u : Nat) : frZ u < 4503599627370496 := Nat.mod_lt _ (by decide)
theorem ex_lt (u : Nat) : exZ u < 2048 := Nat.mod_lt _ (by decide)
theorem rung_lt (u : Nat) : rungZ u < 9223372036854775808 := Nat.mod_lt _ (by decide)

theorem kind_nan {u : Nat} : kindZ u = 5 ↔ 9218868437227405312 < rungZ u := by
  have := fr_lt u; have := ex_lt u
  rw [rung_parts]; unfold kindZ
  repeat' split
  all_goals omega
theorem kind_inf {u : Nat} : kindZ u = 4 ↔ rungZ u = 9218868437227405312 := by
  have := fr_lt u; have := ex_lt u
  rw [rung_parts]; unfold kindZ
  repeat' split
  all_goals omega
theorem kind_fin {u : Nat} : kindZ u ≠ 5 ∧ kindZ u ≠ 4 ↔ rungZ u < 9218868437227405312 := by
  have h1 := @kind_nan u; have h2 := @kind_inf u
  omega
theorem kind_zero {u : Nat} : kindZ u = 1 ↔ rungZ u = 0 := by
  have := fr_lt u; have := ex_lt u
  rw [rung_parts]; unfold kindZ
  repeat' split
  all_goals omega

def nanC : Nat := 9221120237041090560
def cleanZ (u : Nat) : Nat := if kindZ u = 5 then nanC else u
def rankZ (u : Nat) : Nat := if 9223372036854775808 ≤ cleanZ u then 18446744073709551615 - cleanZ u else cleanZ u + 9223372036854775808
def negZ (u : Nat) : Nat := if kindZ u = 5 then nanC else (u + 9223372036854775808) % 18446744073709551616

/-- a rung with its sign -/
def srkZ (u : Nat) : Int := if sgZ u then -(rungZ u : Int) else (rungZ u : Int)
def equalZ (a b : Nat) : Bool := decide (kindZ a ≠ 5 ∧ kindZ b ≠ 5 ∧ srkZ a = srkZ b)
def lessZ (a b : Nat) : Bool := decide (kindZ a ≠ 5 ∧ kindZ b ≠ 5 ∧ srkZ a < srkZ b)

def wordZ (s : Bool) (r : Nat) : Nat := if s then 9223372036854775808 + r else r
def rdZ (s : Bool) (N : Nat) : Nat := wordZ s (min (rnd N) 9218868437227405312)
def valZ (u : Nat) : Nat := worthR (rungZ u)
def svalZ (u : Nat) : Int := if sgZ u then -(valZ u : Int) else (valZ u : Int)
/-- a sum's sign: of none that is left, of both -/
def sumS (a b : Nat) : Bool := if svalZ a + svalZ b = 0 then sgZ a && sgZ b else decide (svalZ a + svalZ b < 0)
def sumZ (a b : Nat) : Nat := rdZ (sumS a b) (svalZ a + svalZ b).natAbs
def nanSum (a b : Nat) : Prop := kindZ a = 5 ∨ kindZ b = 5 ∨ (kindZ a = 4 ∧ kindZ b = 4 ∧ a ≠ b)
instance (a b : Nat) : Decidable (nanSum a b) := by unfold nanSum; infer_instance
def addZ (a b : Nat) : Nat := if nanSum a b then nanC else if kindZ a = 4 then a else if kindZ b = 4 then b else sumZ a b

theorem word_of (u : Nat) (hu : u < 18446744073709551616) : wordZ (sgZ u) (rungZ u) = u := by
  unfold wordZ sgZ rungZ
  by_cases h : 9223372036854775808 ≤ u
  · rw [decide_eq_true h, if_pos rfl]; omega
  · rw [decide_eq_false h, if_neg (by decide)]; omega

/-! ### the model's words -/
theorem dbl_binade : Ieee.double.binade = 4503599627370496 := by decide
theorem dbl_sign : Ieee.double.signWeight = 9223372036854775808 := by decide
theorem dbl_inf : Ieee.double.infRung = 9218868437227405312 := by decide
theorem dbl_least : Ieee.double.leastPlace = -1074 := by decide
theorem dbl_word (s : Bool) (r : Nat) : Ieee.double.word s r = wordZ s r := by unfold Ieee.Format.word wordZ; rw [dbl_sign]

theorem read_sign (u : Nat) (hu : u < 18446744073709551616) : (u / 9223372036854775808 % 2 == 1) = sgZ u := by
  unfold sgZ
  rw [Bool.eq_iff_iff, beq_iff_eq, decide_eq_true_iff]
  omega

theorem read_num {u : Nat} (hu : u < 18446744073709551616) (h : rungZ u < 9218868437227405312) :
    ∃ (m : Nat) (p : Int), Ieee.double.read u = .number (sgZ u) m p ∧ -1074 ≤ p ∧ m * 2 ^ (p + 1074).toNat = valZ u := by
  unfold Ieee.Format.read
  simp only [dbl_binade, dbl_sign, dbl_inf, dbl_least, read_sign u hu]
  have e : u % 9223372036854775808 = rungZ u := rfl
  rw [e]
  by_cases h1 : rungZ u < 4503599627370496
  · rw [if_pos h1]
    refine ⟨_, _, rfl, by omega, ?_⟩
    unfold valZ
    rw [worth_low (by omega)]
    simp
  · rw [if_neg h1, if_pos h]
    refine ⟨_, _, rfl, by omega, ?_⟩
    unfold valZ
    rw [worth_high (by omega)]
    congr 2
    omega
theorem read_inf {u : Nat} (hu : u < 18446744073709551616) (h : rungZ u = 9218868437227405312) : Ieee.double.read u = .infinity (sgZ u) := by
  unfold Ieee.Format.read
  simp only [dbl_binade, dbl_sign, dbl_inf, dbl_least, read_sign u hu]
  have e : u % 9223372036854775808 = rungZ u := rfl
  rw [e, if_neg (by omega), if_neg (by omega), if_pos h]
theorem read_nan {u : Nat} (h : 9218868437227405312 < rungZ u) : ∃ s f, Ieee.double.read u = .nan s f := by
  unfold Ieee.Format.read
  simp only [dbl_binade, dbl_sign, dbl_inf, dbl_least]
  have e : u % 9223372036854775808 = rungZ u := rfl
  rw [e, if_neg (by omega), if_neg (by omega), if_neg (by omega)]
  exact ⟨_, _, rfl⟩

theorem cut_zero (s : Bool) (n : Nat) : Ieee.Toward.even.cut s n 0 = n := by
  unfold Ieee.Toward.cut
  simp [Nat.mod_one]

theorem cut_rhe (s : Bool) (n k : Nat) (h : k ≤ n.log2 + 2) : Ieee.Toward.even.cut s n k = rhe n k := by
  unfold Ieee.Toward.cut rhe
  simp only [Nat.min_eq_left h, Nat.one_shiftLeft]
  congr 1
  by_cases h1 : 2 ^ k < 2 * (n % 2 ^ k) ∨ (2 ^ k = 2 * (n % 2 ^ k) ∧ n / 2 ^ k % 2 = 1)
  · rw [if_pos h1]
    have : (decide (2 ^ k < 2 * (n % 2 ^ k)) || (2 ^ k == 2 * (n % 2 ^ k)) && (n / 2 ^ k % 2 == 1)) = true := by simpa using h1
    rw [this]; rfl
  · rw [if_neg h1]
    have : (decide (2 ^ k < 2 * (n % 2 ^ k)) || (2 ^ k == 2 * (n % 2 ^ k)) && (n / 2 ^ k % 2 == 1)) = false := by
      rw [Bool.eq_false_iff]
      intro h2
      exact h1 (by simpa using h2)
    rw [this]; rfl

theorem rhe_scale (n j k : Nat) : rhe (n * 2 ^ j) (k + j) = rhe n k := by
  have hp : 0 < 2 ^ j := Nat.pow_pos (by decide)
  have e1 : n * 2 ^ j / 2 ^ (k + j) = n / 2 ^ k := by rw [Nat.pow_add, Nat.mul_div_mul_right _ _ hp]
  have e2 : n * 2 ^ j % 2 ^ (k + j) = n % 2 ^ k * 2 ^ j := by rw [Nat.pow_add, Nat.mul_mod_mul_right]
  unfold rhe
  rw [e1, e2, Nat.pow_add]
  congr 1
  have e3 : 2 ^ k * 2 ^ j < 2 * (n % 2 ^ k * 2 ^ j) ↔ 2 ^ k < 2 * (n % 2 ^ k) := by
    rw [← Nat.mul_assoc]; exact Nat.mul_lt_mul_right hp
  have e4 : 2 ^ k * 2 ^ j = 2 * (n % 2 ^ k * 2 ^ j) ↔ 2 ^ k = 2 * (n % 2 ^ k) := by
    rw [← Nat.mul_assoc]; exact Nat.mul_left_inj (by omega)
  simp only [e3, e4]

theorem log2_shift {m : Nat} (d : Nat) (h : m ≠ 0) : (m * 2 ^ d).log2 = m.log2 + d := by
  have hm : m * 2 ^ d ≠ 0 := Nat.mul_ne_zero h (Nat.pos_iff_ne_zero.1 (Nat.pow_pos (by decide)))
  have hp : 0 < 2 ^ d := Nat.pow_pos (by decide)
  refine (Nat.log2_eq_iff hm).2 ⟨?_, ?_⟩
  · rw [Nat.pow_add]; exact Nat.mul_le_mul (Nat.log2_self_le h) (Nat.le_refl _)
  · rw [show m.log2 + d + 1 = (m.log2 + 1) + d by omega, Nat.pow_add]
    exact (Nat.mul_lt_mul_right hp).2 Nat.lt_log2_self

theorem nearest_rd (s : Bool) (m : Nat) (p : Int) (hp : -1074 ≤ p) : Ieee.double.nearest s m p = rdZ s (m * 2 ^ (p + 1074).toNat) := by
  unfold Ieee.Format.nearest
  by_cases hm : m = 0
  · subst hm
    rw [if_pos rfl, dbl_word, Nat.zero_mul]
    unfold rdZ
    rw [rnd_small (by omega), Nat.zero_min]
  · rw [if_neg hm]
    simp only [dbl_least, dbl_binade, dbl_inf, dbl_word]
    unfold rdZ
    refine congrArg (fun x => wordZ s (min x 9218868437227405312)) ?_
    obtain ⟨d, hd⟩ : ∃ d : Nat, p = (d : Int) - 1074 := ⟨(p + 1074).toNat, by omega⟩
    subst hd
    rw [show ((d : Int) - 1074 + 1074).toNat = d by omega]
    have hl := log2_shift d hm
    have hf : (Ieee.double.fractionBits : Int) = 52 := by decide
    rw [hf]
    have hdn : dn (m * 2 ^ d) = m.log2 + d - 52 := by unfold dn; rw [hl]
    unfold rnd
    rw [hdn]
    obtain ⟨k, hk⟩ : ∃ k, k = m.log2 + d - 52 := ⟨_, rfl⟩
    rw [← hk]
    have hmax : max ((d : Int) - 1074 + (m.log2 : Int) - 52) (-1074) = (k : Int) - 1074 := by omega
    rw [hmax]
    rw [show ((k : Int) - 1074 - -1074).toNat = k by omega]
    congr 1
    rcases Nat.lt_or_ge d k with h1 | h1
    · rw [show ((d : Int) - 1074 - ((k : Int) - 1074)).toNat = 0 by omega, show ((k : Int) - 1074 - ((d : Int) - 1074)).toNat = k - d by omega, Nat.shiftLeft_zero, cut_rhe _ _ _ (by omega)]
      have := rhe_scale m d (k - d)
      rw [show k - d + d = k by omega] at this
      exact this.symm
    · rw [show ((d : Int) - 1074 - ((k : Int) - 1074)).toNat = d - k by omega, show ((k : Int) - 1074 - ((d : Int) - 1074)).toNat = 0 by omega, cut_zero, Nat.shiftLeft_eq]
      have hp : 0 < 2 ^ k := Nat.pow_pos (by decide)
      have e : m * 2 ^ d = m * 2 ^ (d - k) * 2 ^ k := by rw [Nat.mul_assoc, ← Nat.pow_add, show d - k + k = d by omega]
      rw [e, rhe_exact (Nat.mul_mod_left _ _), Nat.mul_div_cancel _ hp]

theorem signed_val (s : Bool) (m : Nat) (p base : Int) (hb : -1074 ≤ base) (hp : base ≤ p) :
    Ieee.signed s m (p - base).toNat * 2 ^ (base + 1074).toNat = if s then -((m * 2 ^ (p + 1074).toNat : Nat) : Int) else ((m * 2 ^ (p + 1074).toNat : Nat) : Int) := by
  have e : (m <<< (p - base).toNat) * 2 ^ (base + 1074).toNat = m * 2 ^ (p + 1074).toNat := by
    rw [Nat.shiftLeft_eq, Nat.mul_assoc, ← Nat.pow_add]
    congr 2
    omega
  have e2 : ((m <<< (p - base).toNat : Nat) : Int) * 2 ^ (base + 1074).toNat = ((m * 2 ^ (p + 1074).toNat : Nat) : Int) := by
    rw [← e]; simp
  unfold Ieee.signed
  cases s
  · simpa using e2
  · simp only [if_true]
    rw [Int.neg_mul, e2]

theorem add_model {a b : Nat} (ha : a < 18446744073709551616) (hb : b < 18446744073709551616) : Ieee.double.add a b = if nanSum a b then none else some (addZ a b) := by
  have kna := @kind_nan a; have kia := @kind_inf a; have kfa := @kind_fin a
  have knb := @kind_nan b; have kib := @kind_inf b; have kfb := @kind_fin b
  unfold Ieee.Format.add addZ
  rcases Nat.lt_trichotomy (rungZ a) 9218868437227405312 with h1 | h1 | h1
  · obtain ⟨m, p, r1, hp, hv⟩ := read_num ha h1
    rw [r1]
    rcases Nat.lt_trichotomy (rungZ b) 9218868437227405312 with h2 | h2 | h2
    · obtain ⟨n, q, r2, hq, hw⟩ := read_num hb h2
      have hn : ¬ nanSum a b := by unfold nanSum; omega
      rw [r2, if_neg hn, if_neg hn, if_neg (by omega), if_neg (by omega)]
      simp only [Ieee.Datum.sum, Option.map_some, Option.some.injEq]
      show Ieee.double.write _ = _
      unfold Ieee.Format.write
      simp only
      have hmin : -1074 ≤ min p q := by omega
      rw [nearest_rd _ _ _ hmin]
      have s1 := signed_val (sgZ a) m p (min p q) hmin (by omega)
      have s2 := signed_val (sgZ b) n q (min p q) hmin (by omega)
      rw [hv] at s1
      rw [hw] at s2
      have hK : (0 : Int) < 2 ^ (min p q + 1074).toNat := Int.pow_pos (by omega)
      have ht : (Ieee.signed (sgZ a) m (p - min p q).toNat + Ieee.signed (sgZ b) n (q - min p q).toNat) * 2 ^ (min p q + 1074).toNat = svalZ a + svalZ b := by
        rw [Int.add_mul, s1, s2]; rfl
      generalize Ieee.signed (sgZ a) m (p - min p q).toNat + Ieee.signed (sgZ b) n (q - min p q).toNat = T at ht ⊢
      unfold sumZ sumS
      rw [← ht]
      have e0 : (T * 2 ^ (min p q + 1074).toNat = 0) ↔ T = 0 := by
        rw [Int.mul_eq_zero]; omega
      have e1 : (T * 2 ^ (min p q + 1074).toNat < 0) ↔ T < 0 := by
        constructor
        · intro h
          rcases Int.lt_or_le T 0 with h3 | h3
          · exact h3
          · have := Int.mul_nonneg h3 (Int.le_of_lt hK); omega
        · intro h; exact Int.mul_neg_of_neg_of_pos h hK
      have e2 : (T * 2 ^ (min p q + 1074).toNat).natAbs = T.natAbs * 2 ^ (min p q + 1074).toNat := by
        rw [Int.natAbs_mul, Int.natAbs_pow]; rfl
      rw [e2]
      simp only [e0, e1]
    · have hn : ¬ nanSum a b := by unfold nanSum; omega
      rw [read_inf hb h2, if_neg hn, if_neg hn, if_neg (by omega), if_pos (by omega)]
      simp only [Ieee.Datum.sum, Option.map_some, Option.some.injEq]
      show Ieee.double.write _ = _
      unfold Ieee.Format.write
      simp only [dbl_inf, dbl_word]
      rw [← h2]; exact word_of b hb
    · obtain ⟨s, f, r2⟩ := read_nan h2
      rw [r2, if_pos (by unfold nanSum; omega)]
      rfl
  · rw [read_inf ha h1]
    rcases Nat.lt_trichotomy (rungZ b) 9218868437227405312 with h2 | h2 | h2
    · obtain ⟨n, q, r2, hq, hw⟩ := read_num hb h2
      have hn : ¬ nanSum a b := by unfold nanSum; omega
      rw [r2, if_neg hn, if_neg hn, if_pos (by omega)]
      simp only [Ieee.Datum.sum, Option.map_some, Option.some.injEq]
      show Ieee.double.write _ = _
      unfold Ieee.Format.write
      simp only [dbl_inf, dbl_word]
      rw [← h1]; exact word_of a ha
    · rw [read_inf hb h2]
      have wa := word_of a ha
      have wb := word_of b hb
      rw [h1] at wa
      rw [h2] at wb
      by_cases hs : sgZ a = sgZ b
      · have hab : a = b := by rw [← wa, ← wb, hs]
        have hn : ¬ nanSum a b := by unfold nanSum; omega
        rw [if_neg hn, if_neg hn, if_pos (by omega)]
        simp only [Ieee.Datum.sum, if_pos hs, Option.map_some, Option.some.injEq]
        show Ieee.double.write _ = _
        unfold Ieee.Format.write
        simp only [dbl_inf, dbl_word]
        exact wa
      · have hab : a ≠ b := fun e => hs (by rw [e])
        rw [if_pos (by unfold nanSum; omega)]
        simp only [Ieee.Datum.sum, if_neg hs]
        rfl
    · obtain ⟨s, f, r2⟩ := read_nan h2
      rw [r2, if_pos (by unfold nanSum; omega)]
      rfl
  · obtain ⟨s, f, r1⟩ := read_nan h1
    rw [r1, if_pos (by unfold nanSum; omega)]
    rfl

end Go.Proofs.Ytaahaehgdamkdaa

/- Doubles: their order, the model's and the ranks', and what whole numbers are as doubles. Plain; conditions: none. -/
namespace Go.Proofs.Ytaahaehgdamkdaa
open Go

theorem rung_bound (u : Nat) : rungZ u < 9223372036854775808 := Nat.mod_lt _ (by decide)

/-- worth and rung stand alike -/
theorem sval_lt_iff (a b : Nat) : svalZ a < svalZ b ↔ srkZ a < srkZ b := by
  unfold svalZ srkZ valZ
  have h1 := @worth_lt_iff (rungZ a) (rungZ b)
  have h2 := @worth_lt_iff (rungZ b) (rungZ a)
  have za : worthR (rungZ a) = 0 ↔ rungZ a = 0 := by
    constructor
    · intro h
      rcases Nat.eq_zero_or_pos (rungZ a) with h0 | h0
      · exact h0
      · have := worth_mono h0; omega
    · intro h; rw [h]; decide
  have zb : worthR (rungZ b) = 0 ↔ rungZ b = 0 := by
    constructor
    · intro h
      rcases Nat.eq_zero_or_pos (rungZ b) with h0 | h0
      · exact h0
      · have := worth_mono h0; omega
    · intro h; rw [h]; decide
  generalize worthR (rungZ a) = A at *
  generalize worthR (rungZ b) = B at *
  cases sgZ a <;> cases sgZ b <;> simp only [if_true, if_false, Bool.false_eq_true] <;> omega
theorem sval_eq_iff (a b : Nat) : svalZ a = svalZ b ↔ srkZ a = srkZ b := by
  have h1 := sval_lt_iff a b
  have h2 := sval_lt_iff b a
  omega

theorem compare_int (x y : Int) : compare x y = if x < y then .lt else if x = y then .eq else .gt := by
  show compareOfLessAndEq x y = _
  unfold compareOfLessAndEq
  rfl
theorem compare_scale {x y k : Int} (hk : 0 < k) : compare (x * k) (y * k) = compare x y := by
  rw [compare_int, compare_int]
  have e1 : x * k < y * k ↔ x < y := ⟨fun h => Int.lt_of_mul_lt_mul_right h (Int.le_of_lt hk), fun h => Int.mul_lt_mul_of_pos_right h hk⟩
  have e2 : x * k = y * k ↔ x = y := ⟨fun h => Int.eq_of_mul_eq_mul_right (by omega) h, fun h => by rw [h]⟩
  simp only [e1, e2]

theorem order_model {a b : Nat} (ha : a < 18446744073709551616) (hb : b < 18446744073709551616) :
    Ieee.double.order a b = if kindZ a = 5 ∨ kindZ b = 5 then none else some (compare (srkZ a) (srkZ b)) := by
  have kna := @kind_nan a
  have knb := @kind_nan b
  have la := rung_bound a
  have lb := rung_bound b
  unfold Ieee.Format.order
  rcases Nat.lt_trichotomy (rungZ a) 9218868437227405312 with h1 | h1 | h1
  · obtain ⟨m, p, r1, hp, hv⟩ := read_num ha h1
    rw [r1]
    rcases Nat.lt_trichotomy (rungZ b) 9218868437227405312 with h2 | h2 | h2
    · obtain ⟨n, q, r2, hq, hw⟩ := read_num hb h2
      rw [r2, if_neg (by omega)]
      simp only [Ieee.Datum.order, Option.some.injEq]
      have hmin : -1074 ≤ min p q := by omega
      have s1 := signed_val (sgZ a) m p (min p q) hmin (by omega)
      have s2 := signed_val (sgZ b) n q (min p q) hmin (by omega)
      rw [hv] at s1
      rw [hw] at s2
      have hK : (0 : Int) < 2 ^ (min p q + 1074).toNat := Int.pow_pos (by omega)
      rw [← compare_scale hK, s1, s2]
      show compare (svalZ a) (svalZ b) = _
      rw [compare_int, compare_int]
      simp only [sval_lt_iff, sval_eq_iff]
    · rw [read_inf hb h2, if_neg (by omega)]
      simp only [Ieee.Datum.order, Option.some.injEq]
      unfold srkZ
      rw [h2, compare_int]
      cases sgZ b <;> cases sgZ a <;> simp only [if_true, if_false, Bool.false_eq_true]
      · rw [if_pos (by omega)]
      · rw [if_pos (by omega)]
      · rw [if_neg (by omega), if_neg (by omega)]
      · rw [if_neg (by omega), if_neg (by omega)]
    · obtain ⟨s, f, r2⟩ := read_nan h2
      rw [r2, if_pos (by omega)]
      rfl
  · rw [read_inf ha h1]
    rcases Nat.lt_trichotomy (rungZ b) 9218868437227405312 with h2 | h2 | h2
    · obtain ⟨n, q, r2, hq, hw⟩ := read_num hb h2
      rw [r2, if_neg (by omega)]
      simp only [Ieee.Datum.order, Option.some.injEq]
      unfold srkZ
      rw [h1, compare_int]
      cases sgZ a <;> cases sgZ b <;> simp only [if_true, if_false, Bool.false_eq_true]
      · rw [if_neg (by omega), if_neg (by omega)]
      · rw [if_neg (by omega), if_neg (by omega)]
      · rw [if_pos (by omega)]
      · rw [if_pos (by omega)]
    · rw [read_inf hb h2, if_neg (by omega)]
      simp only [Ieee.Datum.order, Option.some.injEq]
      unfold srkZ
      rw [h1, h2]
      cases sgZ a <;> cases sgZ b <;> decide
    · obtain ⟨s, f, r2⟩ := read_nan h2
      rw [r2, if_pos (by omega)]
      rfl
  · obtain ⟨s, f, r1⟩ := read_nan h1
    rw [r1, if_pos (by omega)]
    rfl

/-- a name for the number, so that no power of it is worked out -/
def q74 : Nat := 1074
/-- what a whole number is as a double -/
def intZ (n : Int) : Nat := rdZ (decide (n < 0)) (n.natAbs * 2 ^ q74)
theorem int_model (n : Int) : FloatKind.f64.nearest n = intZ n := by
  unfold FloatKind.nearest FloatKind.encode
  show Ieee.double.nearest _ _ _ = _
  rw [nearest_rd _ _ _ (by omega), show ((0 : Int) + 1074).toNat = q74 from rfl]
  unfold intZ
  rfl

/-! ### ranks, signs -/
theorem rank_nan {u : Nat} (h : kindZ u = 5) : rankZ u = 18444492273895866368 := by
  unfold rankZ cleanZ
  rw [if_pos h]
  decide
/-! ### with the other sign -/
theorem neg_nan {u : Nat} (h : kindZ u = 5) : negZ u = nanC := if_pos h
theorem neg_num {u : Nat} (hu : u < 18446744073709551616) (h : kindZ u ≠ 5) : negZ u < 18446744073709551616 ∧ rungZ (negZ u) = rungZ u ∧ sgZ (negZ u) = !sgZ u := by
  unfold negZ
  rw [if_neg h]
  refine ⟨by omega, by unfold rungZ; omega, ?_⟩
  unfold sgZ
  by_cases h1 : 9223372036854775808 ≤ u
  · rw [decide_eq_true h1, decide_eq_false (by omega)]; rfl
  · rw [decide_eq_false h1, decide_eq_true (by omega)]; rfl
theorem kind_of_rung {a b : Nat} (h : rungZ a = rungZ b) : kindZ a = kindZ b := by
  have e1 : exZ a = exZ b ∧ frZ a = frZ b := by
    have := @rung_parts a; have := @rung_parts b; have := fr_lt a; have := fr_lt b
    omega
  unfold kindZ
  rw [e1.1, e1.2]
theorem neg_kind {u : Nat} (hu : u < 18446744073709551616) : kindZ (negZ u) = kindZ u := by
  by_cases h : kindZ u = 5
  · rw [neg_nan h, h]; decide
  · exact kind_of_rung (neg_num hu h).2.1
theorem neg_lt {u : Nat} (hu : u < 18446744073709551616) : negZ u < 18446744073709551616 := by
  by_cases h : kindZ u = 5
  · rw [neg_nan h]; decide
  · exact (neg_num hu h).1

end Go.Proofs.Ytaahaehgdamkdaa

/- Rounding with three bits behind and one that stands for all below. Plain arithmetic; conditions: none. -/
namespace Go.Proofs.Ytaahaehgdamkdaa
open Go

/-- one step down -/
def d1 (m : Nat) : Nat := m / 2 + m % 2 - m / 2 % 2 * (m % 2)
/-! ### a double's parts -/
def scaleZ (u : Nat) : Nat := max 1 (exZ u)
def manZ (u : Nat) : Nat := if exZ u = 0 then frZ u else 4503599627370496 + frZ u
theorem scale_pos (u : Nat) : 1 ≤ scaleZ u := Nat.le_max_left _ _
theorem man_lt (u : Nat) : manZ u < 9007199254740992 := by have := fr_lt u; unfold manZ; split <;> omega
theorem val_parts (u : Nat) : valZ u = manZ u * 2 ^ (scaleZ u - 1) := by
  have hf := fr_lt u
  have hr := @rung_parts u
  unfold valZ manZ scaleZ
  by_cases h : exZ u = 0
  · rw [h] at hr
    rw [worth_low (by omega), if_pos h, h, hr]
    simp
  · rw [worth_high (by omega), if_neg h]
    have e1 : rungZ u % 4503599627370496 = frZ u := by omega
    have e2 : rungZ u / 4503599627370496 = exZ u := by omega
    rw [e1, e2, Nat.max_eq_right (by omega)]

/-! ### the sum, as the document reckons it -/
end Go.Proofs.Ytaahaehgdamkdaa

/- Doubles that are whole, and whole numbers held against doubles. Plain; conditions: none. -/
namespace Go.Proofs.Ytaahaehgdamkdaa
open Go

/-- the least double goes so often into 1 -/
def Qz : Nat := 2 ^ q74
theorem Q_pos : 0 < Qz := Nat.pow_pos (by decide)
theorem Q_split {e : Nat} (he : 1 ≤ e) (h : e ≤ 1075) : Qz = 2 ^ (e - 1) * 2 ^ (1075 - e) := by
  unfold Qz
  rw [← Nat.pow_add]
  exact congrArg (fun k => 2 ^ k) (by unfold q74; omega)
theorem Q_more {e : Nat} (h : 1075 ≤ e) : 2 ^ (e - 1) = Qz * 2 ^ (e - 1075) := by
  unfold Qz
  rw [← Nat.pow_add]
  exact congrArg (fun k => 2 ^ k) (by unfold q74; omega)
def signI (s : Bool) (k : Nat) : Int := if s then -(k : Int) else (k : Int)
/-- how two stand -/
def cmpI (x y : Int) : Int := if x < y then -1 else if x = y then 0 else 1
theorem cmp_lt {x y : Int} (h : x < y) : cmpI x y = -1 := if_pos h
theorem cmp_eq {x y : Int} (h : x = y) : cmpI x y = 0 := by unfold cmpI; rw [if_neg (by omega), if_pos h]
theorem cmp_gt {x y : Int} (h : y < x) : cmpI x y = 1 := by unfold cmpI; rw [if_neg (by omega), if_neg (by omega)]
/-- a whole number against a double -/
def versusZ (n : Int) (u : Nat) : Int × Bool :=
  if kindZ u = 5 ∨ n < -4611686018427387904 ∨ 4611686018427387904 < n then (0, false)
  else if kindZ u = 4 then (if sgZ u then 1 else -1, true)
  else (cmpI (n * (Qz : Int)) (svalZ u), true)

theorem versus_out {n : Int} {u : Nat} (h : kindZ u = 5 ∨ n < -4611686018427387904 ∨ 4611686018427387904 < n) : versusZ n u = (0, false) := if_pos h
theorem versus_inf {n : Int} {u : Nat} (h : ¬ (kindZ u = 5 ∨ n < -4611686018427387904 ∨ 4611686018427387904 < n)) (h4 : kindZ u = 4) : versusZ n u = (if sgZ u then 1 else -1, true) := by
  unfold versusZ; rw [if_neg h, if_pos h4]
theorem versus_fin {n : Int} {u : Nat} (h : ¬ (kindZ u = 5 ∨ n < -4611686018427387904 ∨ 4611686018427387904 < n)) (h4 : kindZ u ≠ 4) : versusZ n u = (cmpI (n * (Qz : Int)) (svalZ u), true) := by
  unfold versusZ; rw [if_neg h, if_neg h4]
theorem cmp_bound (x y : Int) : -1 ≤ cmpI x y ∧ cmpI x y ≤ 1 := by unfold cmpI; (repeat' split) <;> omega

end Go.Proofs.Ytaahaehgdamkdaa

/- Values: what the document tells of them. Plain; conditions: none. -/
namespace Go.Proofs.Ytaahaehgdamkdaa
open Go Go.RowKit

/-- a value: its kind, number, bits, text -/
structure VZ where
  k : Nat
  n : Int
  b : Nat
  t : ByteArray
def vv (k : Nat) (n : Int) (b : Nat) (t : ByteArray) : Value := .agg #[.int .u8 (k : Int), .int .i64 n, .int .u64 (b : Int), .string t]
def VZ.v (x : VZ) : Value := vv x.k x.n x.b x.t
def noText : ByteArray := ⟨#[]⟩
def VZ.none : VZ := ⟨0, 0, 0, noText⟩
/-- whether a value may be -/
def checkV (k : Nat) (n : Int) (b : Nat) (t : ByteArray) : Int :=
  if k < 1 ∨ 4 < k then 11
  else if (k = 1 ∧ (n < -4611686018427387904 ∨ 4611686018427387904 < n)) ∨ (k = 2 ∧ (n < 0 ∨ 1 < n)) then 8
  else if k = 3 ∧ cleanZ b ≠ b then 4
  else if k = 4 ∧ 24 < t.size then 5
  else if (2 < k ∧ n ≠ 0) ∨ (k ≠ 3 ∧ b ≠ 0) ∨ (k ≠ 4 ∧ t.size ≠ 0) then 2
  else 0
theorem check_kind {k : Nat} {n : Int} {b : Nat} {t : ByteArray} (h : k < 1 ∨ 4 < k) : checkV k n b t = 11 := if_pos h
theorem check_int {n : Int} {b : Nat} {t : ByteArray} : checkV 1 n b t = if n < -4611686018427387904 ∨ 4611686018427387904 < n then 8 else if b ≠ 0 ∨ t.size ≠ 0 then 2 else 0 := by
  unfold checkV
  by_cases h1 : n < -4611686018427387904 ∨ 4611686018427387904 < n
  · rw [if_neg (by omega), if_pos (by omega), if_pos h1]
  · rw [if_neg (by omega), if_neg (by omega), if_neg (by omega), if_neg (by omega), if_neg h1]
    by_cases h2 : b ≠ 0 ∨ t.size ≠ 0
    · rw [if_pos h2, if_pos (by omega)]
    · rw [if_neg h2, if_neg (by omega)]
theorem check_flag {n : Int} {b : Nat} {t : ByteArray} : checkV 2 n b t = if n < 0 ∨ 1 < n then 8 else if b ≠ 0 ∨ t.size ≠ 0 then 2 else 0 := by
  unfold checkV
  by_cases h1 : n < 0 ∨ 1 < n
  · rw [if_neg (by omega), if_pos (by omega), if_pos h1]
  · rw [if_neg (by omega), if_neg (by omega), if_neg (by omega), if_neg (by omega), if_neg h1]
    by_cases h2 : b ≠ 0 ∨ t.size ≠ 0
    · rw [if_pos h2, if_pos (by omega)]
    · rw [if_neg h2, if_neg (by omega)]
theorem check_real {n : Int} {b : Nat} {t : ByteArray} : checkV 3 n b t = if cleanZ b ≠ b then 4 else if n ≠ 0 ∨ t.size ≠ 0 then 2 else 0 := by
  unfold checkV
  generalize cleanZ b = c
  by_cases h1 : c ≠ b
  · rw [if_neg (by omega), if_neg (by omega), if_pos (by omega), if_pos h1]
  · rw [if_neg (by omega), if_neg (by omega), if_neg (by omega), if_neg (by omega), if_neg h1]
    by_cases h2 : n ≠ 0 ∨ t.size ≠ 0
    · rw [if_pos h2, if_pos (by omega)]
    · rw [if_neg h2, if_neg (by omega)]
theorem check_text {n : Int} {b : Nat} {t : ByteArray} : checkV 4 n b t = if 24 < t.size then 5 else if n ≠ 0 ∨ b ≠ 0 then 2 else 0 := by
  unfold checkV
  by_cases h1 : 24 < t.size
  · rw [if_neg (by omega), if_neg (by omega), if_neg (by omega), if_pos (by omega), if_pos h1]
  · rw [if_neg (by omega), if_neg (by omega), if_neg (by omega), if_neg (by omega), if_neg h1]
    by_cases h2 : n ≠ 0 ∨ b ≠ 0
    · rw [if_pos h2, if_pos (by omega)]
    · rw [if_neg h2, if_neg (by omega)]

/-- the order of texts: -1, 0, 1 -/
def cmpT (s t : ByteArray) : Int := if Op.bytesLess s.toList t.toList then -1 else if Op.bytesLess t.toList s.toList then 1 else 0
/-- how two values stand -/
def rankV (k : Nat) (n : Int) (b : Nat) (t : ByteArray) (l : Nat) (m : Int) (c : Nat) (u : ByteArray) : Int :=
  if k ≠ l then (if k < l then -1 else 1)
  else if k = 1 ∨ k = 2 then cmpI n m
  else if k = 3 then cmpI (rankZ b : Int) (rankZ c : Int)
  else if k = 4 then cmpT t u
  else 0

def ofIntV (n : Int) : VZ := ⟨1, max (-4611686018427387904) (min 4611686018427387904 n), 0, noText⟩
def ofFlagV (is : Bool) : VZ := ⟨2, if is then 1 else 0, 0, noText⟩
def ofRealV (b : Nat) : VZ := ⟨3, 0, cleanZ b, noText⟩
def ofTextV (s : ByteArray) : VZ := ⟨4, 0, 0, s.extract 0 (min s.size 24)⟩

end Go.Proofs.Ytaahaehgdamkdaa

/- The order of texts and of values. Plain; conditions: none. -/
namespace Go.Proofs.Ytaahaehgdamkdaa
open Go Go.RowKit

theorem less_gt : ∀ x y : List UInt8, Op.bytesLess y x = !(Op.bytesLess x y || x == y) := by
  intro x
  induction x with
  | nil => intro y; cases y <;> rfl
  | cons a x ih =>
    intro y
    cases y with
    | nil => rfl
    | cons b y =>
      have h := ih y
      have hab : a = b ↔ a.toNat = b.toNat := ⟨fun h => by rw [h], fun h => UInt8.toNat_inj.1 h⟩
      simp only [Op.bytesLess, UInt8.lt_iff_toNat_lt, List.cons_beq_cons]
      rw [h]
      rcases Nat.lt_trichotomy a.toNat b.toNat with h1 | h1 | h1
      · have h2 : (b == a) = false := beq_eq_false_iff_ne.2 (fun e => by rw [e] at h1; omega)
        have h4 : ¬ b.toNat < a.toNat := by omega
        simp [h1, h2, h4]
      · have h3 := hab.2 h1
        subst h3
        simp
      · have h2 : (a == b) = false := beq_eq_false_iff_ne.2 (fun e => by rw [e] at h1; omega)
        have h4 : ¬ a.toNat < b.toNat := by omega
        simp [h1, h2, h4]
theorem less_irr (x : List UInt8) : Op.bytesLess x x = false := by
  have h := less_gt x x
  simpa using h
theorem less_trans : ∀ x y z : List UInt8, Op.bytesLess x y = true → Op.bytesLess y z = true → Op.bytesLess x z = true := by
  intro x
  induction x with
  | nil =>
    intro y z _ h2
    cases z with
    | nil => cases y <;> simp [Op.bytesLess] at h2
    | cons c z => rfl
  | cons a x ih =>
    intro y z h1 h2
    cases y with
    | nil => simp [Op.bytesLess] at h1
    | cons b y =>
      cases z with
      | nil => simp [Op.bytesLess] at h2
      | cons c z =>
        simp only [Op.bytesLess, UInt8.lt_iff_toNat_lt, Bool.or_eq_true, decide_eq_true_iff, Bool.and_eq_true, beq_iff_eq] at h1 h2 ⊢
        rcases h1 with h1 | ⟨rfl, h1⟩
        · rcases h2 with h2 | ⟨rfl, h2⟩
          · exact Or.inl (by omega)
          · exact Or.inl h1
        · rcases h2 with h2 | ⟨rfl, h2⟩
          · exact Or.inl h2
          · exact Or.inr ⟨rfl, ih y z h1 h2⟩

theorem list_ba (s t : ByteArray) : s.toList = t.toList ↔ s = t := by
  constructor
  · intro h
    rw [ByteArray.toList_eq, ByteArray.toList_eq] at h
    exact ba_eq h
  · intro h; rw [h]
/-- three ways -/
theorem cmpT_cases (s t : ByteArray) : (Op.bytesLess s.toList t.toList = true ∧ Op.bytesLess t.toList s.toList = false ∧ s ≠ t ∧ cmpT s t = -1) ∨ (Op.bytesLess s.toList t.toList = false ∧ Op.bytesLess t.toList s.toList = false ∧ s = t ∧ cmpT s t = 0) ∨ (Op.bytesLess s.toList t.toList = false ∧ Op.bytesLess t.toList s.toList = true ∧ s ≠ t ∧ cmpT s t = 1) := by
  have h := less_gt s.toList t.toList
  unfold cmpT
  by_cases he : s = t
  · subst he
    rw [less_irr]
    exact Or.inr (Or.inl ⟨rfl, rfl, rfl, rfl⟩)
  · have hb : (s.toList == t.toList) = false := beq_eq_false_iff_ne.2 (fun e => he ((list_ba s t).1 e))
    rw [hb, Bool.or_false] at h
    cases hl : Op.bytesLess s.toList t.toList
    · rw [hl] at h
      rw [h]
      exact Or.inr (Or.inr ⟨rfl, rfl, he, rfl⟩)
    · rw [hl] at h
      rw [h]
      exact Or.inl ⟨rfl, rfl, he, rfl⟩
theorem cmpT_zero (s t : ByteArray) : cmpT s t = 0 ↔ s = t := by
  rcases cmpT_cases s t with ⟨_, _, c, d⟩ | ⟨_, _, c, d⟩ | ⟨_, _, c, d⟩ <;> rw [d] <;> simp [c]
theorem cmpT_le (s t u : ByteArray) (h1 : cmpT s t ≤ 0) (h2 : cmpT t u ≤ 0) : cmpT s u ≤ 0 ∧ (cmpT s t < 0 ∨ cmpT t u < 0 → cmpT s u < 0) := by
  rcases cmpT_cases s t with ⟨a, _, _, d⟩ | ⟨_, _, c, d⟩ | ⟨_, _, _, d⟩
  · rcases cmpT_cases t u with ⟨a', _, _, d'⟩ | ⟨_, _, c', d'⟩ | ⟨_, _, _, d'⟩
    · have h := less_trans _ _ _ a a'
      have : cmpT s u = -1 := by unfold cmpT; rw [h]; rfl
      omega
    · rw [← c']; omega
    · omega
  · subst c
    have := (cmpT_zero s s).2 rfl
    omega
  · omega

theorem cmpI_turn (x y : Int) : cmpI y x = -cmpI x y := by
  unfold cmpI
  (repeat' split) <;> omega
theorem cmpI_zero (x y : Int) : cmpI x y = 0 ↔ x = y := by
  unfold cmpI
  (repeat' split) <;> omega
theorem cmpI_le (x y z : Int) (h1 : cmpI x y ≤ 0) (h2 : cmpI y z ≤ 0) : cmpI x z ≤ 0 ∧ (cmpI x y < 0 ∨ cmpI y z < 0 → cmpI x z < 0) := by
  unfold cmpI at *
  (repeat' split at *) <;> omega
end Go.Proofs.Ytaahaehgdamkdaa

/- What holds of doubles by the document: order, sums, whole numbers. Plain; conditions: none. -/
namespace Go.Proofs.Ytaahaehgdamkdaa
open Go

/-! ### what a sum is -/
theorem rung_word (s : Bool) {r : Nat} (h : r < 9223372036854775808) : rungZ (wordZ s r) = r ∧ sgZ (wordZ s r) = s ∧ wordZ s r < 18446744073709551616 := by
  unfold rungZ sgZ wordZ
  cases s
  · rw [if_neg (by decide)]
    exact ⟨by omega, decide_eq_false (by omega), by omega⟩
  · rw [if_pos rfl]
    exact ⟨by omega, decide_eq_true (by omega), by omega⟩
theorem rung_rd (s : Bool) (N : Nat) : rungZ (rdZ s N) = min (rnd N) 9218868437227405312 ∧ sgZ (rdZ s N) = s ∧ rdZ s N < 18446744073709551616 := rung_word s (by omega)
theorem rd_kind (s : Bool) (N : Nat) : kindZ (rdZ s N) ≠ 5 := by
  have h1 := (rung_rd s N).1
  have h2 := @kind_nan (rdZ s N)
  omega
/-- a whole multiple of the least double, rounded, with its sign -/
def rdI (t : Int) : Int := if t < 0 then -((min (rnd t.natAbs) 9218868437227405312 : Nat) : Int) else ((min (rnd t.natAbs) 9218868437227405312 : Nat) : Int)
theorem srk_rd {s : Bool} {t : Int} (h : t = 0 ∨ s = decide (t < 0)) : srkZ (rdZ s t.natAbs) = rdI t := by
  obtain ⟨h1, h2, _⟩ := rung_rd s t.natAbs
  unfold srkZ rdI
  rw [h1, h2]
  rcases h with h | h
  · subst h
    show (if s = true then -((min (rnd 0) _ : Nat) : Int) else ((min (rnd 0) _ : Nat) : Int)) = _
    rw [rnd_small (by omega), if_neg (show ¬ (0 : Int) < 0 by omega)]
    cases s <;> simp <;> rfl
  · rw [h]
    by_cases ht : t < 0
    · rw [decide_eq_true ht, if_pos rfl, if_pos ht]
    · rw [decide_eq_false ht, if_neg (by decide), if_neg ht]
theorem srk_sum (a b : Nat) : srkZ (sumZ a b) = rdI (svalZ a + svalZ b) := by
  unfold sumZ
  refine srk_rd ?_
  unfold sumS
  by_cases h : svalZ a + svalZ b = 0
  · exact Or.inl h
  · right; rw [if_neg h]
theorem sval_srk {u : Nat} (h : rungZ u ≤ 9218868437227405312) : rdI (svalZ u) = srkZ u := by
  unfold rdI svalZ srkZ valZ
  have h1 := rnd_worth (rungZ u)
  cases hs : sgZ u
  · simp only [if_false, Bool.false_eq_true]
    rw [if_neg (by omega), show ((worthR (rungZ u) : Nat) : Int).natAbs = worthR (rungZ u) by omega, h1]
    omega
  · simp only [if_true]
    have e : (-((worthR (rungZ u) : Nat) : Int)).natAbs = worthR (rungZ u) := by omega
    rw [e, h1]
    by_cases h0 : worthR (rungZ u) = 0
    · have hr : rungZ u = 0 := by rw [← h1, h0]; exact rnd_small (by omega)
      rw [h0, hr]; simp
    · rw [if_pos (by omega)]; omega
theorem word_srk {a b : Nat} (ha : a < 18446744073709551616) (hb : b < 18446744073709551616) (hs : sgZ a = sgZ b) (h : srkZ a = srkZ b) : a = b := by
  have wa := word_of a ha
  have wb := word_of b hb
  unfold srkZ at h
  rw [hs] at h wa
  have : rungZ a = rungZ b := by
    cases h2 : sgZ b <;> rw [h2] at h <;> simp at h <;> omega
  exact wa.symm.trans ((congrArg _ this).trans wb)
theorem sum_lt (a b : Nat) : sumZ a b < 18446744073709551616 := (rung_rd _ _).2.2
theorem sum_sg (a b : Nat) : sgZ (sumZ a b) = sumS a b := (rung_rd _ _).2.1
theorem sum_kind (a b : Nat) : kindZ (sumZ a b) ≠ 5 := rd_kind _ _
theorem srk_zero {u : Nat} : srkZ u = 0 ↔ rungZ u = 0 := by unfold srkZ; split <;> omega
theorem sval_zero {u : Nat} : svalZ u = 0 ↔ rungZ u = 0 := by
  have h1 := sval_eq_iff u 0
  have h2 : svalZ 0 = 0 := by decide
  have h3 : srkZ 0 = 0 := by decide
  rw [h2, h3, srk_zero] at h1
  exact h1

/-! ### the laws of sums -/
theorem add_clean (a b : Nat) (ha : a < 18446744073709551616) (hb : b < 18446744073709551616) : cleanZ (addZ a b) = addZ a b ∧ addZ a b < 18446744073709551616 := by
  unfold addZ
  split
  · exact ⟨by decide, by decide⟩
  · rename_i hn
    unfold nanSum at hn
    split
    · unfold cleanZ; rw [if_neg (by omega)]; exact ⟨rfl, ha⟩
    · split
      · unfold cleanZ; rw [if_neg (by omega)]; exact ⟨rfl, hb⟩
      · unfold cleanZ; rw [if_neg (sum_kind a b)]; exact ⟨rfl, sum_lt a b⟩

/-- with a zero that leaves all -/
theorem sum_with {a z : Nat} (ha : a < 18446744073709551616) (hk : rungZ a < 9218868437227405312) (hz : rungZ z = 0) (hs : rungZ a ≠ 0 ∨ (sgZ a && sgZ z) = sgZ a) : sumZ a z = a := by
  have hz0 : svalZ z = 0 := sval_zero.2 hz
  have h1 : srkZ (sumZ a z) = srkZ a := by rw [srk_sum, hz0, Int.add_zero, sval_srk (by omega)]
  refine word_srk (sum_lt a z) ha ?_ h1
  rw [sum_sg]
  unfold sumS
  rw [hz0, Int.add_zero]
  by_cases h0 : rungZ a = 0
  · rw [if_pos (sval_zero.2 h0)]
    rcases hs with h2 | h2
    · exact absurd h0 h2
    · exact h2
  · have hne : svalZ a ≠ 0 := fun h => h0 (sval_zero.1 h)
    rw [if_neg hne]
    have hv : 0 < valZ a := by
      have := worth_mono (show 0 < rungZ a by omega)
      unfold valZ; omega
    unfold svalZ
    cases hsg : sgZ a
    · exact decide_eq_false (by simp)
    · exact decide_eq_true (by simp; omega)
theorem zero_parts : kindZ 0 = 1 ∧ rungZ 0 = 0 ∧ sgZ 0 = false := by decide
theorem add_zero (a : Nat) (ha : a < 18446744073709551616) (hk : kindZ a ≠ 1) : addZ a 0 = cleanZ a := by
  obtain ⟨k, r, s⟩ := zero_parts
  have hn : nanSum a 0 ↔ kindZ a = 5 := by unfold nanSum; rw [k]; omega
  unfold addZ cleanZ
  by_cases h5 : kindZ a = 5
  · rw [if_pos (hn.2 h5), if_pos h5]
  · rw [if_neg (fun h => h5 (hn.1 h)), if_neg h5]
    by_cases h4 : kindZ a = 4
    · rw [if_pos h4]
    · rw [if_neg h4, if_neg (by omega)]
      exact sum_with ha (kind_fin.1 ⟨h5, h4⟩) r (Or.inl (fun h => hk (kind_zero.2 h)))

end Go.Proofs.Ytaahaehgdamkdaa

/- What holds of whole numbers against doubles, and of order. Plain; conditions: none. -/
namespace Go.Proofs.Ytaahaehgdamkdaa
open Go

/-! ### order -/
/-! ### whole numbers -/
theorem pow_swap (a b c d : Nat) (h : a + b = c + d) : 2 ^ a * 2 ^ b = 2 ^ c * 2 ^ d := by rw [← Nat.pow_add, ← Nat.pow_add, h]
theorem pow_swap' (m n a b c d x : Nat) (hm : 2 ^ a = m) (hn : 2 ^ c = n) (hx : x = 2 ^ b) (h : a + b = c + d) : m * x = n * 2 ^ d := by rw [← hm, ← hn, hx]; exact pow_swap a b c d h
theorem Q_is : Qz = 2 ^ q74 := rfl
def q84 : Nat := 1084
def q75 : Nat := 1075
theorem pow_le_inv {a b : Nat} (h : 2 ^ a ≤ 2 ^ b) : a ≤ b := by
  rcases Nat.lt_or_ge b a with h1 | h1
  · have : 2 ^ (b + 1) ≤ 2 ^ a := Nat.pow_le_pow_right (by decide) h1
    rw [Nat.pow_succ] at this
    have := Nat.pow_pos (n := b) (show 0 < 2 by decide)
    omega
  · exact h1
theorem int_exact_at (e : Nat) (he : 9007199254740992 * Qz = 4503599627370496 * 2 ^ e) (hq : ∀ d, d < e → Qz % 2 ^ d = 0) {k : Nat} (h : k ≤ 9007199254740992) : k * Qz % 2 ^ dn (k * Qz) = 0 := by
  generalize Qz = Q at *
  rcases Nat.lt_or_ge (k * Q) 9007199254740992 with h1 | h1
  · rw [dn_small h1, Nat.pow_zero, Nat.mod_one]
  · obtain ⟨a, b, c⟩ := dn_big h1
    have h2 : k * Q ≤ 9007199254740992 * Q := Nat.mul_le_mul h (Nat.le_refl _)
    have h3 : 2 ^ dn (k * Q) ≤ 2 ^ e := Nat.le_of_mul_le_mul_left (by omega : 4503599627370496 * 2 ^ dn (k * Q) ≤ 4503599627370496 * 2 ^ e) (by decide)
    have h4 := pow_le_inv h3
    rcases Nat.lt_or_ge (dn (k * Q)) e with h5 | h5
    · have h6 := hq _ h5
      exact Nat.mod_eq_zero_of_dvd (Nat.dvd_trans (Nat.dvd_of_mod_eq_zero h6) ⟨k, Nat.mul_comm _ _⟩)
    · have h6 : dn (k * Q) = e := by omega
      rw [h6] at b ⊢
      have h7 : k * Q = 4503599627370496 * 2 ^ e := by omega
      rw [h7]
      exact Nat.mul_mod_left _ _
theorem Q_dvd (n d : Nat) (h : d ≤ n) : 2 ^ n % 2 ^ d = 0 := by
  have e : 2 ^ n = 2 ^ d * 2 ^ (n - d) := by rw [← Nat.pow_add]; exact congrArg (fun i => 2 ^ i) (by omega)
  exact Nat.mod_eq_zero_of_dvd ⟨_, e⟩
theorem int_exact {k : Nat} (h : k ≤ 9007199254740992) : k * Qz % 2 ^ dn (k * Qz) = 0 :=
  int_exact_at q75 (pow_swap' _ _ 53 q74 52 q75 Qz (by decide) (by decide) Q_is (by decide)) (fun d hd => by rw [Q_is]; exact Q_dvd q74 d (Nat.le_of_lt_succ hd)) h
/-- the cases of holding a whole number against a double -/
theorem versus_cases {n : Int} {u : Nat} (h0 : -4611686018427387904 ≤ n) (h1 : n ≤ 4611686018427387904) :
    (kindZ u = 5 ∧ versusZ n u = (0, false)) ∨ (kindZ u = 4 ∧ versusZ n u = (if sgZ u then 1 else -1, true)) ∨ (kindZ u ≠ 5 ∧ kindZ u ≠ 4 ∧ versusZ n u = (cmpI (n * (Qz : Int)) (svalZ u), true)) := by
  by_cases h5 : kindZ u = 5
  · exact Or.inl ⟨h5, versus_out (Or.inl h5)⟩
  · have hb : ¬ (kindZ u = 5 ∨ n < -4611686018427387904 ∨ 4611686018427387904 < n) := by omega
    by_cases h4 : kindZ u = 4
    · exact Or.inr (Or.inl ⟨h4, versus_inf hb h4⟩)
    · exact Or.inr (Or.inr ⟨h5, h4, versus_fin hb h4⟩)
theorem versus_told {n : Int} {u : Nat} (h0 : -4611686018427387904 ≤ n) (h1 : n ≤ 4611686018427387904) : (versusZ n u).2 = decide (kindZ u ≠ 5) ∧ -1 ≤ (versusZ n u).1 ∧ (versusZ n u).1 ≤ 1 := by
  rcases versus_cases (u := u) h0 h1 with ⟨h, e⟩ | ⟨h, e⟩ | ⟨h, _, e⟩
  · rw [e]; exact ⟨(decide_eq_false (by omega)).symm, by decide, by decide⟩
  · rw [e]; exact ⟨(decide_eq_true (by omega)).symm, by cases sgZ u <;> decide, by cases sgZ u <;> decide⟩
  · rw [e]
    have := cmp_bound (n * (Qz : Int)) (svalZ u)
    exact ⟨(decide_eq_true h).symm, this.1, this.2⟩
end Go.Proofs.Ytaahaehgdamkdaa

/- Values held against each other: what the document tells of them. Plain; conditions: none. -/
namespace Go.Proofs.Ytaahaehgdamkdaa
open Go Go.RowKit

def numK (k : Nat) : Bool := decide (k = 1 ∨ k = 3)
/-- how one stands to the other, and whether they are in order -/
def standV (k : Nat) (n : Int) (b : Nat) (t : ByteArray) (l : Nat) (m : Int) (c : Nat) (u : ByteArray) : Int × Bool :=
  if k = 1 ∧ l = 3 then versusZ n c
  else if k = 3 ∧ l = 1 then (-(versusZ m b).1, (versusZ m b).2)
  else if k = 3 then (if lessZ b c then (-1, true) else if lessZ c b then (1, true) else (0, equalZ b c))
  else (rankV k n b t l m c u, true)
/-- what a test says of how two stand -/
def saysV (o : Nat) (x : Int) : Bool := decide ((o = 1 ∧ x = 0) ∨ (o = 2 ∧ x ≠ 0) ∨ (o = 3 ∧ x < 0) ∨ (o = 4 ∧ x ≤ 0) ∨ (o = 5 ∧ 0 < x) ∨ (o = 6 ∧ 0 ≤ x))
def holdsV (o : Nat) (k : Nat) (n : Int) (b : Nat) (t : ByteArray) (l : Nat) (m : Int) (c : Nat) (u : ByteArray) : Bool :=
  if o < 1 ∨ 6 < o ∨ checkV k n b t ≠ 0 ∨ checkV l m c u ≠ 0 then false
  else if k ≠ l ∧ ¬ (numK k = true ∧ numK l = true) then decide (o = 2)
  else if (standV k n b t l m c u).2 = false then decide (o = 2)
  else if k = 2 ∧ 2 < o then false
  else saysV o (standV k n b t l m c u).1
/-- a number as a double -/
def bitsV (k : Nat) (n : Int) (b : Nat) : Nat := if k = 1 then intZ n else b
def plusV (k : Nat) (n : Int) (b : Nat) (t : ByteArray) (l : Nat) (m : Int) (c : Nat) (u : ByteArray) : VZ × Bool :=
  if checkV k n b t ≠ 0 ∨ checkV l m c u ≠ 0 ∨ numK k = false ∨ numK l = false then (VZ.none, false)
  else if k = 3 ∨ l = 3 then (ofRealV (addZ (bitsV k n b) (bitsV l m c)), true)
  else if -4611686018427387904 ≤ n + m ∧ n + m ≤ 4611686018427387904 then (⟨1, n + m, 0, noText⟩, true)
  else (VZ.none, false)
def minusV (k : Nat) (n : Int) (b : Nat) (t : ByteArray) (l : Nat) (m : Int) (c : Nat) (u : ByteArray) : VZ × Bool :=
  if checkV l m c u ≠ 0 then (VZ.none, false)
  else if l = 1 ∧ k = 1 then plusV k n b t l (-m) c u
  else if numK l = false then (VZ.none, false)
  else plusV k n b t 3 0 (negZ (bitsV l m c)) noText
def fitsV (o k l : Nat) : Bool :=
  if o < 1 ∨ 6 < o then false
  else if (numK k = true ∧ numK l = true) ∨ (k = 4 ∧ l = 4) then true
  else decide (k = 2 ∧ l = 2 ∧ o ≤ 2)
def sumK (k l : Nat) : Nat := if numK k = false ∨ numK l = false then 0 else max k l
def signV (o : Nat) : ByteArray :=
  if o = 1 then ⟨#[61]⟩ else if o = 2 then ⟨#[33, 61]⟩ else if o = 3 then ⟨#[60]⟩ else if o = 4 then ⟨#[60, 61]⟩ else if o = 5 then ⟨#[62]⟩ else if o = 6 then ⟨#[62, 61]⟩ else noText
def opV (s : ByteArray) : Nat :=
  if s = signV 1 then 1 else if s = signV 2 then 2 else if s = signV 3 then 3 else if s = signV 4 then 4 else if s = signV 5 then 5 else if s = signV 6 then 6 else 0
end Go.Proofs.Ytaahaehgdamkdaa

/- Go's floats by the specification's functions: order, sums, externs. Conditions: the program calls math.Float64frombits and math.Float64bits. -/
namespace Go.Proofs.Ytaahaehgdamkdaa
open Go Go.RowKit

theorem from_run (n : Nat) (w : World) : (callFunc 59 #[.int .u64 (n : Int)]).run Try.prog w = .ok (.value (.float .f64 n)) w := by
  rw [run_callFunc_extern Try.func59 (by kernel_rfl) (by kernel_rfl) (by kernel_rfl) (e := Extern.MathFloatBits.float64frombits) (by kernel_rfl)]
  rfl
theorem bits_run (n : Nat) (w : World) : (callFunc 60 #[.float .f64 n]).run Try.prog w = .ok (.value (.int .u64 (n : Int))) w := by
  rw [run_callFunc_extern Try.func60 (by kernel_rfl) (by kernel_rfl) (by kernel_rfl) (e := Extern.MathFloatBits.float64bits) (by kernel_rfl)]
  rfl

theorem order_f64 {a b : Nat} (ha : a ≤ 18446744073709551615) (hb : b ≤ 18446744073709551615) :
    FloatKind.f64.format.order a b = if kindZ a = 5 ∨ kindZ b = 5 then none else some (compare (srkZ a) (srkZ b)) :=
  order_model (by omega) (by omega)

theorem ord_lt {a b : Nat} (ha : a ≤ 18446744073709551615) (hb : b ≤ 18446744073709551615) : (FloatKind.f64.format.order a b == some Ordering.lt) = lessZ a b := by
  rw [order_f64 ha hb]; unfold lessZ
  by_cases h : kindZ a = 5 ∨ kindZ b = 5
  · rw [if_pos h, decide_eq_false (by omega)]; rfl
  · rw [if_neg h, Bool.eq_iff_iff, decide_eq_true_iff, beq_iff_eq, Option.some.injEq, Int.compare_eq_lt]; omega
theorem ord_eq {a b : Nat} (ha : a ≤ 18446744073709551615) (hb : b ≤ 18446744073709551615) : (FloatKind.f64.format.order a b == some Ordering.eq) = equalZ a b := by
  rw [order_f64 ha hb]; unfold equalZ
  by_cases h : kindZ a = 5 ∨ kindZ b = 5
  · rw [if_pos h, decide_eq_false (by omega)]; rfl
  · rw [if_neg h, Bool.eq_iff_iff, decide_eq_true_iff, beq_iff_eq, Option.some.injEq, Int.compare_eq_eq]; omega
theorem ord_gt {a b : Nat} (ha : a ≤ 18446744073709551615) (hb : b ≤ 18446744073709551615) : (FloatKind.f64.format.order a b == some Ordering.gt) = lessZ b a := by
  rw [order_f64 ha hb]; unfold lessZ
  by_cases h : kindZ a = 5 ∨ kindZ b = 5
  · rw [if_pos h, decide_eq_false (by omega)]; rfl
  · rw [if_neg h, Bool.eq_iff_iff, decide_eq_true_iff, beq_iff_eq, Option.some.injEq, Int.compare_eq_gt]; omega
theorem ord_ne {a b : Nat} (ha : a ≤ 18446744073709551615) (hb : b ≤ 18446744073709551615) : (FloatKind.f64.format.order a b != some Ordering.eq) = !equalZ a b := by
  rw [← ord_eq ha hb]; rfl

theorem ofint_f64 (n : Int) : floatOfInt .f64 n = intZ n := int_model n

theorem sum_run (a b : Nat) (w : World) (ha : a ≤ 18446744073709551615) (hb : b ≤ 18446744073709551615) (h : ¬ nanSum a b) (t : TypeId) :
    (binOp .add t (.float .f64 a) (.float .f64 b)).run Try.prog w = .ok (.float .f64 (addZ a b)) w := by
  refine run_float_arith w .add t .f64 a b _ ?_
  show Ieee.double.add a b = _
  rw [add_model (by omega) (by omega), if_neg h]

/-- where a sum is no number, it is one that is none, whichever -/
theorem sum_nan (a b : Nat) (w : World) (ha : a ≤ 18446744073709551615) (hb : b ≤ 18446744073709551615) (h : nanSum a b) :
    ∃ N, N ≤ 18446744073709551615 ∧ kindZ N = 5 ∧ ∀ t, (binOp .add t (.float .f64 a) (.float .f64 b)).run Try.prog w = .ok (.float .f64 N) w.drew := by
  have hm : FloatKind.f64.format.add a b = none := by
    show Ieee.double.add a b = none
    rw [add_model (by omega) (by omega), if_pos h]
  let T := w.tape w.drawn (.nanBits .f64 a b)
  refine ⟨(T % 2) * 2 ^ 63 + 0x7ff0000000000000 + 1 + (T / 2) % (2 ^ 52 - 1), ?_, ?_, ?_⟩
  · have h1 : T / 2 % (2 ^ 52 - 1) < 2 ^ 52 - 1 := Nat.mod_lt _ (by decide)
    have h2 : T % 2 < 2 := Nat.mod_lt _ (by decide)
    generalize T / 2 % (2 ^ 52 - 1) = q at *
    generalize T % 2 = p at *
    omega
  · have h1 : T / 2 % (2 ^ 52 - 1) < 2 ^ 52 - 1 := Nat.mod_lt _ (by decide)
    have h2 : T % 2 < 2 := Nat.mod_lt _ (by decide)
    rw [kind_nan]; unfold rungZ
    generalize T / 2 % (2 ^ 52 - 1) = q at *
    generalize T % 2 = p at *
    omega
  · intro t
    simp [binOp, Op.floatArith, hm, Question.forced, Question.cut, T]

end Go.Proofs.Ytaahaehgdamkdaa

/- Doubles cut towards nought: what the model's cut is, and that the cut double is just the whole part. Plain; conditions: none. -/
namespace Go.Proofs.Ytaahaehgdamkdaa
open Go Go.RowKit

/-- the whole part, without sign -/
def partZ (u : Nat) : Nat := valZ u / Qz
def truncZ (u : Nat) : Nat := rdZ (sgZ u) (partZ u * Qz)

theorem one_cut (n d : Nat) (s : Bool) : Ieee.Toward.zero.cut s n d = n / 2 ^ d := by
  unfold Ieee.Toward.cut
  simp only [Nat.one_shiftLeft, Bool.toNat_false, Nat.add_zero]
  rcases Nat.lt_or_ge (n.log2 + 2) d with h | h
  · rw [Nat.min_eq_right (by omega)]
    have h1 : n < 2 ^ (n.log2 + 1) := Nat.lt_log2_self
    have h2 : 2 ^ (n.log2 + 1) ≤ 2 ^ (n.log2 + 2) := Nat.pow_le_pow_right (by decide) (by omega)
    have h3 : 2 ^ (n.log2 + 1) ≤ 2 ^ d := Nat.pow_le_pow_right (by decide) (by omega)
    rw [Nat.div_eq_of_lt (by omega), Nat.div_eq_of_lt (by omega)]
  · rw [Nat.min_eq_left h]

theorem cut_part (s : Bool) (m : Nat) (p : Int) (hp : -1074 ≤ p) : Ieee.Toward.zero.cut s (m <<< p.toNat) (-p).toNat = m * 2 ^ (p + 1074).toNat / Qz := by
  rw [one_cut, Nat.shiftLeft_eq]
  unfold Qz
  rcases Int.lt_or_le p 0 with h | h
  · obtain ⟨d, hd⟩ : ∃ d : Nat, p = -(d : Int) := ⟨(-p).toNat, by omega⟩
    subst hd
    have hd : d ≤ 1074 := by omega
    have hq : 2 ^ q74 = 2 ^ d * 2 ^ (1074 - d) := by rw [← Nat.pow_add]; exact congrArg (fun k => 2 ^ k) (by unfold q74; omega)
    rw [show (-(d : Int)).toNat = 0 by omega, show (- -(d : Int)).toNat = d by omega, show (-(d : Int) + 1074).toNat = 1074 - d by omega, Nat.pow_zero, Nat.mul_one, hq, Nat.mul_div_mul_right _ _ (Nat.pow_pos (by decide))]
  · obtain ⟨d, hd⟩ : ∃ d : Nat, p = (d : Int) := ⟨p.toNat, by omega⟩
    subst hd
    have hq : 2 ^ (d + q74) = 2 ^ d * 2 ^ q74 := Nat.pow_add ..
    rw [show ((d : Int)).toNat = d by omega, show (-(d : Int)).toNat = 0 by omega, show ((d : Int) + 1074).toNat = d + q74 by unfold q74; omega, hq, ← Nat.mul_assoc, Nat.mul_div_cancel _ (Nat.pow_pos (by decide)), Nat.pow_zero, Nat.div_one]

theorem integral_fin {u : Nat} (hu : u < 18446744073709551616) (h : rungZ u < 9218868437227405312) : (Ieee.double.read u).integral .zero = .number (sgZ u) (partZ u) 0 := by
  obtain ⟨m, p, r1, hp, hv⟩ := read_num hu h
  rw [r1]
  show Ieee.Datum.number _ _ _ = _
  rw [cut_part _ _ _ hp, hv]
  rfl

theorem toInt_fin {u : Nat} (hu : u < 18446744073709551616) (h : rungZ u < 9218868437227405312) : (FloatKind.f64.decode u).toInt .zero = some (signI (sgZ u) (partZ u)) := by
  show (Ieee.double.read u).toInt .zero = _
  unfold Ieee.Datum.toInt
  rw [integral_fin hu h]
  show some (Ieee.signed _ _ 0) = _
  unfold Ieee.signed signI
  rw [Nat.shiftLeft_zero]

theorem int_of_fin {u : Nat} (hu : u < 18446744073709551616) (h : rungZ u < 9218868437227405312) (hk : partZ u ≤ 4611686018427387904) : floatToIntVal .f64 u .i64 = some (signI (sgZ u) (partZ u)) := by
  unfold floatToIntVal
  rw [toInt_fin hu h]
  show (if (-9223372036854775808 : Int) ≤ _ ∧ _ ≤ (9223372036854775807 : Int) then _ else _) = _
  rw [if_pos]
  unfold signI
  split <;> omega

theorem trunc_word {u : Nat} (hu : u < 18446744073709551616) (h : rungZ u < 9218868437227405312) : FloatKind.f64.encode ((FloatKind.f64.decode u).integral .zero) = truncZ u := by
  show Ieee.double.write ((Ieee.double.read u).integral .zero) = _
  rw [integral_fin hu h]
  show Ieee.double.nearest _ _ 0 = _
  rw [nearest_rd _ _ _ (by decide), show ((0 : Int) + 1074).toNat = q74 from rfl]
  unfold truncZ Qz
  rfl

/-- the cut double's worth is the whole part, to the bit -/
theorem trunc_facts {u : Nat} (h : rungZ u < 9218868437227405312) :
    truncZ u < 18446744073709551616 ∧ sgZ (truncZ u) = sgZ u ∧ rungZ (truncZ u) < 9218868437227405312 ∧ valZ (truncZ u) = partZ u * Qz := by
  obtain ⟨a, b, c⟩ := rung_rd (sgZ u) (partZ u * Qz)
  have hle : partZ u * Qz ≤ valZ u := by unfold partZ; exact Nat.div_mul_le_self _ _
  have hr : rnd (partZ u * Qz) ≤ rungZ u := by
    have := rnd_mono hle
    unfold valZ at this
    rwa [rnd_worth] at this
  have ha : rungZ (truncZ u) = rnd (partZ u * Qz) := by unfold truncZ; rw [a]; omega
  refine ⟨c, b, by omega, ?_⟩
  have hw : worthR (rnd (partZ u * Qz)) = partZ u * Qz := by
    have hv := val_parts u
    have hm := man_lt u
    rcases Nat.lt_or_ge (scaleZ u) 1075 with h1 | h1
    · refine worth_rnd (int_exact ?_)
      unfold partZ
      rw [hv, Q_split (scale_pos u) (by omega), Nat.mul_comm (manZ u), Nat.mul_div_mul_left _ _ (Nat.pow_pos (by decide))]
      have := Nat.div_le_self (manZ u) (2 ^ (1075 - scaleZ u))
      omega
    · have e : partZ u * Qz = valZ u := by
        unfold partZ
        have hd : valZ u = manZ u * 2 ^ (scaleZ u - 1075) * Qz := by rw [hv, Q_more h1, Nat.mul_comm Qz, ← Nat.mul_assoc]
        rw [hd, Nat.mul_div_cancel _ Q_pos]
      rw [e]
      unfold valZ
      rw [rnd_worth]
  unfold valZ
  rw [ha, hw]

/-- a number within the bounds -/
def nearZ (u : Nat) : Bool := decide (rungZ u ≤ 4886405595696988160)
theorem worth_bound_at (X : Nat) (h : 4503599627370496 * 2 ^ q84 = 4611686018427387904 * X) : worthR 4886405595696988160 = 4611686018427387904 * X := by
  rw [worth_high (by decide), ← h, show (4886405595696988160 / 4503599627370496 - 1 : Nat) = q84 from rfl, show (4503599627370496 + 4886405595696988160 % 4503599627370496 : Nat) = 4503599627370496 from rfl]
theorem worth_bound : worthR 4886405595696988160 = 4611686018427387904 * Qz :=
  worth_bound_at Qz (pow_swap' 4503599627370496 4611686018427387904 52 q84 62 q74 (2 ^ q84) rfl rfl rfl rfl |>.trans (by rw [Q_is]))
theorem near_val {u : Nat} : rungZ u ≤ 4886405595696988160 ↔ valZ u ≤ 4611686018427387904 * Qz := by
  have h := @worth_lt_iff 4886405595696988160 (rungZ u)
  rw [worth_bound] at h
  unfold valZ
  omega
theorem part_near {u : Nat} (h : rungZ u ≤ 4886405595696988160) : partZ u ≤ 4611686018427387904 := by
  unfold partZ
  have := near_val.1 h
  exact Nat.div_le_of_le_mul (by rw [Nat.mul_comm]; exact this)

theorem low_parts : kindZ 14109777632551763968 = 3 ∧ srkZ 14109777632551763968 = -4886405595696988160 := by decide
theorem high_parts : kindZ 4886405595696988160 = 3 ∧ srkZ 4886405595696988160 = 4886405595696988160 := by decide
theorem near_bool {u : Nat} : ((!(decide (kindZ u = 5)) && (decide ((-4886405595696988160 : Int) ≤ srkZ u))) && (!(decide (kindZ u = 5)) && decide (srkZ u ≤ 4886405595696988160))) = nearZ u := by
  have h1 := @kind_nan u
  have h2 := rung_lt u
  unfold nearZ srkZ
  rw [Bool.eq_iff_iff]
  simp only [Bool.and_eq_true, Bool.not_eq_true', decide_eq_true_iff, decide_eq_false_iff_not]
  split <;> omega

/-- beyond the bounds the sign alone tells -/
theorem versus_far {n : Int} {u : Nat} (h5 : kindZ u ≠ 5) (h0 : -4611686018427387904 ≤ n) (h1 : n ≤ 4611686018427387904) (h : 4886405595696988160 < rungZ u) :
    versusZ n u = (if sgZ u then 1 else -1, true) := by
  have hb : ¬ (kindZ u = 5 ∨ n < -4611686018427387904 ∨ 4611686018427387904 < n) := by omega
  by_cases h4 : kindZ u = 4
  · exact versus_inf hb h4
  · rw [versus_fin hb h4]
    have hv : 4611686018427387904 * Qz < valZ u := by have := @near_val u; omega
    have e1 : n * (Qz : Int) ≤ 4611686018427387904 * (Qz : Int) := Int.mul_le_mul_of_nonneg_right h1 (by omega)
    have e2 : -4611686018427387904 * (Qz : Int) ≤ n * (Qz : Int) := Int.mul_le_mul_of_nonneg_right h0 (by omega)
    unfold svalZ
    cases sgZ u
    · rw [if_neg (by decide), if_neg (by decide), cmp_lt (by omega)]
    · rw [if_pos rfl, if_pos rfl, cmp_gt (by omega)]

theorem cmp_srk (a b : Nat) : cmpI (srkZ a) (srkZ b) = cmpI (svalZ a) (svalZ b) := by
  have h1 := sval_lt_iff a b
  have h2 := sval_eq_iff a b
  unfold cmpI
  simp only [h1, h2]

/-- within, the whole parts are held against one another first, and then what stands behind -/
theorem versus_near {n : Int} {u : Nat} (h0 : -4611686018427387904 ≤ n) (h1 : n ≤ 4611686018427387904) (h : rungZ u ≤ 4886405595696988160) :
    versusZ n u = (if cmpI n (signI (sgZ u) (partZ u)) ≠ 0 then cmpI n (signI (sgZ u) (partZ u)) else cmpI (srkZ (truncZ u)) (srkZ u), true) := by
  have k2 := @kind_fin u
  obtain ⟨a, b, c, d⟩ := trunc_facts (u := u) (by omega)
  rw [versus_fin (by omega) (by omega), cmp_srk]
  refine congrArg (fun x => (x, true)) ?_
  have hQ := Q_pos
  have hdm := Nat.div_add_mod (valZ u) Qz
  have hml := Nat.mod_lt (valZ u) Q_pos
  have hp : Qz * (valZ u / Qz) = partZ u * Qz := by unfold partZ; rw [Nat.mul_comm]
  rw [hp] at hdm
  unfold svalZ signI
  rw [b, d]
  generalize partZ u = k at *
  generalize valZ u % Qz = r at *
  have hc : ((k * Qz : Nat) : Int) = (k : Int) * (Qz : Int) := by simp
  cases sgZ u
  · simp only [Bool.false_eq_true, if_false]
    rcases Int.lt_trichotomy n k with h2 | h2 | h2
    · rw [cmp_lt h2, if_pos (by decide)]
      have : n * (Qz : Int) < (k : Int) * (Qz : Int) := Int.mul_lt_mul_of_pos_right h2 (by omega)
      exact cmp_lt (by omega)
    · rw [cmp_eq h2, if_neg (by decide), h2, hc]
    · rw [cmp_gt h2, if_pos (by decide)]
      have : ((k : Int) + 1) * (Qz : Int) ≤ n * (Qz : Int) := Int.mul_le_mul_of_nonneg_right (by omega) (by omega)
      rw [Int.add_mul, Int.one_mul] at this
      exact cmp_gt (by omega)
  · simp only [if_true]
    have hc2 : -(k : Int) * (Qz : Int) = -((k : Int) * (Qz : Int)) := Int.neg_mul ..
    rcases Int.lt_trichotomy n (-(k : Int)) with h2 | h2 | h2
    · rw [cmp_lt h2, if_pos (by decide)]
      have : (n + 1) * (Qz : Int) ≤ -(k : Int) * (Qz : Int) := Int.mul_le_mul_of_nonneg_right (by omega) (by omega)
      rw [Int.add_mul, Int.one_mul] at this
      exact cmp_lt (by omega)
    · rw [cmp_eq h2, if_neg (by decide), h2, hc, hc2]
    · rw [cmp_gt h2, if_pos (by decide)]
      have : -(k : Int) * (Qz : Int) < n * (Qz : Int) := Int.mul_lt_mul_of_pos_right h2 (by omega)
      exact cmp_gt (by omega)

end Go.Proofs.Ytaahaehgdamkdaa

/- A region that draws its order and ends in a tail whose order is forced: the first n operations slot by slot, the tail as it stands. Conditions: none beyond those that the theorem states. -/
namespace Go.Proofs.Ytaahaehgdamkdaa
open Go Go.RowKit

/-- the tail from n on: each waits for the one ahead of it, the first one for all ahead, be it through others that wait -/
def tailB (ops : Array Oper) (n : Nat) : Bool :=
  decide (n ≤ ops.size) && (List.range ops.size).all fun i => match ops[i]? with
    | none => true
    | some o => if i < n then true else if i = n then (List.range n).all (fun j => (List.range (n + 1)).any fun k => decide (j < k) && (match ops[k]? with | none => false | some o' => o'.after.any fun e => e.on == j && Region.binds .any e)) else o.after.any fun e => e.on == i - 1 && Region.binds .any e

/-- slot of operation k, one of the first n -/
def ndst (ops : Array Oper) (n k : Nat) : Option Tmp := if k < n then rdst ops k else none

/-- edges point back; among the first n: no operand is another one's slot unless it waits for that one; slots are apart -/
def headB (ops : Array Oper) (n m : Nat) : Bool :=
  Region.noSelect ops && decide (n ≤ ops.size) &&
  (List.range ops.size).all fun i => match ops[i]? with
    | none => true
    | some o =>
      (o.after.all fun e => !Region.binds .any e || decide (e.on < i)) &&
      (decide (n ≤ i) || ((match o.dst with
       | none => true
       | some d => decide (d < m) && (List.range n).all fun k => k == i || ndst ops n k != some d) &&
      (o.looksAt ops).all fun t => (List.range n).all fun k => ndst ops n k != some t || o.after.any fun e => e.on == k && Region.binds .any e))

theorem headB_edge {ops : Array Oper} {n m : Nat} (h : headB ops n m = true) : ∀ i o, ops[i]? = some o → ∀ e ∈ o.after, Region.binds .any e = true → e.on < i := by
  intro i o ho e he hb
  simp only [headB, Bool.and_eq_true, List.all_eq_true, List.mem_range] at h
  have h1 := h.2 i (Array.getElem?_eq_some_iff.1 ho).1
  rw [ho] at h1
  simp only [Bool.and_eq_true] at h1
  have h2 := Array.all_eq_true'.1 h1.1 e he
  simpa [hb] using h2

theorem ndst_lt {ops : Array Oper} {n k : Nat} {t : Tmp} (h : ndst ops n k = some t) : k < n ∧ rdst ops k = some t := by
  unfold ndst at h
  split at h
  · exact ⟨by assumption, h⟩
  · cases h

theorem headB_slot {ops : Array Oper} {n m : Nat} (h : headB ops n m = true) {i k : Nat} {o : Oper} {d : Tmp} (hi : i < n) (ho : ops[i]? = some o) (hd : o.dst = some d) : d < m ∧ (ndst ops n k = some d → k = i) := by
  simp only [headB, Bool.and_eq_true, List.all_eq_true, List.mem_range] at h
  have h1 := h.2 i (Array.getElem?_eq_some_iff.1 ho).1
  rw [ho] at h1
  simp only [Bool.and_eq_true, hd, Bool.or_eq_true, decide_eq_true_eq] at h1
  rcases h1.2 with h2 | h2
  · omega
  · refine ⟨h2.1.1, fun hk => ?_⟩
    have h3 := List.all_eq_true.1 h2.1.2 k (List.mem_range.2 (ndst_lt hk).1)
    simpa [hk] using h3

theorem headB_sees {ops : Array Oper} {n m : Nat} (h : headB ops n m = true) {i k : Nat} {o : Oper} {t : Tmp} (hi : i < n) (ho : ops[i]? = some o) (ht : t ∈ o.looksAt ops) (hk : ndst ops n k = some t) :
    ∃ e ∈ o.after, e.on = k ∧ Region.binds .any e = true := by
  simp only [headB, Bool.and_eq_true, List.all_eq_true, List.mem_range] at h
  have h1 := h.2 i (Array.getElem?_eq_some_iff.1 ho).1
  rw [ho] at h1
  simp only [Bool.and_eq_true, Bool.or_eq_true, decide_eq_true_eq] at h1
  rcases h1.2 with h2 | h2
  · omega
  · have h3 := List.all_eq_true.1 (List.all_eq_true.1 h2.2 t ht) k (List.mem_range.2 (ndst_lt hk).1)
    simp only [hk, bne_self_eq_false, Bool.false_or] at h3
    obtain ⟨e, he, hh⟩ := Array.any_eq_true'.1 h3
    simp only [Bool.and_eq_true, beq_iff_eq] at hh
    exact ⟨e, he, hh.1, hh.2⟩

theorem wpOp_of_wanted {P : Program} {ops : Array Oper} {Q : Exit → Act → World → Prop} {i : Nat} {o : Oper} {K : Act → World → Prop} {a : Act} {w : World} (ho : ops[i]? = some o)
    (h : if Region.wanted o (yielded ops a.tmps) then o.wp P a w K Q ∨ (o.asks P a w ∧ LetsOut Q) else K (a.put o.dst undef) w) : wpOp P ops Q i K a w := by
  unfold wpOp
  simp only [ho]
  exact h

/-- the tail runs in its order -/
theorem wpAny_tail {P : Program} {ops : Array Oper} {Q : Exit → Act → World → Prop} {n : Nat} (hT : tailB ops n = true) (hE : ∀ i o, ops[i]? = some o → ∀ e ∈ o.after, Region.binds .any e = true → e.on < i) :
    ∀ (l : List Oper) (m : Nat) (fuel : Nat) (listed : Array Bool) (a : Act) (w : World), n ≤ m → l = ops.toList.drop m → listed.size = ops.size → (∀ i, i < ops.size → listed.getD i false = decide (i < m)) → ops.size ≤ m + fuel →
      wpList P ops Q l a w → wpAny P .any ops Q fuel listed a w := by
  simp only [tailB, Bool.and_eq_true, decide_eq_true_eq, List.all_eq_true, List.mem_range] at hT
  intro l
  induction l with
  | nil =>
    intro m fuel listed a w hnm hl hs hd hf h
    have hm : ops.size ≤ m := by
      have := congrArg List.length hl
      simp only [List.length_nil, List.length_drop, Array.length_toList] at this
      omega
    have hr : Region.ready .any ops listed = [] := by
      refine List.eq_nil_iff_forall_not_mem.2 fun j hj => ?_
      obtain ⟨h0, o, ho, _⟩ := mem_ready.1 hj
      have hj' : j < ops.size := (Array.getElem?_eq_some_iff.1 ho).1
      have h1 := hd j hj'
      have hj'' : j < listed.size := by omega
      rw [Array.getD_eq_getD_getElem?, Array.getElem?_eq_getElem hj''] at h0 h1
      simp only [Option.getD_some] at h0 h1
      rw [h0] at h1
      simp at h1
      omega
    cases fuel with
    | zero => exact ⟨hr, h⟩
    | succ fuel => exact ⟨fun _ => h, fun i hi => by rw [hr] at hi; cases hi⟩
  | cons o l ih =>
    intro m fuel listed a w hnm hl hs hd hf h
    have hml : m < ops.size := by
      have := congrArg List.length hl
      simp only [List.length_cons, List.length_drop, Array.length_toList] at this
      omega
    have ho : ops[m]? = some o := by
      have h1 := congrArg (fun l => l[0]?) hl
      simp only [List.getElem?_cons_zero, List.getElem?_drop, Nat.add_zero, Array.getElem?_toList] at h1
      exact h1.symm
    have hl' : l = ops.toList.drop (m + 1) := by
      have h1 := congrArg List.tail hl
      simpa [List.tail_drop] using h1
    cases fuel with
    | zero => omega
    | succ fuel =>
      have honly : ∀ i ∈ Region.ready .any ops listed, i = m := by
        intro i hi
        obtain ⟨h0, oi, hoi, hall⟩ := mem_ready.1 hi
        have hi' : i < ops.size := (Array.getElem?_eq_some_iff.1 hoi).1
        have h1 := hd i hi'
        have hi'' : i < listed.size := by omega
        rw [Array.getD_eq_getD_getElem?, Array.getElem?_eq_getElem hi''] at h0 h1
        simp only [Option.getD_some] at h0 h1
        rw [h0] at h1
        have him : ¬ i < m := by simpa using h1
        rcases Nat.lt_or_ge m i with hlt | hge
        · exfalso
          have hb := hT.2 i hi'
          rw [hoi] at hb
          simp only at hb
          rw [if_neg (by omega), if_neg (by omega)] at hb
          obtain ⟨e, he, hh⟩ := Array.any_eq_true'.1 hb
          simp only [Bool.and_eq_true, beq_iff_eq] at hh
          have h2 := hall e he hh.2
          rw [hh.1, hd (i - 1) (by omega)] at h2
          simp at h2
          omega
        · omega
      refine ⟨fun hr => ?_, fun i hi => ?_⟩
      · exfalso
        have hmem : m ∈ Region.ready .any ops listed := by
          rw [mem_ready]
          have hm'' : m < listed.size := by omega
          have h1 := hd m hml
          refine ⟨?_, o, ho, fun e he hb => ?_⟩
          · rw [Array.getD_eq_getD_getElem?, Array.getElem?_eq_getElem hm''] at h1 ⊢
            simpa using h1
          · have hlt := hE m o ho e he hb
            rw [hd e.on (by omega)]
            simpa using hlt
        rw [hr] at hmem
        cases hmem
      · have him := honly i hi
        subst him
        refine wpOp_of_wanted ho ?_
        have hstep : ∀ a' w', wpList P ops Q l a' w' → wpAny P .any ops Q fuel (listed.setIfInBounds i true) a' w' := fun a' w' hh =>
          ih (i + 1) fuel _ a' w' (by omega) hl' (by simpa using hs) (fun j hj => by
            by_cases hji : j = i
            · subst hji
              rw [Array.getD_eq_getD_getElem?, Array.getElem?_setIfInBounds_self_of_lt (by omega)]
              simp
            · rw [getD_set_ne false (Ne.symm hji), hd j hj]
              have : (j < i) ↔ (j < i + 1) := by omega
              simp [this]) (by omega) hh
        unfold wpList at h
        by_cases hw : Region.wanted o (yielded ops a.tmps) = true
        · rw [if_pos hw] at h ⊢
          exact h.imp (Oper.wp_mono hstep) id
        · rw [if_neg hw] at h ⊢
          exact hstep _ _ h

/-- what holds while the first n come up -/
structure NInv (ops : Array Oper) (n : Nat) (Le : World → World → Prop) (G : Nat → Value → World → Prop) (a0 : Act) (w0 : World) (listed : Array Bool) (a : Act) (w : World) : Prop where
  le : Le w0 w
  defers : a.defers = a0.defers
  size : a.tmps.size = a0.tmps.size
  frame : ∀ t, (∀ k, ndst ops n k ≠ some t) → a.tmps[t]?.getD undef = a0.tmps[t]?.getD undef
  typed : ∀ k t, listed.getD k false = true → ndst ops n k = some t → G k (a.tmps[t]?.getD undef) w
  closed : ∀ k o, listed.getD k false = true → ops[k]? = some o → ∀ e ∈ o.after, Region.binds .any e = true → listed.getD e.on false = true

theorem listed_mono {listed : Array Bool} {i j : Nat} (h : listed.getD j false = true) : (listed.setIfInBounds i true).getD j false = true := by
  by_cases hij : i = j
  · subst hij
    rcases Nat.lt_or_ge i listed.size with h1 | h1
    · rw [Array.getD_eq_getD_getElem?, Array.getElem?_setIfInBounds_self_of_lt h1]
      rfl
    · rw [Array.getD_eq_getD_getElem?, Array.getElem?_eq_none h1] at h
      cases h
  · rw [getD_set_ne false hij]
    exact h

theorem NInv.step {ops : Array Oper} {n : Nat} {Le : World → World → Prop} {G : Nat → Value → World → Prop} {a0 : Act} {w0 : World} {listed : Array Bool} {a : Act} {w w' : World} {i : Nat} {o : Oper} {v : Value}
    (htr : ∀ {x y z : World}, Le x y → Le y z → Le x z) (hst : ∀ k u x y, G k u x → Le x y → G k u y)
    (hB : headB ops n a0.tmps.size = true) (hi : i < n) (ho : ops[i]? = some o)
    (h : NInv ops n Le G a0 w0 listed a w) (hle : Le w w') (hv : G i v w') (hed : ∀ e ∈ o.after, Region.binds .any e = true → listed.getD e.on false = true) : NInv ops n Le G a0 w0 (listed.setIfInBounds i true) (a.put o.dst v) w' := by
  have hg : ∀ (x : Array Value) (t : Nat), x[t]?.getD undef = x.getD t undef := fun x t => (Array.getD_eq_getD_getElem? ..).symm
  have hnd : ndst ops n i = o.dst := by unfold ndst rdst; rw [if_pos hi, ho]; rfl
  refine ⟨htr h.le hle, (put_defs _ _ _).trans h.defers, (put_size _ _ _).trans h.size, fun t ht => ?_, fun k t hk hkt => ?_, fun k o' hk hko e he hb => ?_⟩
  · rw [hg, put_getD_other _ _ _ _ (fun e => ht i (by rw [hnd]; exact e)), ← hg]
    exact h.frame t ht
  rotate_left
  · by_cases hki : k = i
    · subst hki
      rw [ho] at hko
      obtain rfl := Option.some.inj hko
      exact listed_mono (hed e he hb)
    · exact listed_mono (h.closed k o' (by rwa [getD_set_ne false (Ne.symm hki)] at hk) hko e he hb)
  · by_cases hki : k = i
    · subst hki
      have hd : o.dst = some t := by rw [← hnd]; exact hkt
      have hlt := (headB_slot hB (k := k) hi ho hd).1
      rw [hg, hd, put_getD_same _ _ _ (by rw [h.size]; exact hlt)]
      exact hv
    · have hk' : listed.getD k false = true := by rwa [getD_set_ne false (Ne.symm hki)] at hk
      rw [hg, put_getD_other _ _ _ _ (fun e => hki ((headB_slot hB (k := k) hi ho e).2 hkt)), ← hg]
      exact hst _ _ _ _ (h.typed k t hk' hkt) hle

theorem wpAny_head {P : Program} {ops : Array Oper} {n : Nat} {Q : Exit → Act → World → Prop} {Le : World → World → Prop} {G : Nat → Value → World → Prop} {a0 : Act} {w0 : World}
    (htr : ∀ {x y z : World}, Le x y → Le y z → Le x z) (hle0 : ∀ x, Le x x) (hst : ∀ k u x y, G k u x → Le x y → G k u y)
    (hB : headB ops n a0.tmps.size = true) (hT : tailB ops n = true)
    (hstep : ∀ i o, i < n → ops[i]? = some o → ∀ (a : Act) (w : World), Le w0 w → (∀ t, (∀ k, ndst ops n k ≠ some t) → a.tmps[t]?.getD undef = a0.tmps[t]?.getD undef) →
      (∀ k t, ndst ops n k = some t → t ∈ o.looksAt ops → G k (a.tmps[t]?.getD undef) w) → RStep P ops Le G i o a w)
    (hpost : ∀ a w, Le w0 w → a.defers = a0.defers → a.tmps.size = a0.tmps.size → (∀ t, (∀ k, ndst ops n k ≠ some t) → a.tmps[t]?.getD undef = a0.tmps[t]?.getD undef) →
      (∀ k t, ndst ops n k = some t → G k (a.tmps[t]?.getD undef) w) → wpList P ops Q (ops.toList.drop n) a w) :
    ∀ (fuel : Nat) (listed : Array Bool) (a : Act) (w : World), listed.size = ops.size → (∀ i, n ≤ i → i < ops.size → listed.getD i false = false) → listed.count false ≤ fuel →
      NInv ops n Le G a0 w0 listed a w → wpAny P .any ops Q fuel listed a w := by
  have hE := headB_edge hB
  have hT' := hT
  simp only [tailB, Bool.and_eq_true, decide_eq_true_eq, List.all_eq_true, List.mem_range] at hT'
  have alldone : ∀ (fuel : Nat) (listed : Array Bool) (a : Act) (w : World), listed.size = ops.size → (∀ i, n ≤ i → i < ops.size → listed.getD i false = false) → (∀ i, i < n → listed.getD i false = true) → ops.size ≤ n + fuel →
      NInv ops n Le G a0 w0 listed a w → wpAny P .any ops Q fuel listed a w := by
    intro fuel listed a w hs ht hl hf h
    refine wpAny_tail hT hE _ n fuel listed a w (Nat.le_refl _) rfl hs (fun i hi => ?_) hf (hpost a w h.le h.defers h.size h.frame (fun k t hk => h.typed k t (hl k (ndst_lt hk).1) hk))
    by_cases hin : i < n
    · rw [hl i hin]; simp [hin]
    · rw [ht i (by omega) hi]; simp [hin]
  intro fuel
  induction fuel with
  | zero =>
    intro listed a w hs ht hcnt h
    have hl : ∀ i, i < ops.size → listed.getD i false = true := by
      intro i hi
      cases hc : listed.getD i false with
      | true => rfl
      | false =>
        have hi' : i < listed.size := by omega
        have hmem : false ∈ listed := by
          rw [Array.getD_eq_getD_getElem?, Array.getElem?_eq_getElem hi'] at hc
          simp only [Option.getD_some] at hc
          exact hc ▸ Array.getElem_mem hi'
        have := Array.count_pos_iff.2 hmem
        omega
    have hn : ops.size ≤ n := by
      rcases Nat.lt_or_ge n ops.size with h1 | h1
      · have h2 := ht n (Nat.le_refl _) h1
        rw [hl n h1] at h2
        cases h2
      · exact h1
    exact alldone 0 listed a w hs ht (fun i hi => hl i (by omega)) (by omega) h
  | succ fuel ih =>
    intro listed a w hs ht hcnt h
    by_cases hall : ∀ i, i < n → listed.getD i false = true
    · refine alldone (fuel + 1) listed a w hs ht hall ?_ h
      have h1 : ∀ (l : List Bool) (k : Nat), (∀ i, k ≤ i → i < l.length → l[i]? = some false) → l.length - k ≤ l.count false := by
        intro l
        induction l with
        | nil => intro k _; simp
        | cons b l ihl =>
          intro k hk
          cases k with
          | zero =>
            have h0 := hk 0 (Nat.le_refl _) (by simp)
            simp only [List.getElem?_cons_zero, Option.some.injEq] at h0
            have h2 := ihl 0 (fun i _ hi => by have := hk (i + 1) (by omega) (by simp; omega); simpa using this)
            subst h0
            simp only [List.count_cons_self, List.length_cons]
            omega
          | succ k =>
            have h2 := ihl k (fun i hki hi => by have := hk (i + 1) (by omega) (by simp; omega); simpa using this)
            have h3 : l.count false ≤ (b :: l).count false := List.count_le_count_cons
            simp only [List.length_cons]
            omega
      have h2 := h1 listed.toList n (fun i hi1 hi2 => by
        have hi3 : i < listed.size := by simpa using hi2
        have := ht i hi1 (by omega)
        rw [Array.getD_eq_getD_getElem?, Array.getElem?_eq_getElem hi3] at this
        simp only [Option.getD_some] at this
        rw [Array.getElem?_toList, Array.getElem?_eq_getElem hi3, this])
      have h3 : listed.toList.count false = listed.count false := by simp
      rw [h3] at h2
      simp only [Array.length_toList] at h2
      omega
    · -- some of the first n is still to come: the least one is ready, and no tail's operation is
      obtain ⟨m, hm, hmf⟩ : ∃ m, m < n ∧ listed.getD m false = false := by
        refine Classical.byContradiction fun hc => hall fun i hi => ?_
        cases hq : listed.getD i false with
        | true => rfl
        | false => exact absurd ⟨i, hi, hq⟩ hc
      have least : ∀ k, k < n → listed.getD k false = false → ∃ i, i ∈ Region.ready .any ops listed := by
        intro k
        induction k using Nat.strongRecOn with
        | ind k ihk =>
          intro hk hkf
          have hko : k < ops.size := by omega
          by_cases hr : ∀ e ∈ ops[k].after, Region.binds .any e = true → listed.getD e.on false = true
          · refine ⟨k, mem_ready.2 ⟨?_, ops[k], Array.getElem?_eq_getElem hko, hr⟩⟩
            have hkl : k < listed.size := by omega
            rw [Array.getD_eq_getD_getElem?, Array.getElem?_eq_getElem hkl] at hkf ⊢
            exact hkf
          · obtain ⟨e, he, hb, hef⟩ : ∃ e ∈ ops[k].after, Region.binds .any e = true ∧ listed.getD e.on false = false := by
              refine Classical.byContradiction fun hc => hr fun e he hb => ?_
              cases hq : listed.getD e.on false with
              | true => rfl
              | false => exact absurd ⟨e, he, hb, hq⟩ hc
            have hlt := hE k _ (Array.getElem?_eq_getElem hko) e he hb
            exact ihk e.on hlt (by omega) hef
      refine ⟨fun hr => ?_, fun i hi => ?_⟩
      · obtain ⟨i, hi⟩ := least m hm hmf
        rw [hr] at hi
        cases hi
      · obtain ⟨h0, o, ho, hedges⟩ := mem_ready.1 hi
        have hi' : i < ops.size := (Array.getElem?_eq_some_iff.1 ho).1
        have hil : i < listed.size := by omega
        have hin : i < n := by
          rcases Nat.lt_or_ge i n with h1 | h1
          · exact h1
          · exfalso
            have hb := hT'.2 i hi'
            rw [ho] at hb
            simp only at hb
            rw [if_neg (by omega)] at hb
            by_cases hie : i = n
            · rw [if_pos hie] at hb
              have hdown : ∀ d j, n - j = d → j < n → listed.getD j false = true := by
                intro d
                induction d using Nat.strongRecOn with
                | ind d ihd =>
                  intro j hjd hjn
                  have h2 := List.all_eq_true.1 hb j (List.mem_range.2 hjn)
                  obtain ⟨k, hk, hkk⟩ := List.any_eq_true.1 h2
                  rw [Bool.and_eq_true, decide_eq_true_eq] at hkk
                  obtain ⟨hjk, hkk⟩ := hkk
                  have hkn : k < n + 1 := List.mem_range.1 hk
                  cases hko : ops[k]? with
                  | none => rw [hko] at hkk; cases hkk
                  | some o' =>
                    rw [hko] at hkk
                    obtain ⟨e, he, hh⟩ := Array.any_eq_true'.1 hkk
                    simp only [Bool.and_eq_true, beq_iff_eq] at hh
                    by_cases hkn2 : k = n
                    · subst hkn2
                      subst hie
                      rw [ho] at hko
                      obtain rfl := Option.some.inj hko
                      have h3 := hedges e he hh.2
                      rwa [hh.1] at h3
                    · have hkl := ihd (n - k) (by omega) k rfl (by omega)
                      have h3 := h.closed k o' hkl hko e he hh.2
                      rwa [hh.1] at h3
              rw [hdown _ m rfl hm] at hmf
              cases hmf
            · rw [if_neg hie] at hb
              obtain ⟨e, he, hh⟩ := Array.any_eq_true'.1 hb
              simp only [Bool.and_eq_true, beq_iff_eq] at hh
              have h3 := hedges e he hh.2
              rw [hh.1, ht (i - 1) (by omega) (by omega)] at h3
              cases h3
        have hif : listed[i] = false := by
          rw [Array.getD_eq_getD_getElem?, Array.getElem?_eq_getElem hil] at h0
          simpa using h0
        have hs' : (listed.setIfInBounds i true).size = ops.size := by simpa using hs
        have hcnt' : (listed.setIfInBounds i true).count false ≤ fuel := by
          have hpos : 0 < listed.count false := Array.count_pos_iff.2 (hif ▸ Array.getElem_mem hil)
          rw [Array.setIfInBounds_def, dif_pos hil, Array.count_set]
          simp [hif]
          omega
        have ht' : ∀ j, n ≤ j → j < ops.size → (listed.setIfInBounds i true).getD j false = false := by
          intro j hj1 hj2
          rw [getD_set_ne false (by omega)]
          exact ht j hj1 hj2
        have hsees : ∀ k t, ndst ops n k = some t → t ∈ o.looksAt ops → G k (a.tmps[t]?.getD undef) w := by
          intro k t hk htl
          obtain ⟨e, he, hek, hb⟩ := headB_sees hB hin ho htl hk
          exact h.typed k t (hek ▸ hedges e he hb) hk
        have hs1 := hstep i o hin ho a w h.le h.frame hsees
        unfold RStep at hs1
        unfold wpOp
        simp only [ho]
        by_cases hw : Region.wanted o (yielded ops a.tmps) = true
        · rw [if_pos hw] at hs1
          rw [if_pos hw]
          refine Or.inl ?_
          have hmono : o.wp P a w (wpAny P .any ops Q fuel (listed.setIfInBounds i true)) (fun _ _ _ => False) :=
            Oper.wp_mono (fun a' w' ⟨v, hv1, hv2, hv3⟩ => by
              subst hv1
              exact ih _ _ _ hs' ht' hcnt' (h.step htr hst hB hin ho hv2 hv3 hedges)) hs1
          revert hmono
          unfold Oper.wp
          generalize (execOp a.eval o).run P w = r
          intro hmono
          cases r with
          | ok nx w' =>
            cases nx <;> simp only [Oper.upon] at hmono ⊢
            all_goals first
              | exact hmono
              | exact Calls.mono hmono (fun e w'' he => by
                  cases e with
                  | returned v => exact he
                  | panicked c => exact he.elim
                  | outgrown => obtain ⟨_, _, hf⟩ := he; exact hf.elim)
          | halt x w' => cases x <;> simp only [Oper.upon] at hmono
        · rw [if_neg hw] at hs1
          rw [if_neg hw]
          exact ih _ _ _ hs' ht' hcnt' (h.step htr hst hB hin ho (hle0 w) hs1 hedges)

/-- no one of the first n operations writes slot t -/
def nfreeB (ops : Array Oper) (n : Nat) (t : Tmp) : Bool := (List.range n).all fun k => ndst ops n k != some t

theorem nfreeB_spec {ops : Array Oper} {n : Nat} {t : Tmp} (h : nfreeB ops n t = true) : ∀ k, ndst ops n k ≠ some t := by
  intro k hk
  have := List.all_eq_true.1 h k (List.mem_range.2 (ndst_lt hk).1)
  simp [hk] at this

/-- the region by its slots, as far as its tail -/
theorem wp_region_tail {P : Program} {ops : Array Oper} {id : Nat} {Q : Exit → Act → World → Prop} (n : Nat) (Le : World → World → Prop) (G : Nat → Value → World → Prop) {tm : Array Value} {w0 : World}
    (hm : P.follows .mixedOrders = true)
    (htr : ∀ {x y z : World}, Le x y → Le y z → Le x z) (hle0 : ∀ x, Le x x) (hdr : Le w0 w0.drew) (hst : ∀ k u x y, G k u x → Le x y → G k u y)
    (hB : headB ops n tm.size = true) (hT : tailB ops n = true)
    (hstep : ∀ (tmps : Array Value) (df : List Deferred) (w : World), Le w0 w → (∀ t, nfreeB ops n t = true → tmps[t]?.getD undef = tm[t]?.getD undef) →
      ∀ i o, i < n → ops[i]? = some o → (∀ k t, ndst ops n k = some t → (o.looksAt ops).contains t = true → G k (tmps[t]?.getD undef) w) → RStep P ops Le G i o ⟨tmps, df⟩ w)
    (hpost : ∀ tmps w, Le w0 w → tmps.size = tm.size → (∀ t, nfreeB ops n t = true → tmps[t]?.getD undef = tm[t]?.getD undef) →
      (∀ k t, ndst ops n k = some t → G k (tmps[t]?.getD undef) w) → wpList P ops Q (ops.toList.drop n) ⟨tmps, []⟩ w) :
    (Code.region id ops true).wp P Q ⟨tm, []⟩ w0 := by
  refine wp_region_any hm (wpAny_head (n := n) (Le := Le) (G := G) (a0 := ⟨tm, []⟩) (w0 := w0) htr hle0 hst hB hT ?_ ?_ ops.size _ ⟨tm, []⟩ w0.drew (by simp) ?_ (by simp) ⟨hdr, rfl, rfl, fun _ _ => rfl, fun k t hk _ => ?_, fun k o hk _ => ?_⟩)
  · intro i o hi ho a w hle hfr hty
    obtain ⟨tmps, df⟩ := a
    exact hstep tmps df w hle (fun t ht => hfr t (nfreeB_spec ht)) i o hi ho (fun k t hk ht => hty k t hk (by simpa using ht))
  · intro a w hle hd hsz hfr hty
    obtain ⟨tmps, df⟩ := a
    simp only at hd
    subst hd
    exact hpost tmps w hle hsz (fun t ht => hfr t (nfreeB_spec ht)) hty
  · intro i hi1 hi2
    simp only [Array.getD_eq_getD_getElem?, Array.getElem?_replicate]
    split <;> rfl
  · simp only [Array.getD_eq_getD_getElem?, Array.getElem?_replicate] at hk
    split at hk <;> simp at hk
  · simp only [Array.getD_eq_getD_getElem?, Array.getElem?_replicate] at hk
    split at hk <;> simp at hk

/-- the frame behind the head, written out -/
theorem nframe_eq {ops : Array Oper} {n : Nat} {tm tmps : Array Value} (D : List Nat) (hs : tmps.size = tm.size) (hfr : ∀ t, nfreeB ops n t = true → tmps[t]?.getD undef = tm[t]?.getD undef)
    (hD : ((List.range tm.size).all fun t => D.contains t || nfreeB ops n t) = true) :
    tmps = D.foldl (fun acc d => acc.setIfInBounds d (tmps[d]?.getD undef)) tm := by
  have size_fold : ∀ (L : List Nat) (x : Array Value), (L.foldl (fun acc d => acc.setIfInBounds d (tmps[d]?.getD undef)) x).size = x.size := by
    intro L
    induction L with
    | nil => intro x; rfl
    | cons d L ih => intro x; simp [ih]
  have get_fold : ∀ (L : List Nat) (x : Array Value) (t : Nat), t < x.size →
      (L.foldl (fun acc d => acc.setIfInBounds d (tmps[d]?.getD undef)) x)[t]? = if t ∈ L then some (tmps[t]?.getD undef) else x[t]? := by
    intro L
    induction L with
    | nil => intro x t _; simp
    | cons d L ih =>
      intro x t ht
      rw [List.foldl_cons, ih _ t (by simpa using ht)]
      by_cases h1 : t ∈ L
      · simp [h1]
      · by_cases h2 : d = t
        · subst h2
          simp [h1, Array.getElem?_setIfInBounds_self_of_lt ht]
        · have h3 : ¬ t = d := fun e => h2 e.symm
          simp [h1, h3, Array.getElem?_setIfInBounds_ne h2]
  apply Array.ext_getElem?
  intro t
  rcases Nat.lt_or_ge t tm.size with ht | ht
  · rw [get_fold D tm t ht]
    have htm : tmps[t]? = some (tmps[t]?.getD undef) := by
      rw [Array.getElem?_eq_getElem (by omega)]; rfl
    by_cases hm : t ∈ D
    · rw [if_pos hm]; exact htm
    · rw [if_neg hm, htm]
      have h1 := List.all_eq_true.1 hD t (List.mem_range.2 ht)
      have h2 : nfreeB ops n t = true := by
        simpa [hm] using h1
      rw [hfr t h2, Array.getElem?_eq_getElem ht]; rfl
  · rw [Array.getElem?_eq_none (by omega), Array.getElem?_eq_none (by rw [size_fold]; exact ht)]

end Go.Proofs.Ytaahaehgdamkdaa

/- octet.Num, octet.Word, octet.Text, by their contracts. Conditions: the reach of a slice. -/
namespace Go.Proofs.Ytaahaehgdamkdaa
open Go Go.RowKit

/-- a pair of bytes and a number is told, and nothing that was there has turned -/
def Told2 (w : World) (p : List UInt8 × Int) (e : Ending) (w' : World) : Prop := ∃ r, e = .returned (.tuple #[r, .int .i64 p.2]) ∧ w'.ownsRow w.heap.size 5 1 r p.1.length (bvs p.1) ∧ Ext w w'

theorem Told2.mk {w w' : World} {p : List UInt8 × Int} {l : List UInt8} {e : Int} {r : Value} {n : Nat} (hp : p = (l, e)) (hb : w'.ownsRow w.heap.size 5 1 r n (bvs l)) (hx : Ext w w') : Told2 w p (.returned (.tuple #[r, .int .i64 e])) w' := by
  subst hp
  exact ⟨r, rfl, own_len hb, hx⟩


end Go.Proofs.Ytaahaehgdamkdaa

/- A region that draws its order, told by what holds once an operation has run: stores too. Conditions: none beyond those that the theorem states. -/
namespace Go.Proofs.Ytaahaehgdamkdaa
open Go Go.RowKit

/-- operation o waits for operation k, whatever the mode -/
def waitsB (o : Oper) (k : Nat) : Bool := o.after.any fun e => e.on == k && Region.binds .any e
theorem waitsB_spec {o : Oper} {k : Nat} (h : waitsB o k = true) : ∃ e ∈ o.after, e.on = k ∧ Region.binds .any e = true := by
  obtain ⟨e, he, hh⟩ := Array.any_eq_true'.1 h
  simp only [Bool.and_eq_true, beq_iff_eq] at hh
  exact ⟨e, he, hh.1, hh.2⟩

/-- edges point back, slots are apart, and what is told of an operation speaks of its own slot and of those that it waits for -/
def deepB (ops : Array Oper) (n : Nat) (rd : Nat → List Tmp) : Bool :=
  Region.noSelect ops &&
  (List.range ops.size).all fun i => match ops[i]? with
    | none => true
    | some o =>
      (o.after.all fun e => !Region.binds .any e || decide (e.on < i)) &&
      (match o.dst with
       | none => true
       | some d => decide (d < n) && (List.range ops.size).all fun k => k == i || rdst ops k != some d) &&
      (rd i).all fun t => (List.range ops.size).all fun k => rdst ops k != some t || k == i || waitsB o k

theorem deepB_at {ops : Array Oper} {n : Nat} {rd : Nat → List Tmp} (h : deepB ops n rd = true) {i : Nat} {o : Oper} (ho : ops[i]? = some o) :
    (∀ e ∈ o.after, Region.binds .any e = true → e.on < i) ∧ (∀ d, o.dst = some d → d < n ∧ ∀ k, rdst ops k = some d → k = i) ∧ (∀ t ∈ rd i, ∀ k, rdst ops k = some t → k = i ∨ waitsB o k = true) := by
  have hlt : ∀ k t, rdst ops k = some t → k < ops.size := by
    intro k t hk
    unfold rdst at hk
    rcases Nat.lt_or_ge k ops.size with hh | hh
    · exact hh
    · rw [Array.getElem?_eq_none hh] at hk; cases hk
  simp only [deepB, Bool.and_eq_true, List.all_eq_true, List.mem_range] at h
  have h1 := h.2 i (Array.getElem?_eq_some_iff.1 ho).1
  rw [ho] at h1
  simp only [Bool.and_eq_true] at h1
  refine ⟨fun e he hb => ?_, fun d hd => ?_, fun t ht k hk => ?_⟩
  · have h2 := Array.all_eq_true'.1 h1.1.1 e he
    simpa [hb] using h2
  · have h2 := h1.1.2
    rw [hd] at h2
    simp only [Bool.and_eq_true, decide_eq_true_eq, List.all_eq_true, List.mem_range] at h2
    refine ⟨h2.1, fun k hk => ?_⟩
    have h3 := h2.2 k (hlt k d hk)
    simpa [hk] using h3
  · have h2 := List.all_eq_true.1 (List.all_eq_true.1 h1.2 t ht) k (List.mem_range.2 (hlt k t hk))
    simpa [hk] using h2

/-- what holds in the middle of the region -/
structure DInv (ops : Array Oper) (Le : World → World → Prop) (D : Nat → (Nat → Value) → World → Prop) (a0 : Act) (w0 : World) (listed : Array Bool) (a : Act) (w : World) : Prop where
  le : Le w0 w
  defers : a.defers = a0.defers
  size : a.tmps.size = a0.tmps.size
  frame : ∀ t, (∀ k, rdst ops k ≠ some t) → a.tmps.getD t undef = a0.tmps.getD t undef
  closed : ∀ k o, listed.getD k false = true → ops[k]? = some o → ∀ e ∈ o.after, Region.binds .any e = true → listed.getD e.on false = true
  held : ∀ k, k < ops.size → listed.getD k false = true → D k (fun t => a.tmps.getD t undef) w

theorem DInv.step {ops : Array Oper} {Le : World → World → Prop} {D : Nat → (Nat → Value) → World → Prop} {rd : Nat → List Tmp} {a0 : Act} {w0 : World} {listed : Array Bool} {a : Act} {w w' : World} {i : Nat} {o : Oper} {v : Value}
    (htr : ∀ {x y z : World}, Le x y → Le y z → Le x z) (hst : ∀ k r x y, D k r x → Le x y → D k r y) (hrd : ∀ k r r' x, (∀ t ∈ rd k, r t = r' t) → D k r x → D k r' x)
    (hB : deepB ops a0.tmps.size rd = true) (ho : ops[i]? = some o) (hnot : listed.getD i false = false)
    (hall : ∀ e ∈ o.after, Region.binds .any e = true → listed.getD e.on false = true)
    (h : DInv ops Le D a0 w0 listed a w) (hle : Le w w') (hv : D i (fun t => (a.put o.dst v).tmps.getD t undef) w') : DInv ops Le D a0 w0 (listed.setIfInBounds i true) (a.put o.dst v) w' := by
  have hset : ∀ k, listed.getD k false = true → (listed.setIfInBounds i true).getD k false = true := by
    intro k hk
    by_cases hki : k = i
    · subst hki; rw [hk] at hnot; cases hnot
    · rwa [getD_set_ne false (Ne.symm hki)]
  refine ⟨htr h.le hle, (put_defs _ _ _).trans h.defers, (put_size _ _ _).trans h.size, fun t ht => ?_, fun k ok hk hok e he hb => ?_, fun k hks hk => ?_⟩
  · rw [put_getD_other _ _ _ _ (fun e => ht i (by unfold rdst; rw [ho]; exact e))]
    exact h.frame t ht
  · by_cases hki : k = i
    · subst hki
      rw [ho] at hok
      obtain rfl := Option.some.inj hok
      exact hset _ (hall e he hb)
    · have hk' : listed.getD k false = true := by rwa [getD_set_ne false (Ne.symm hki)] at hk
      exact hset _ (h.closed k ok hk' hok e he hb)
  · by_cases hki : k = i
    · subst hki; exact hv
    · have hk' : listed.getD k false = true := by rwa [getD_set_ne false (Ne.symm hki)] at hk
      refine hrd k _ _ _ (fun t ht => ?_) (hst _ _ _ _ (h.held k hks hk') hle)
      refine (put_getD_other _ _ _ _ (fun e => ?_)).symm
      have hok : ops[k]? = some ops[k] := Array.getElem?_eq_getElem hks
      rcases (deepB_at hB hok).2.2 t ht i (by unfold rdst; rw [ho]; exact e) with h1 | h1
      · exact hki h1.symm
      · obtain ⟨ed, hed, hon, hbd⟩ := waitsB_spec h1
        have h2 := h.closed k _ hk' hok ed hed hbd
        rw [hon, hnot] at h2
        cases h2

theorem wpAny_deep {P : Program} {ops : Array Oper} {Q : Exit → Act → World → Prop} {Le : World → World → Prop} {D : Nat → (Nat → Value) → World → Prop} {rd : Nat → List Tmp} {a0 : Act} {w0 : World}
    (htr : ∀ {x y z : World}, Le x y → Le y z → Le x z) (hst : ∀ k r x y, D k r x → Le x y → D k r y) (hrd : ∀ k r r' x, (∀ t ∈ rd k, r t = r' t) → D k r x → D k r' x)
    (hB : deepB ops a0.tmps.size rd = true)
    (hstep : ∀ i o, ops[i]? = some o → ∀ (a : Act) (w : World), Le w0 w → a.tmps.size = a0.tmps.size →
      (∀ t, (∀ k, rdst ops k ≠ some t) → a.tmps.getD t undef = a0.tmps.getD t undef) →
      (∀ k, waitsB o k = true → D k (fun t => a.tmps.getD t undef) w) →
      if Region.wanted o (yielded ops a.tmps) then o.wp P a w (fun a' w' => ∃ v, a' = a.put o.dst v ∧ Le w w' ∧ D i (fun t => (a.put o.dst v).tmps.getD t undef) w') (fun _ _ _ => False) else D i (fun t => (a.put o.dst undef).tmps.getD t undef) w)
    (hpost : ∀ a w, Le w0 w → a.defers = a0.defers → a.tmps.size = a0.tmps.size → (∀ t, (∀ k, rdst ops k ≠ some t) → a.tmps.getD t undef = a0.tmps.getD t undef) →
      (∀ k, k < ops.size → D k (fun t => a.tmps.getD t undef) w) → Q .normal a w)
    (hle0 : ∀ x, Le x x) :
    ∀ (fuel : Nat) (listed : Array Bool) (a : Act) (w : World), listed.size = ops.size → listed.count false ≤ fuel → DInv ops Le D a0 w0 listed a w → wpAny P .any ops Q fuel listed a w := by
  have hall : ∀ (listed : Array Bool) (a : Act) (w : World), listed.size = ops.size → (∀ i, i < ops.size → listed.getD i false = true) → DInv ops Le D a0 w0 listed a w → Q .normal a w :=
    fun listed a w _ hl h => hpost a w h.le h.defers h.size h.frame fun k hk => h.held k hk (hl k hk)
  have hdone : ∀ (listed : Array Bool), listed.size = ops.size → Region.ready .any ops listed = [] → ∀ i, i < ops.size → listed.getD i false = true := by
    intro listed hs hr i
    induction i using Nat.strongRecOn with
    | ind i ih =>
      intro hi
      cases hc : listed.getD i false with
      | true => rfl
      | false =>
        have hm : i ∈ Region.ready .any ops listed := by
          rw [mem_ready]
          refine ⟨?_, ops[i], Array.getElem?_eq_getElem hi, fun e he hb => ?_⟩
          · have : i < listed.size := by omega
            simp only [Array.getD, this, dite_true] at hc ⊢
            exact hc
          · have hlt := (deepB_at hB (Array.getElem?_eq_getElem hi)).1 e he hb
            exact ih e.on hlt (by omega)
        rw [hr] at hm
        cases hm
  intro fuel
  induction fuel with
  | zero =>
    intro listed a w hs hcnt h
    have hl : ∀ i, i < ops.size → listed.getD i false = true := by
      intro i hi
      cases hc : listed.getD i false with
      | true => rfl
      | false =>
        have hi' : i < listed.size := by omega
        have hmem : false ∈ listed := by
          simp only [Array.getD, hi', dite_true] at hc
          exact hc ▸ Array.getElem_mem hi'
        have := Array.count_pos_iff.2 hmem
        omega
    refine ⟨?_, hall listed a w hs hl h⟩
    refine List.eq_nil_iff_forall_not_mem.2 fun j hj => ?_
    obtain ⟨h0, o, ho, _⟩ := mem_ready.1 hj
    have hj' : j < ops.size := (Array.getElem?_eq_some_iff.1 ho).1
    have := hl j hj'
    have hj'' : j < listed.size := by omega
    simp only [Array.getD, hj'', dite_true] at this h0
    rw [this] at h0
    cases h0
  | succ fuel ih =>
    intro listed a w hs hcnt h
    refine ⟨fun hr => hall listed a w hs (hdone listed hs hr) h, fun i hi => ?_⟩
    obtain ⟨h0, o, ho, hedges⟩ := mem_ready.1 hi
    have hi' : i < ops.size := (Array.getElem?_eq_some_iff.1 ho).1
    have hil : i < listed.size := by omega
    have hif : listed[i] = false := by
      rw [Array.getD_eq_getD_getElem?, Array.getElem?_eq_getElem hil] at h0
      simpa using h0
    have hnot : listed.getD i false = false := by
      rw [Array.getD_eq_getD_getElem?, Array.getElem?_eq_getElem hil, hif]; rfl
    have hs' : (listed.setIfInBounds i true).size = ops.size := by simpa using hs
    have hcnt' : (listed.setIfInBounds i true).count false ≤ fuel := by
      have hpos : 0 < listed.count false := Array.count_pos_iff.2 (hif ▸ Array.getElem_mem hil)
      rw [Array.setIfInBounds_def, dif_pos hil]
      rw [Array.count_set]
      simp [hif]
      omega
    have hsees : ∀ k, waitsB o k = true → D k (fun t => a.tmps.getD t undef) w := by
      intro k hk
      obtain ⟨e, he, hek, hb⟩ := waitsB_spec hk
      have hlt := (deepB_at hB ho).1 e he hb
      exact h.held k (by omega) (hek ▸ hedges e he hb)
    have hs1 := hstep i o ho a w h.le h.size h.frame hsees
    unfold wpOp
    simp only [ho]
    by_cases hw : Region.wanted o (yielded ops a.tmps) = true
    · rw [if_pos hw] at hs1
      rw [if_pos hw]
      refine Or.inl ?_
      have hmono : o.wp P a w (wpAny P .any ops Q fuel (listed.setIfInBounds i true)) (fun _ _ _ => False) :=
        Oper.wp_mono (fun a' w' ⟨v, hv1, hv2, hv3⟩ => by
          subst hv1
          exact ih _ _ _ hs' hcnt' (h.step htr hst hrd hB ho hnot hedges hv2 hv3)) hs1
      revert hmono
      unfold Oper.wp
      generalize (execOp a.eval o).run P w = r
      intro hmono
      cases r with
      | ok n w' =>
        cases n <;> simp only [Oper.upon] at hmono ⊢
        all_goals first
          | exact hmono
          | exact Calls.mono hmono (fun e w'' he => by
              cases e with
              | returned v => exact he
              | panicked c => exact he.elim
              | outgrown => obtain ⟨_, _, hf⟩ := he; exact hf.elim)
      | halt x w' => cases x <;> simp only [Oper.upon] at hmono
    · rw [if_neg hw] at hs1
      rw [if_neg hw]
      exact ih _ _ _ hs' hcnt' (h.step htr hst hrd hB ho hnot hedges (hle0 w) hs1)

/-- what is asked of operation i in state a -/
def DStep (P : Program) (ops : Array Oper) (Le : World → World → Prop) (D : Nat → (Nat → Value) → World → Prop) (i : Nat) (o : Oper) (a : Act) (w : World) : Prop :=
  if Region.wanted o (yielded ops a.tmps) then o.wp P a w (fun a' w' => ∃ v, a' = a.put o.dst v ∧ Le w w' ∧ D i (fun t => (a.put o.dst v).tmps.getD t undef) w') (fun _ _ _ => False) else D i (fun t => (a.put o.dst undef).tmps.getD t undef) w

theorem dstep_run {P : Program} {ops : Array Oper} {Le : World → World → Prop} {D : Nat → (Nat → Value) → World → Prop} {i : Nat} {o : Oper} {a : Act} {w : World} (v : Value) (w' : World)
    (hw : Region.wanted o (yielded ops a.tmps) = true) (hr : (execOp a.eval o).run P w = .ok (.value v) w') (hle : Le w w') (hv : D i (fun t => (a.put o.dst v).tmps.getD t undef) w') : DStep P ops Le D i o a w := by
  unfold DStep
  rw [if_pos hw]
  unfold Oper.wp
  rw [hr]
  exact ⟨v, rfl, hle, hv⟩
theorem dstep_store {P : Program} {ops : Array Oper} {Le : World → World → Prop} {D : Nat → (Nat → Value) → World → Prop} {i : Nat} {o : Oper} {a : Act} {w : World} (w' : World)
    (hw : Region.wanted o (yielded ops a.tmps) = true) (hr : (execOp a.eval o).run P w = .ok .skip w') (hle : Le w w') (hv : D i (fun t => (a.put o.dst undef).tmps.getD t undef) w') : DStep P ops Le D i o a w := by
  unfold DStep
  rw [if_pos hw]
  unfold Oper.wp
  rw [hr]
  exact ⟨undef, rfl, hle, hv⟩
theorem dstep_call {P : Program} {ops : Array Oper} {Le : World → World → Prop} {D : Nat → (Nat → Value) → World → Prop} {i : Nat} {o : Oper} {a : Act} {w : World} (f : FuncId) (args : Array Value)
    (hw : Region.wanted o (yielded ops a.tmps) = true) (hr : (execOp a.eval o).run P w = .ok (.enter f args) w)
    (hc : Calls P f args w fun e w' => ∃ v, e = .returned v ∧ Le w w' ∧ D i (fun t => (a.put o.dst v).tmps.getD t undef) w') : DStep P ops Le D i o a w := by
  unfold DStep
  rw [if_pos hw]
  unfold Oper.wp
  rw [hr]
  refine Calls.mono hc ?_
  rintro e w' ⟨v, rfl, h1, h2⟩
  exact ⟨v, rfl, h1, h2⟩
theorem put_same (a : Act) (d : Tmp) (v : Value) (h : d < a.tmps.size) : (a.put (some d) v).tmps.getD d undef = v := put_getD_same a d v h

/-- the region by what holds once its operations have run -/
theorem wp_region_deep {P : Program} {ops : Array Oper} {id : Nat} {Q : Exit → Act → World → Prop} (Le : World → World → Prop) (D : Nat → (Nat → Value) → World → Prop) (rd : Nat → List Tmp) {a0 : Act} {w0 : World}
    (hm : P.follows .mixedOrders = true)
    (htr : ∀ {x y z : World}, Le x y → Le y z → Le x z) (hle0 : ∀ x, Le x x) (hdr : Le w0 w0.drew) (hst : ∀ k r x y, D k r x → Le x y → D k r y) (hrd : ∀ k r r' x, (∀ t ∈ rd k, r t = r' t) → D k r x → D k r' x)
    (hB : deepB ops a0.tmps.size rd = true)
    (hstep : ∀ (a : Act) (w : World), Le w0 w → a.tmps.size = a0.tmps.size → (∀ t, freeB ops t = true → a.tmps.getD t undef = a0.tmps.getD t undef) →
      ∀ i o, ops[i]? = some o → (∀ k, waitsB o k = true → D k (fun t => a.tmps.getD t undef) w) → DStep P ops Le D i o a w)
    (hpost : ∀ a w, Le w0 w → a.defers = a0.defers → a.tmps.size = a0.tmps.size → (∀ t, freeB ops t = true → a.tmps.getD t undef = a0.tmps.getD t undef) →
      (∀ k, k < ops.size → D k (fun t => a.tmps.getD t undef) w) → Q .normal a w) :
    (Code.region id ops true).wp P Q a0 w0 := by
  refine wp_region_any hm (wpAny_deep (Le := Le) (D := D) (rd := rd) (a0 := a0) (w0 := w0) htr hst hrd hB ?_ ?_ hle0 ops.size _ a0 _ (by simp) (by simp) ?_)
  · intro i o ho a w hle hsz hfr hty
    exact hstep a w hle hsz (fun t ht => hfr t (freeB_spec ht)) i o ho hty
  · intro a w hle hd hsz hfr hty
    exact hpost a w hle hd hsz (fun t ht => hfr t (freeB_spec ht)) hty
  · have hz : ∀ k : Nat, (Array.replicate ops.size false).getD k false = true → False := by
      intro k hk
      simp only [Array.getD_eq_getD_getElem?, Array.getElem?_replicate] at hk
      split at hk <;> simp at hk
    exact ⟨hdr, rfl, rfl, fun _ _ => rfl, fun k o hk _ _ _ _ => (hz k hk).elim, fun k _ hk => (hz k hk).elim⟩

/-- what was there below B is as it was; rows that held Z hold Z or S, those that held S hold it -/
def LeS (B : Nat) (Z S : Obj) (x y : World) : Prop := Below B x y ∧ ∀ k : Nat, (x.heap[k]? = some S → y.heap[k]? = some S) ∧ (x.heap[k]? = some Z → y.heap[k]? = some Z ∨ y.heap[k]? = some S)
theorem LeS.refl (B : Nat) (Z S : Obj) (x : World) : LeS B Z S x x := ⟨Below.refl _ _, fun _ => ⟨id, Or.inl⟩⟩
theorem LeS.trans {B : Nat} {Z S : Obj} {x y z : World} (h : LeS B Z S x y) (k : LeS B Z S y z) : LeS B Z S x z :=
  ⟨h.1.trans k.1, fun j => ⟨fun e => (k.2 j).1 ((h.2 j).1 e), fun e => ((h.2 j).2 e).elim (fun e => (k.2 j).2 e) (fun e => Or.inr ((k.2 j).1 e))⟩⟩
theorem LeS.of {B : Nat} {Z S : Obj} {x y : World} (h : Ext x y) (hB : B ≤ x.heap.size) : LeS B Z S x y :=
  ⟨Below.mono h hB, fun _ => ⟨fun e => h.block e, fun e => Or.inl (h.block e)⟩⟩
theorem LeS.block {B : Nat} {Z S : Obj} {x y : World} (h : LeS B Z S x y) {k : Nat} (hk : k < B) {o : Obj} (hc : x.heap[k]? = some o) : y.heap[k]? = some o := (h.1.block k hk).trans hc
end Go.Proofs.Ytaahaehgdamkdaa

