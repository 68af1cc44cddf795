/- Plain words and facts that the other texts stand on. Conditions: none. -/
import Derived.Orders
import Derived.Still
import Derived.Below
import Derived.WalkKit
import Derived.WalkSpells
import Derived.WalkLawsBesides
import Derived.Laws.CopyOwn
import Derived.Maps.AppendAt
import Derived.Deep.OwnRows
import Derived.Lib.AppendStr
import Derived.Laws.IdiomStrings
import Derived.Laws.BitsAllLaws
import Derived.Laws.Bits128
import GoSem.Core.Float
import Derived.Tactics
import Derived.Test.YtbgapkhcaideiaaProg
/- A region that draws its order, typed slot by slot: if each operation, in whatever world that the relation lets it meet, yields a value of its own kind out of operands of their kinds, then all orders end alike. Conditions: none beyond those that the theorem states. -/
namespace Go.Proofs.Ytbgapkhcaideiaa
open Go Go.RowKit

/-- slot of operation k -/
def rdst (ops : Array Oper) (k : Nat) : Option Tmp := (ops[k]?).bind (·.dst)

/-- no operand of 'o' is another operation's slot unless 'o' waits for that operation; edges point back; slots are apart -/
def regB (ops : Array Oper) (n : Nat) : Bool :=
  Region.noSelect ops &&
  (List.range ops.size).all fun i => match ops[i]? with
    | none => true
    | some o =>
      (o.after.all fun e => !Region.binds .any e || decide (e.on < i)) &&
      (match o.dst with
       | none => true
       | some d => decide (d < n) && (List.range ops.size).all fun k => k == i || rdst ops k != some d) &&
      (o.looksAt ops).all fun t => (List.range ops.size).all fun k => rdst ops k != some t || o.after.any fun e => e.on == k && Region.binds .any e

theorem regB_edge {ops : Array Oper} {n : Nat} (h : regB ops n = true) {i : Nat} {o : Oper} (ho : ops[i]? = some o) {e : Edge} (he : e ∈ o.after) (hb : Region.binds .any e = true) : e.on < i := by
  simp only [regB, Bool.and_eq_true, List.all_eq_true, List.mem_range] at h
  have hi : i < ops.size := (Array.getElem?_eq_some_iff.1 ho).1
  have h1 := h.2 i hi
  rw [ho] at h1
  simp only [Bool.and_eq_true] at h1
  have h2 := Array.all_eq_true'.1 h1.1.1 e he
  simpa [hb] using h2

theorem regB_slot {ops : Array Oper} {n : Nat} (h : regB ops n = true) {i k : Nat} {o : Oper} {d : Tmp} (ho : ops[i]? = some o) (hd : o.dst = some d) : d < n ∧ (rdst ops k = some d → k = i) := by
  simp only [regB, Bool.and_eq_true, List.all_eq_true, List.mem_range] at h
  have hi : i < ops.size := (Array.getElem?_eq_some_iff.1 ho).1
  have h1 := h.2 i hi
  rw [ho] at h1
  simp only [Bool.and_eq_true, hd] at h1
  have h2 := h1.1.2
  simp only [decide_eq_true_eq, List.all_eq_true, List.mem_range] at h2
  refine ⟨h2.1, fun hk => ?_⟩
  have hks : k < ops.size := by
    unfold rdst at hk
    rcases Nat.lt_or_ge k ops.size with hh | hh
    · exact hh
    · rw [Array.getElem?_eq_none hh] at hk; cases hk
  have h3 := h2.2 k hks
  simpa [hk] using h3

theorem regB_sees {ops : Array Oper} {n : Nat} (h : regB ops n = true) {i k : Nat} {o : Oper} {t : Tmp} (ho : ops[i]? = some o) (ht : t ∈ o.looksAt ops) (hk : rdst ops k = some t) :
    ∃ e ∈ o.after, e.on = k ∧ Region.binds .any e = true := by
  simp only [regB, Bool.and_eq_true, List.all_eq_true, List.mem_range] at h
  have hi : i < ops.size := (Array.getElem?_eq_some_iff.1 ho).1
  have h1 := h.2 i hi
  rw [ho] at h1
  simp only [Bool.and_eq_true] at h1
  have hks : k < ops.size := by
    unfold rdst at hk
    rcases Nat.lt_or_ge k ops.size with hh | hh
    · exact hh
    · rw [Array.getElem?_eq_none hh] at hk; cases hk
  have h2 := List.all_eq_true.1 h1.2 t ht
  have h3 := List.all_eq_true.1 h2 k (List.mem_range.2 hks)
  simp only [hk, bne_self_eq_false, Bool.false_or] at h3
  obtain ⟨e, he, hh⟩ := Array.any_eq_true'.1 h3
  simp only [Bool.and_eq_true, beq_iff_eq] at hh
  exact ⟨e, he, hh.1, hh.2⟩

/-- what holds in the middle of the region -/
structure RInv (ops : Array Oper) (Le : World → World → Prop) (G : Nat → Value → World → Prop) (a0 : Act) (w0 : World) (listed : Array Bool) (a : Act) (w : World) : Prop where
  le : Le w0 w
  defers : a.defers = a0.defers
  size : a.tmps.size = a0.tmps.size
  frame : ∀ t, (∀ k, rdst ops k ≠ some t) → a.tmps.getD t undef = a0.tmps.getD t undef
  typed : ∀ k t, listed.getD k false = true → rdst ops k = some t → G k (a.tmps.getD t undef) w

theorem put_size (a : Act) (d : Option Tmp) (v : Value) : (a.put d v).tmps.size = a.tmps.size := by
  cases d <;> simp [Act.put]

theorem put_defs (a : Act) (d : Option Tmp) (v : Value) : (a.put d v).defers = a.defers := by
  cases d <;> simp [Act.put]

theorem put_getD_other (a : Act) (d : Option Tmp) (v : Value) (t : Tmp) (h : d ≠ some t) : (a.put d v).tmps.getD t undef = a.tmps.getD t undef := by
  cases d with
  | none => rfl
  | some d =>
    have hne : d ≠ t := fun e => h (by rw [e])
    simp only [Act.put, Array.getD_eq_getD_getElem?]
    rw [Array.getElem?_setIfInBounds_ne hne]

theorem put_getD_same (a : Act) (d : Tmp) (v : Value) (h : d < a.tmps.size) : (a.put (some d) v).tmps.getD d undef = v := by
  simp only [Act.put, Array.getD_eq_getD_getElem?]
  rw [Array.getElem?_setIfInBounds_self_of_lt h]
  rfl

theorem RInv.step {ops : Array Oper} {Le : World → World → Prop} {G : Nat → Value → World → Prop} {a0 : Act} {w0 : World} {listed : Array Bool} {a : Act} {w w' : World} {i : Nat} {o : Oper} {v : Value}
    (htr : ∀ {x y z : World}, Le x y → Le y z → Le x z) (hst : ∀ k u x y, G k u x → Le x y → G k u y)
    (hB : regB ops a0.tmps.size = true) (ho : ops[i]? = some o)
    (h : RInv ops Le G a0 w0 listed a w) (hle : Le w w') (hv : G i v w') : RInv ops Le G a0 w0 (listed.setIfInBounds i true) (a.put o.dst v) w' := by
  refine ⟨htr h.le hle, (put_defs _ _ _).trans h.defers, (put_size _ _ _).trans h.size, fun t ht => ?_, fun k t hk hkt => ?_⟩
  · rw [put_getD_other _ _ _ _ (fun e => ht i (by unfold rdst; rw [ho]; exact e))]
    exact h.frame t ht
  · by_cases hki : k = i
    · subst hki
      have hd : o.dst = some t := by unfold rdst at hkt; rw [ho] at hkt; exact hkt
      have hlt := (regB_slot hB (k := k) ho hd).1
      rw [hd, put_getD_same _ _ _ (by rw [h.size]; exact hlt)]
      exact hv
    · have hk' : listed.getD k false = true := by rwa [getD_set_ne false (Ne.symm hki)] at hk
      rw [put_getD_other _ _ _ _ (fun e => hki ((regB_slot hB (k := k) ho e).2 hkt))]
      exact hst _ _ _ _ (h.typed k t hk' hkt) hle

theorem wpAny_typed {P : Program} {ops : Array Oper} {Q : Exit → Act → World → Prop} {Le : World → World → Prop} {G : Nat → Value → World → Prop} {a0 : Act} {w0 : World}
    (htr : ∀ {x y z : World}, Le x y → Le y z → Le x z) (hst : ∀ k u x y, G k u x → Le x y → G k u y)
    (hB : regB ops a0.tmps.size = true)
    (hstep : ∀ i o, ops[i]? = some o → ∀ (a : Act) (w : World), Le w0 w → a.tmps.size = a0.tmps.size →
      (∀ t, (∀ k, rdst ops k ≠ some t) → a.tmps.getD t undef = a0.tmps.getD t undef) →
      (∀ k t, rdst ops k = some t → t ∈ o.looksAt ops → G k (a.tmps.getD t undef) w) →
      if Region.wanted o (yielded ops a.tmps) then o.wp P a w (fun a' w' => ∃ v, a' = a.put o.dst v ∧ Le w w' ∧ G i v w') (fun _ _ _ => False) else G i undef w)
    (hpost : ∀ a w, Le w0 w → a.defers = a0.defers → a.tmps.size = a0.tmps.size → (∀ t, (∀ k, rdst ops k ≠ some t) → a.tmps.getD t undef = a0.tmps.getD t undef) →
      (∀ k t, rdst ops k = some t → G k (a.tmps.getD t undef) w) → Q .normal a w)
    (hle0 : ∀ x, Le x x) :
    ∀ (fuel : Nat) (listed : Array Bool) (a : Act) (w : World), listed.size = ops.size → listed.count false ≤ fuel → RInv ops Le G a0 w0 listed a w → wpAny P .any ops Q fuel listed a w := by
  have hall : ∀ (listed : Array Bool) (a : Act) (w : World), listed.size = ops.size → (∀ i, i < ops.size → listed.getD i false = true) → RInv ops Le G a0 w0 listed a w → Q .normal a w := by
    intro listed a w hs hl h
    refine hpost a w h.le h.defers h.size h.frame fun k t hk => h.typed k t (hl k ?_) hk
    unfold rdst at hk
    rcases Nat.lt_or_ge k ops.size with hh | hh
    · exact hh
    · rw [Array.getElem?_eq_none hh] at hk; cases hk
  have hdone : ∀ (listed : Array Bool), listed.size = ops.size → Region.ready .any ops listed = [] → ∀ i, i < ops.size → listed.getD i false = true := by
    intro listed hs hr i
    induction i using Nat.strongRecOn with
    | ind i ih =>
      intro hi
      cases hc : listed.getD i false with
      | true => rfl
      | false =>
        have hm : i ∈ Region.ready .any ops listed := by
          rw [mem_ready]
          refine ⟨?_, ops[i], Array.getElem?_eq_getElem hi, fun e he hb => ?_⟩
          · have : i < listed.size := by omega
            simp only [Array.getD, this, dite_true] at hc ⊢
            exact hc
          · have hlt := regB_edge hB (Array.getElem?_eq_getElem hi) he hb
            exact ih e.on hlt (by omega)
        rw [hr] at hm
        cases hm
  intro fuel
  induction fuel with
  | zero =>
    intro listed a w hs hcnt h
    have hl : ∀ i, i < ops.size → listed.getD i false = true := by
      intro i hi
      cases hc : listed.getD i false with
      | true => rfl
      | false =>
        have hi' : i < listed.size := by omega
        have hmem : false ∈ listed := by
          simp only [Array.getD, hi', dite_true] at hc
          exact hc ▸ Array.getElem_mem hi'
        have := Array.count_pos_iff.2 hmem
        omega
    refine ⟨?_, hall listed a w hs hl h⟩
    refine List.eq_nil_iff_forall_not_mem.2 fun j hj => ?_
    obtain ⟨h0, o, ho, _⟩ := mem_ready.1 hj
    have hj' : j < ops.size := (Array.getElem?_eq_some_iff.1 ho).1
    have := hl j hj'
    have hj'' : j < listed.size := by omega
    simp only [Array.getD, hj'', dite_true] at this h0
    rw [this] at h0
    cases h0
  | succ fuel ih =>
    intro listed a w hs hcnt h
    refine ⟨fun hr => hall listed a w hs (hdone listed hs hr) h, fun i hi => ?_⟩
    obtain ⟨h0, o, ho, hedges⟩ := mem_ready.1 hi
    have hi' : i < ops.size := (Array.getElem?_eq_some_iff.1 ho).1
    have hil : i < listed.size := by omega
    have hif : listed[i] = false := by
      rw [Array.getD_eq_getD_getElem?, Array.getElem?_eq_getElem hil] at h0
      simpa using h0
    have hs' : (listed.setIfInBounds i true).size = ops.size := by simpa using hs
    have hcnt' : (listed.setIfInBounds i true).count false ≤ fuel := by
      have hpos : 0 < listed.count false := Array.count_pos_iff.2 (hif ▸ Array.getElem_mem hil)
      rw [Array.setIfInBounds_def, dif_pos hil]
      rw [Array.count_set]
      simp [hif]
      omega
    have hsees : ∀ k t, rdst ops k = some t → t ∈ o.looksAt ops → G k (a.tmps.getD t undef) w := by
      intro k t hk ht
      obtain ⟨e, he, hek, hb⟩ := regB_sees hB ho ht hk
      exact h.typed k t (hek ▸ hedges e he hb) hk
    have hs1 := hstep i o ho a w h.le h.size h.frame hsees
    unfold wpOp
    simp only [ho]
    by_cases hw : Region.wanted o (yielded ops a.tmps) = true
    · rw [if_pos hw] at hs1
      rw [if_pos hw]
      refine Or.inl ?_
      have hmono : o.wp P a w (wpAny P .any ops Q fuel (listed.setIfInBounds i true)) (fun _ _ _ => False) :=
        Oper.wp_mono (fun a' w' ⟨v, hv1, hv2, hv3⟩ => by
          subst hv1
          exact ih _ _ _ hs' hcnt' (h.step htr hst hB ho hv2 hv3)) hs1
      revert hmono
      unfold Oper.wp
      generalize (execOp a.eval o).run P w = r
      intro hmono
      cases r with
      | ok n w' =>
        cases n <;> simp only [Oper.upon] at hmono ⊢
        all_goals first
          | exact hmono
          | exact Calls.mono hmono (fun e w'' he => by
              cases e with
              | returned v => exact he
              | panicked c => exact he.elim
              | outgrown => obtain ⟨_, _, hf⟩ := he; exact hf.elim)
      | halt x w' => cases x <;> simp only [Oper.upon] at hmono
    · rw [if_neg hw] at hs1
      rw [if_neg hw]
      exact ih _ _ _ hs' hcnt' (h.step htr hst hB ho (hle0 w) hs1)

/-! ### one operation at a time -/

/-- what is asked of operation i in state a -/
def RStep (P : Program) (ops : Array Oper) (Le : World → World → Prop) (G : Nat → Value → World → Prop) (i : Nat) (o : Oper) (a : Act) (w : World) : Prop :=
  if Region.wanted o (yielded ops a.tmps) then o.wp P a w (fun a' w' => ∃ v, a' = a.put o.dst v ∧ Le w w' ∧ G i v w') (fun _ _ _ => False) else G i undef w

/-- no operation of the region writes slot t -/
def freeB (ops : Array Oper) (t : Tmp) : Bool := (List.range ops.size).all fun k => rdst ops k != some t

theorem freeB_spec {ops : Array Oper} {t : Tmp} (h : freeB ops t = true) : ∀ k, rdst ops k ≠ some t := by
  intro k hk
  have hks : k < ops.size := by
    unfold rdst at hk
    rcases Nat.lt_or_ge k ops.size with hh | hh
    · exact hh
    · rw [Array.getElem?_eq_none hh] at hk; cases hk
  have := List.all_eq_true.1 h k (List.mem_range.2 hks)
  simp [hk] at this

theorem wanted_free {o : Oper} {y : Nat → Option Bool} (h : o.guard = none) : Region.wanted o y = true := by simp [Region.wanted, h]

theorem wanted_guard {ops : Array Oper} {o : Oper} {tmps : Array Value} {k : Nat} {b : Bool} {d : Tmp} (h : o.guard = some (k, b)) (hk : rdst ops k = some d) (hv : tmps[d]?.getD undef = .bool b) :
    Region.wanted o (yielded ops tmps) = true := by
  have h1 : tmps[d]? = some (.bool b) := by
    cases hq : tmps[d]? with
    | none => rw [hq] at hv; simp [undef] at hv
    | some v => rw [hq] at hv; simp at hv; rw [hv]
  unfold rdst at hk
  simp [Region.wanted, h, yielded, hk, h1]

theorem unwanted_guard {ops : Array Oper} {o : Oper} {tmps : Array Value} {k : Nat} {b c : Bool} {d : Tmp} (h : o.guard = some (k, b)) (hk : rdst ops k = some d) (hv : tmps[d]?.getD undef = .bool c) (hbc : c ≠ b) :
    Region.wanted o (yielded ops tmps) = false := by
  have h1 : tmps[d]? = some (.bool c) := by
    cases hq : tmps[d]? with
    | none => rw [hq] at hv; simp [undef] at hv
    | some v => rw [hq] at hv; simp at hv; rw [hv]
  unfold rdst at hk
  simp [Region.wanted, h, yielded, hk, h1]
  exact hbc

theorem step_skip {P : Program} {ops : Array Oper} {Le : World → World → Prop} {G : Nat → Value → World → Prop} {i : Nat} {o : Oper} {a : Act} {w : World}
    (hw : Region.wanted o (yielded ops a.tmps) = false) (hv : G i undef w) : RStep P ops Le G i o a w := by
  unfold RStep
  rw [if_neg (by rw [hw]; decide)]
  exact hv

theorem step_pure {P : Program} {ops : Array Oper} {Le : World → World → Prop} {G : Nat → Value → World → Prop} {i : Nat} {o : Oper} {a : Act} {w : World} (v : Value)
    (hw : Region.wanted o (yielded ops a.tmps) = true) (hr : (execOp a.eval o).run P w = .ok (.value v) w) (hle : Le w w) (hv : G i v w) : RStep P ops Le G i o a w := by
  unfold RStep
  rw [if_pos hw]
  unfold Oper.wp
  rw [hr]
  exact ⟨v, rfl, hle, hv⟩

theorem step_make {P : Program} {ops : Array Oper} {Le : World → World → Prop} {G : Nat → Value → World → Prop} {i : Nat} {o : Oper} {a : Act} {w : World} (v : Value) (w' : World)
    (hw : Region.wanted o (yielded ops a.tmps) = true) (hr : (execOp a.eval o).run P w = .ok (.value v) w') (hle : Le w w') (hv : G i v w') : RStep P ops Le G i o a w := by
  unfold RStep
  rw [if_pos hw]
  unfold Oper.wp
  rw [hr]
  exact ⟨v, rfl, hle, hv⟩

theorem step_call {P : Program} {ops : Array Oper} {Le : World → World → Prop} {G : Nat → Value → World → Prop} {i : Nat} {o : Oper} {a : Act} {w : World} (f : FuncId) (args : Array Value)
    (hw : Region.wanted o (yielded ops a.tmps) = true) (hr : (execOp a.eval o).run P w = .ok (.enter f args) w)
    (hc : Calls P f args w fun e w' => ∃ v, e = .returned v ∧ Le w w' ∧ G i v w') : RStep P ops Le G i o a w := by
  unfold RStep
  rw [if_pos hw]
  unfold Oper.wp
  rw [hr]
  refine Calls.mono hc ?_
  rintro e w' ⟨v, rfl, h1, h2⟩
  exact ⟨v, rfl, h1, h2⟩

/-- the region by its slots -/
theorem wp_region_slots {P : Program} {ops : Array Oper} {id : Nat} {Q : Exit → Act → World → Prop} (Le : World → World → Prop) (G : Nat → Value → World → Prop) {tm : Array Value} {df : List Deferred} {w0 : World}
    (hm : P.follows .mixedOrders = true)
    (htr : ∀ {x y z : World}, Le x y → Le y z → Le x z) (hle0 : ∀ x, Le x x) (hdr : Le w0 w0.drew) (hst : ∀ k u x y, G k u x → Le x y → G k u y)
    (hB : regB ops tm.size = true)
    (hstep : ∀ (tmps : Array Value) (w : World), Le w0 w → (∀ t, freeB ops t = true → tmps[t]?.getD undef = tm[t]?.getD undef) →
      ∀ i o, ops[i]? = some o → (∀ k t, rdst ops k = some t → (o.looksAt ops).contains t = true → G k (tmps[t]?.getD undef) w) → RStep P ops Le G i o ⟨tmps, df⟩ w)
    (hpost : ∀ tmps w, Le w0 w → tmps.size = tm.size → (∀ t, freeB ops t = true → tmps[t]?.getD undef = tm[t]?.getD undef) →
      (∀ k t, rdst ops k = some t → G k (tmps[t]?.getD undef) w) → Q .normal ⟨tmps, df⟩ w) :
    (Code.region id ops true).wp P Q ⟨tm, df⟩ w0 := by
  have hg : ∀ (x : Array Value) (t : Nat), x.getD t undef = x[t]?.getD undef := fun x t => Array.getD_eq_getD_getElem? ..
  refine wp_region_any hm ?_
  have key := wpAny_typed (P := P) (ops := ops) (Q := Q) (Le := Le) (G := G) (a0 := ⟨tm, df⟩) (w0 := w0) htr hst hB ?_ ?_ hle0 ops.size (Array.replicate ops.size false) ⟨tm, df⟩ _ (by simp) (by simp) ⟨hdr, rfl, rfl, fun _ _ => rfl, fun k t hk _ => ?_⟩
  · exact key
  · intro i o ho a w hle hsz hfr hty
    obtain ⟨tmps, d'⟩ := a
    have h := hstep tmps w hle (fun t ht => by have := hfr t (freeB_spec ht); rwa [hg, hg] at this) i o ho (fun k t hk ht => by
      have := hty k t hk (by simpa using ht)
      rwa [hg] at this)
    have e : ∀ (d1 d2 : List Deferred), (⟨tmps, d1⟩ : Act).eval = (⟨tmps, d2⟩ : Act).eval := fun _ _ => by funext x; cases x <;> rfl
    unfold RStep at h
    by_cases hw : Region.wanted o (yielded ops tmps) = true
    · rw [if_pos hw] at h
      rw [if_pos hw]
      unfold Oper.wp at h ⊢
      rw [e d' df]
      revert h
      generalize (execOp (⟨tmps, df⟩ : Act).eval o).run P w = r
      intro h
      cases r with
      | ok n w' =>
        cases n <;> simp only [Oper.upon] at h ⊢
        case value v =>
          obtain ⟨u, h1, h2, h3⟩ := h
          have hu : (⟨tmps, d'⟩ : Act).put o.dst v = (⟨tmps, d'⟩ : Act).put o.dst u := by
            revert h1
            cases o.dst with
            | none => intro _; rfl
            | some d => intro h1; simp only [Act.put, Act.mk.injEq, and_true] at h1 ⊢; exact h1
          exact ⟨u, hu, h2, h3⟩
        case skip =>
          obtain ⟨u, h1, h2, h3⟩ := h
          have hu : (⟨tmps, d'⟩ : Act).put o.dst undef = (⟨tmps, d'⟩ : Act).put o.dst u := by
            revert h1
            cases o.dst with
            | none => intro _; rfl
            | some d => intro h1; simp only [Act.put, Act.mk.injEq, and_true] at h1 ⊢; exact h1
          exact ⟨u, hu, h2, h3⟩
        case defer d =>
          obtain ⟨u, h1, _⟩ := h
          exfalso
          revert h1
          cases o.dst <;> simp [Act.put]
        case enter f args =>
          refine Calls.mono h fun en w'' he => ?_
          cases en with
          | returned v =>
            obtain ⟨u, h1, h2, h3⟩ := he
            have hu : (⟨tmps, d'⟩ : Act).put o.dst v = (⟨tmps, d'⟩ : Act).put o.dst u := by
              revert h1
              cases o.dst with
              | none => intro _; rfl
              | some d => intro h1; simp only [Act.put, Act.mk.injEq, and_true] at h1 ⊢; exact h1
            exact ⟨u, hu, h2, h3⟩
          | panicked c => exact he
          | outgrown => exact he
        case row r zs9 =>
          refine Rows.mono h fun v w'' he => ?_
          obtain ⟨u, h1, h2, h3⟩ := he
          have hu : (⟨tmps, d'⟩ : Act).put o.dst v = (⟨tmps, d'⟩ : Act).put o.dst u := by
            revert h1
            cases o.dst with
            | none => intro _; rfl
            | some d => intro h1; simp only [Act.put, Act.mk.injEq, and_true] at h1 ⊢; exact h1
          exact ⟨u, hu, h2, h3⟩
        all_goals exact h
      | halt x w' => cases x <;> simp only [Oper.upon] at h ⊢
    · rw [if_neg hw] at h
      rw [if_neg hw]
      exact h
  · intro a w hle hd hsz hfr hty
    obtain ⟨tmps, d'⟩ := a
    simp only at hd
    subst hd
    exact hpost tmps w hle hsz (fun t ht => by have := hfr t (freeB_spec ht); rwa [hg, hg] at this) (fun k t hk => by have := hty k t hk; rwa [hg] at this)
  · simp only [Array.getD_eq_getD_getElem?, Array.getElem?_replicate] at hk
    split at hk <;> simp at hk

/-- the frame behind the region, written out -/
theorem frame_eq {ops : Array Oper} {tm tmps : Array Value} (D : List Nat) (hs : tmps.size = tm.size) (hfr : ∀ t, freeB ops t = true → tmps[t]?.getD undef = tm[t]?.getD undef)
    (hD : ((List.range tm.size).all fun t => D.contains t || freeB ops t) = true) :
    tmps = D.foldl (fun acc d => acc.setIfInBounds d (tmps[d]?.getD undef)) tm := by
  have size_fold : ∀ (L : List Nat) (x : Array Value), (L.foldl (fun acc d => acc.setIfInBounds d (tmps[d]?.getD undef)) x).size = x.size := by
    intro L
    induction L with
    | nil => intro x; rfl
    | cons d L ih => intro x; simp [ih]
  have get_fold : ∀ (L : List Nat) (x : Array Value) (t : Nat), t < x.size →
      (L.foldl (fun acc d => acc.setIfInBounds d (tmps[d]?.getD undef)) x)[t]? = if t ∈ L then some (tmps[t]?.getD undef) else x[t]? := by
    intro L
    induction L with
    | nil => intro x t _; simp
    | cons d L ih =>
      intro x t ht
      rw [List.foldl_cons, ih _ t (by simpa using ht)]
      by_cases h1 : t ∈ L
      · simp [h1]
      · by_cases h2 : d = t
        · subst h2
          simp [h1, Array.getElem?_setIfInBounds_self_of_lt ht]
        · have h3 : ¬ t = d := fun e => h2 e.symm
          simp [h1, h3, Array.getElem?_setIfInBounds_ne h2]
  apply Array.ext_getElem?
  intro t
  rcases Nat.lt_or_ge t tm.size with ht | ht
  · rw [get_fold D tm t ht]
    have htm : tmps[t]? = some (tmps[t]?.getD undef) := by
      rw [Array.getElem?_eq_getElem (by omega)]; rfl
    by_cases hm : t ∈ D
    · rw [if_pos hm]; exact htm
    · rw [if_neg hm, htm]
      have h1 := List.all_eq_true.1 hD t (List.mem_range.2 ht)
      have h2 : freeB ops t = true := by
        simpa [hm] using h1
      rw [hfr t h2, Array.getElem?_eq_getElem ht]; rfl
  · rw [Array.getElem?_eq_none (by omega), Array.getElem?_eq_none (by rw [size_fold]; exact ht)]

end Go.Proofs.Ytbgapkhcaideiaa

/- Words for memory: what only grows, cells that lie behind an address, a list of bytes behind a slice. Conditions: none. -/
namespace Go.Proofs.Ytbgapkhcaideiaa
open Go Go.RowKit Go.Lib

theorem hid {p : Prop} (h : p) : Hid p := h

/-- what was there is there as it was -/
def Ext (w w' : World) : Prop := Below w.heap.size w w'

theorem Ext.refl (w : World) : Ext w w := Below.refl _ _
theorem Ext.trans {x y z : World} (h : Ext x y) (k : Ext y z) : Ext x z := Below.trans h (Below.mono k h.size)
theorem Ext.drew (w : World) : Ext w w.drew := (Below.refl _ _).drew
theorem Ext.drewN (w : World) (n : Nat) : Ext w (w.drewN n) := ⟨rfl, rfl, rfl, Nat.le_refl _, fun _ _ => rfl⟩
theorem Ext.alloc (w : World) (o : Obj) : Ext w (w.alloc o) := (Below.refl _ _).alloc (Nat.le_refl _) o
theorem Ext.then_drew {x y : World} (h : Ext x y) : Ext x y.drew := h.trans (Ext.drew y)
theorem Ext.then_alloc {x y : World} (h : Ext x y) (o : Obj) : Ext x (y.alloc o) := h.trans (Ext.alloc y o)
theorem Ext.cell {w w' : World} (h : Ext w w') {p : Addr} {u : Value} (hc : w.cell? p = some u) : w'.cell? p = some u :=
  (Below.cell h (World.block_lt_of_cell? w p hc)).trans hc
theorem Ext.block {w w' : World} (h : Ext w w') {k : Nat} {o : Obj} (hc : w.heap[k]? = some o) : w'.heap[k]? = some o :=
  (Below.block h k (Array.getElem?_eq_some_iff.1 hc).1).trans hc
/-- a world that grew, but for one block that was not there at first -/
theorem Ext.grown {x y z : World} {row : Option Nat} (h : Ext x y) (hg : y.grownBy z row) (hr : ∀ k, row = some k → x.heap.size ≤ k) : Ext x z :=
  Below.grown h hg h.size hr
theorem Ext.setCell {x y : World} (h : Ext x y) {p : Addr} (hp : x.heap.size ≤ p.block) (u : Value) : Ext x (y.setCell p u) := Below.setCell h hp u

/-- the cells xs lie from A on -/
def Lies (w : World) (A : Option Addr) (xs : List Value) : Prop := xs ≠ [] → ∃ ad, A = some ad ∧ ∀ j u, xs[j]? = some u → w.cell? (ad.add j) = some u

theorem Lies.nil (w : World) (A : Option Addr) : Lies w A [] := fun h => absurd rfl h
theorem Lies.ext {w w' : World} {A : Option Addr} {xs : List Value} (h : Lies w A xs) (e : Ext w w') : Lies w' A xs := fun hx => by
  obtain ⟨ad, ha, hc⟩ := h hx
  exact ⟨ad, ha, fun j u hu => e.cell (hc j u hu)⟩
theorem Lies.take {w : World} {A : Option Addr} {xs : List Value} (h : Lies w A xs) (n : Nat) : Lies w A (xs.take n) := fun hx => by
  obtain ⟨ad, ha, hc⟩ := h (by intro e; subst e; simp at hx)
  refine ⟨ad, ha, fun j u hu => hc j u ?_⟩
  rw [List.getElem?_take] at hu
  split at hu
  · exact hu
  · cases hu
/-- out of a row known whole -/
theorem Lies.of_row {w : World} {g : Nat} {cs : Array Value} {t : TypeId} {fr : Nat × Nat} (hg : w.heap[g]? = some (.cells cs t fr)) (off n : Nat) :
    Lies w (some ⟨g, off, none⟩) ((cs.toList.drop off).take n) := fun _ => ⟨_, rfl, fun j u hu => by
  rw [Addr.add_lit, cell_of_row w g _ cs t fr hg]
  rw [List.getElem?_take] at hu
  split at hu
  · rw [List.getElem?_drop] at hu; simpa using hu
  · cases hu⟩
theorem Lies.of_own {w : World} {base : Nat} {e : TypeId} {size n : Nat} {A : Option Addr} {c : Nat} {xs : List Value} (h : w.ownsRow base e size (.slice A n c) n xs) : Lies w A xs := fun hx => by
  rcases h.2 with ⟨hv, hn⟩ | ⟨g, cap, cur, hv, _⟩
  · have := h.1
    rw [hn, Nat.zero_mul] at this
    exact absurd (List.eq_nil_of_length_eq_zero this) hx
  · have hA : A = some ⟨g, 0, none⟩ := by injection hv
    subst hA
    exact ⟨_, rfl, h.cells (g := g) rfl⟩

/-- bytes as cells -/
def bv (b : UInt8) : Value := .int .u8 (b.toNat : Int)
def bvs (l : List UInt8) : List Value := l.map bv
theorem bvs_length (l : List UInt8) : (bvs l).length = l.length := by simp [bvs]
theorem bvs_append (l m : List UInt8) : bvs (l ++ m) = bvs l ++ bvs m := by simp [bvs]
theorem bvs_one (l : List UInt8) : ∀ u ∈ bvs l, u.oneCell' = true := by
  intro u hu
  obtain ⟨_, _, rfl⟩ := List.mem_map.1 hu
  rfl
theorem bvs_zeros (n : Nat) : bvs (List.replicate n 0) = List.replicate n (.int .u8 0) := by simp [bvs, bv]
theorem bvs_take (l : List UInt8) (n : Nat) : bvs (l.take n) = (bvs l).take n := by simp [bvs, List.map_take]
/-- the slice v reads as the bytes l -/
def Bytes (w : World) (v : Value) (l : List UInt8) : Prop := ∃ A c, v = .slice A l.length c ∧ l.length ≤ c ∧ c ≤ maxLen ∧ Lies w A (bvs l)

theorem Bytes.ext {w w' : World} {v : Value} {l : List UInt8} (h : Bytes w v l) (e : Ext w w') : Bytes w' v l := by
  obtain ⟨A, c, h1, h2, h3, h4⟩ := h
  exact ⟨A, c, h1, h2, h3, h4.ext e⟩
theorem Bytes.nil (w : World) : Bytes w (.slice none 0 0) [] := ⟨none, 0, rfl, Nat.le_refl _, by simp [maxLen], Lies.nil _ _⟩
theorem Bytes.of_own {w : World} {base : Nat} {e : TypeId} {v : Value} {n : Nat} {l : List UInt8} (h : w.ownsRow base e 1 v n (bvs l)) : Bytes w v l := by
  have hl : l.length = n := by have := h.1; rwa [bvs_length, Nat.mul_one] at this
  subst hl
  rcases h.2 with ⟨hv, hn⟩ | ⟨g, cap, cur, hv, _, _, hnc, hcm, _⟩
  · have : l = [] := List.eq_nil_of_length_eq_zero hn
    subst this
    subst hv
    exact Bytes.nil w
  · subst hv
    exact ⟨_, cap, rfl, hnc, hcm, Lies.of_own h⟩
theorem Bytes.of_row {w : World} {g : Nat} {l : List UInt8} {t : TypeId} {fr : Nat × Nat} (hg : w.heap[g]? = some (.cells (bvs l).toArray t fr)) (hm : l.length ≤ maxLen) : Bytes w (.slice (some ⟨g, 0, none⟩) l.length l.length) l := by
  refine ⟨_, _, rfl, Nat.le_refl _, hm, ?_⟩
  have h := Lies.of_row hg 0 (bvs l).length
  simpa using h

/-- what is owned has a shape -/
theorem own_shape {w : World} {base : Nat} {e : TypeId} {size n : Nat} {v : Value} {xs : List Value} (h : w.ownsRow base e size v n xs) : ∃ A c, v = .slice A n c ∧ n ≤ c ∧ c ≤ maxLen ∧ Lies w A xs := by
  rcases h.2 with ⟨hv, hn⟩ | ⟨g, cap, cur, hv, _, _, hnc, hcm, _⟩
  · subst hv; subst hn
    have : xs = [] := List.eq_nil_of_length_eq_zero (by simpa using h.1)
    subst this
    exact ⟨none, 0, rfl, Nat.le_refl _, by simp [maxLen], Lies.nil _ _⟩
  · subst hv
    exact ⟨_, cap, rfl, hnc, hcm, Lies.of_own h⟩

theorem own_build (w : World) (base : Nat) (e : TypeId) (size n : Nat) (cs : Array Value) (hb : base ≤ w.heap.size) (hm : n ≤ maxLen) (hs : cs.size = n * size) :
    (w.alloc (.cells cs e)).ownsRow base e size (.slice (some ⟨w.heap.size, 0, none⟩) n n) n cs.toList :=
  World.ownsRow_lit w cs n hb hm hs

theorem own_block_ge {w : World} {base : Nat} {e : TypeId} {size n : Nat} {v : Value} {xs : List Value} (h : w.ownsRow base e size v n xs) : ∀ k, v.ownBlock = some k → base ≤ k := fun k hk => (h.lt k hk).1

/-- append onto a row of the call's own, from wherever the new cells lie, nil let in -/
theorem wpList_append_lies {P : Program} (w : World) {ops : Array Oper} {rest : List Oper} {o : Oper} {a : Act} {Q : Exit → Act → World → Prop} (hgd : o.guard = none) (s x : Operand) (t : TypeId)
    (ho : o.op = .call { callee := .builtin .append, args := #[s, x], argTypes := #[t, t] })
    (base : Nat) (e : TypeId) (z : Value) (size bytes : Nat) (ht : P.underlying t = some (.slice e)) (hinfo : (P.info? e).map (fun i => (i.zero, i.size, i.bytes)) = some (some z, size, bytes))
    (hzs : z.cells.size = size) (hsz : 0 < size)
    (v : Value) (n : Nat) (xs : List Value) (hs : a.eval s = v) (hown : w.ownsRow base e size v n xs)
    (A : Option Addr) (m c : Nat) (news : List Value) (hx : a.eval x = .slice A m c) (hl : news.length = m * size) (hlies : Lies w A news) (h1 : ∀ u ∈ news, u.oneCell' = true)
    (h63 : n + m ≤ maxLen) (hbytes : (n + m) * bytes ≤ 140737488355328) (hbase : base ≤ w.heap.size)
    (h : ∀ v' w', w'.ownsRow base e size v' (n + m) (xs ++ news) → w.grownBy w' v.ownBlock → (v'.ownBlock = v.ownBlock ∨ v'.ownBlock = some w.heap.size) → wpList P ops Q rest (a.put o.dst v') w') :
    wpList P ops Q (o :: rest) a w := by
  obtain ⟨i, hi, hz, hi1, hi2⟩ := info_parts hinfo
  have fin : ∀ v' w', (Builtin.append_ #[t, t] o.type #[v, .slice A m c]).run P w = .ok v' w' → wpList P ops Q rest (a.put o.dst v') w' → wpList P ops Q (o :: rest) a w := by
    intro v' w' hr hh
    refine wpList_plain hgd fun K hK => ?_
    unfold Oper.wp execOp
    simp only [ho, resolve, invoke, builtin, Sem.run_bind, Sem.run_pure, Result.andThen_ok, List.map_toArray, List.map_cons, List.map_nil, hs, hx, hr]
    exact hK _ _ hh
  have empty : m = 0 → A = none → wpList P ops Q (o :: rest) a w := by
    intro hm hA
    subst hm; subst hA
    have hn : news = [] := List.eq_nil_of_length_eq_zero (by simpa using hl)
    subst hn
    have hr : (Builtin.append_ #[t, t] o.type #[v, .slice none 0 c]).run P w = .ok v w := by
      rcases hown.2 with ⟨rfl, rfl⟩ | ⟨g, cap, cur, rfl, _, _, hnc, _⟩
      · simp [Builtin.append_, run_underlying ht, sizeOf, typeInfo, hi, Builtin.lenOf, Builtin.firstCells]
      · simp [Builtin.append_, run_underlying ht, sizeOf, typeInfo, hi, Builtin.lenOf, Builtin.firstCells, hnc, storeCells]
    exact fin v w hr (h v w (by simpa using hown) (World.grownBy.refl _ _) (Or.inl rfl))
  cases A with
  | none =>
    refine empty ?_ rfl
    rcases Nat.eq_zero_or_pos m with h0 | h0
    · exact h0
    · have hne : news ≠ [] := fun e => by
        subst e
        have := Nat.mul_pos h0 hsz
        simp only [List.length_nil] at hl
        omega
      obtain ⟨ad, he, _⟩ := hlies hne
      cases he
  | some ad =>
    have hcells : ∀ j u, news[j]? = some u → w.cell? (ad.add j) = some u := by
      intro j u hu
      obtain ⟨ad', he, hc⟩ := hlies (fun e => by subst e; simp at hu)
      injection he with he
      subst he
      exact hc j u hu
    obtain ⟨v', w', hr, h2, h3, _, h5⟩ := run_append_own_at (P := P) w base t o.type e i z size bytes ht hi hz hi1 hi2 hzs hsz v n xs hown ad m c news hl hcells h1 h63 hbytes hbase
    exact fin v' w' hr (h v' w' h2 h3 h5)

/-- a row that is known whole, made since block 'base' -/
theorem own_row {w : World} {base g : Nat} {e : TypeId} {l : List UInt8} (hg : w.heap[g]? = some (.cells (bvs l).toArray e (0, 0))) (hb : base ≤ g) (hm : l.length ≤ maxLen) :
    w.ownsRow base e 1 (.slice (some ⟨g, 0, none⟩) l.length l.length) l.length (bvs l) :=
  ⟨by rw [bvs_length, Nat.mul_one], .inr ⟨g, l.length, _, rfl, hb, hg, Nat.le_refl _, hm, by simp [bvs_length], by rw [Nat.mul_one]; simp [← bvs_take]⟩⟩

theorem own_len {w : World} {base n : Nat} {e : TypeId} {v : Value} {l : List UInt8} (h : w.ownsRow base e 1 v n (bvs l)) : w.ownsRow base e 1 v l.length (bvs l) := by
  have hl : l.length = n := by have := h.1; rwa [bvs_length, Nat.mul_one] at this
  rw [hl]; exact h

/-- append a text onto a row of bytes of the call's own -/
theorem wpList_append_str {P : Program} (w : World) {ops : Array Oper} {rest : List Oper} {o : Oper} {a : Act} {Q : Exit → Act → World → Prop} (hgd : o.guard = none) (s x : Operand) (t u : TypeId)
    (ho : o.op = .call { callee := .builtin .append, args := #[s, x], argTypes := #[t, u] })
    (base : Nat) (e : TypeId) (ht : P.underlying t = some (.slice e)) (hu : P.underlying u = some .string) (hinfo : (P.info? e).map (fun i => (i.zero, i.size, i.bytes)) = some (some (.int .u8 0), 1, 1))
    (v : Value) (n : Nat) (xs : List Value) (hs : a.eval s = v) (hown : w.ownsRow base e 1 v n xs)
    (y : ByteArray) (hx : a.eval x = .string y) (hroom : n + y.size ≤ 140737488355328) (hbase : base ≤ w.heap.size)
    (h : ∀ v' w', w'.ownsRow base e 1 v' (n + y.size) (xs ++ bvs y.data.toList) → w.grownBy w' v.ownBlock → wpList P ops Q rest (a.put o.dst v') w') :
    wpList P ops Q (o :: rest) a w := by
  obtain ⟨i, hi, hz, hi1, hi2⟩ := info_parts hinfo
  obtain ⟨v', w', hr, h2, h3, _⟩ := run_append_own_string (P := P) w base t u o.type e i ht hu hi hz hi1 hi2 v n xs hown y (by simp only [maxLen]; omega) hroom hbase
  refine wpList_plain hgd fun K hK => ?_
  unfold Oper.wp execOp
  simp only [ho, resolve, invoke, builtin, Sem.run_bind, Sem.run_pure, Result.andThen_ok, List.map_toArray, List.map_cons, List.map_nil, hs, hx, hr]
  exact hK _ _ (h v' w' h2 h3)

theorem size_toList (s : ByteArray) : s.data.toList.length = s.size := rfl

/-- string(v) -/
theorem run_string_bytes {P : Program} {w : World} {src dst e : TypeId} {v : Value} {l : List UInt8} (hs : P.underlying src = some (.slice e)) (he : P.underlying e = some (.int .u8)) (hd : P.underlying dst = some .string)
    (h : Bytes w v l) : (convert src dst v).run P w = .ok (.string ⟨l.toArray⟩) w := by
  obtain ⟨A, c, rfl, _, _, hl⟩ := h
  cases l with
  | nil =>
    cases A with
    | none =>
      show (convert src dst (.slice none 0 c)).run P w = _
      rw [run_convert_bytes_string w src dst e none 0 c hs he hd]
      simp [Conv.bytesToString]
      rfl
    | some a => exact run_convert_bytes_back w src dst e a c [] hs he hd (fun j hj => absurd hj (by simp))
  | cons b l =>
    obtain ⟨ad, rfl, hc⟩ := hl (by simp [bvs])
    refine run_convert_bytes_back w src dst e ad c (b :: l) hs he hd (fun j hj => ?_)
    refine hc j _ ?_
    simp only [bvs, List.getElem?_map, List.getElem?_eq_getElem hj, Option.map_some]
    rfl

end Go.Proofs.Ytbgapkhcaideiaa

/- More words for memory: a part of a slice, a list of numbers behind a slice, one cell of it. Conditions: none. -/
namespace Go.Proofs.Ytbgapkhcaideiaa
open Go Go.RowKit

theorem ba_eq {a b : ByteArray} (h : a.data.toList = b.data.toList) : a = b := by
  cases a
  cases b
  congr 1
  exact Array.toList_inj.1 h

end Go.Proofs.Ytbgapkhcaideiaa

/- How a contract ends: what is told, and that nothing that was there has turned. Conditions: none. -/
namespace Go.Proofs.Ytbgapkhcaideiaa
open Go Go.RowKit

/-- v is told, and nothing that was there has turned -/
def Says (w : World) (v : Value) (e : Ending) (w' : World) : Prop := e = .returned v ∧ Ext w w'
/-- new bytes are told, and nothing that was there has turned -/
def Told1 (w : World) (l : List UInt8) (e : Ending) (w' : World) : Prop := ∃ r, e = .returned r ∧ w'.ownsRow w.heap.size 5 1 r l.length (bvs l) ∧ Ext w w'
theorem Told1.mk {w w' : World} {l : List UInt8} {r : Value} {n : Nat} (hb : w'.ownsRow w.heap.size 5 1 r n (bvs l)) (hx : Ext w w') : Told1 w l (.returned r) w' := ⟨r, rfl, own_len hb, hx⟩

theorem Says.mk_int {w w' : World} {k : IntKind} {x y : Int} (h : x = y) (hx : Ext w w') : Says w (.int k y) (.returned (.int k x)) w' := by
  subst h
  exact ⟨rfl, hx⟩
/-- v is told, and the world is as it was -/
def Just (w : World) (v : Value) (e : Ending) (w' : World) : Prop := e = .returned v ∧ w' = w
theorem Just.mk_int {w : World} {k : IntKind} {x y : Int} (h : x = y) : Just w (.int k y) (.returned (.int k x)) w := by
  subst h
  exact ⟨rfl, rfl⟩
theorem Just.mk_bool {w : World} {x y : Bool} (h : x = y) : Just w (.bool y) (.returned (.bool x)) w := by
  subst h
  exact ⟨rfl, rfl⟩
theorem infoByte : (Try.prog.info? 5).map (fun i => (i.zero, i.size, i.bytes)) = some (some (.int .u8 0), 1, 1) := by kernel_rfl
end Go.Proofs.Ytbgapkhcaideiaa

/- Digits to the base 256, the highest first, and their worth. Plain arithmetic; conditions: none. -/
namespace Go.Proofs.Ytbgapkhcaideiaa

/-- the k lowest digits of n, the highest of them first -/
def be : Nat → Nat → List UInt8
  | 0, _ => []
  | k + 1, n => be k (n / 256) ++ [UInt8.ofNat (n % 256)]

theorem be_length (k : Nat) : ∀ n, (be k n).length = k := by
  induction k with
  | zero => intro n; rfl
  | succ k ih => intro n; simp [be, ih]

theorem be_left (k : Nat) : ∀ n, be (k + 1) n = UInt8.ofNat (n / 256 ^ k % 256) :: be k n := by
  induction k with
  | zero => intro n; simp [be]
  | succ k ih =>
    intro n
    have h1 : be (k + 1 + 1) n = be (k + 1) (n / 256) ++ [UInt8.ofNat (n % 256)] := rfl
    have h2 : be (k + 1) n = be k (n / 256) ++ [UInt8.ofNat (n % 256)] := rfl
    rw [h1, ih, h2, List.cons_append, Nat.div_div_eq_div_mul, Nat.pow_succ, Nat.mul_comm 256]

/-- what bytes are worth -/
def worth (l : List UInt8) : Nat := l.foldl (fun n b => n * 256 + b.toNat) 0

theorem worth_snoc (l : List UInt8) (b : UInt8) : worth (l ++ [b]) = worth l * 256 + b.toNat := by simp [worth]

theorem worth_be (k : Nat) : ∀ n, worth (be k n) = n % 256 ^ k := by
  induction k with
  | zero => intro n; simp [be, worth, Nat.mod_one]
  | succ k ih =>
    intro n
    rw [be, worth_snoc, ih]
    have h : (UInt8.ofNat (n % 256)).toNat = n % 256 := by
      simp [UInt8.toNat_ofNat']
    rw [h, Nat.pow_succ, Nat.mul_comm (256 ^ k) 256, Nat.mod_mul]
    omega

end Go.Proofs.Ytbgapkhcaideiaa

/- Bits of bytes and of numbers of 64 bits. Plain; conditions: none. -/
namespace Go.Proofs.Ytbgapkhcaideiaa
open Go

/-- all ones less b -/
theorem ones_xor (b : Nat) (hb : b < 2 ^ 64) : (2 ^ 64 - 1) ^^^ b = 2 ^ 64 - 1 - b := by
  apply Nat.eq_of_testBit_eq
  intro i
  rw [Nat.testBit_xor, Nat.testBit_two_pow_sub_one, show 2 ^ 64 - 1 - b = 2 ^ 64 - (b + 1) by omega, Nat.testBit_two_pow_sub_succ hb]
  by_cases hi : i < 64
  · simp [hi]
  · have : b.testBit i = false := Nat.testBit_lt_two_pow (Nat.lt_of_lt_of_le hb (Nat.pow_le_pow_right (by decide) (by omega)))
    simp [hi, this]

theorem u64_not {x : Int} (h0 : 0 ≤ x) (h1 : x < 18446744073709551616) : bits .xor .u64 IntKind.u64.max x = 18446744073709551615 - x := by
  obtain ⟨b, rfl⟩ := Int.eq_ofNat_of_zero_le h0
  have e2 : IntKind.u64.max = ((2 ^ 64 - 1 : Nat) : Int) := by decide
  rw [e2, u64_xor_nat _ _ (by decide) (by omega), ones_xor _ (by omega)]
  omega

/-- the highest bit of a byte taken off -/
theorem u8_low {x : Int} (h0 : 0 ≤ x) (h1 : x < 256) : bits .andNot .u8 x 128 = x % 128 := by
  obtain ⟨b, rfl⟩ := Int.eq_ofNat_of_zero_le h0
  rw [show (128 : Int) = ((128 : Nat) : Int) from rfl, u8_andNot_nat b 128 (by omega) (by decide)]
  have : b &&& (255 - 128) = b % 128 := Nat.and_two_pow_sub_one_eq_mod b 7
  rw [this]
  omega
set_option maxRecDepth 100000 in
/-- the highest bit of a byte put on -/
theorem u8_high {x : Int} (h0 : 0 ≤ x) (h1 : x < 256) : bits .or .u8 x 128 = x % 128 + 128 := by
  obtain ⟨b, rfl⟩ := Int.eq_ofNat_of_zero_le h0
  rw [show (128 : Int) = ((128 : Nat) : Int) from rfl, u8_or_nat b 128 (by omega) (by decide)]
  have h : ∀ b : Fin 256, b.val ||| 128 = b.val % 128 + 128 := by decide
  rw [show b ||| 128 = b % 128 + 128 from h ⟨b, by omega⟩]
  omega
end Go.Proofs.Ytbgapkhcaideiaa

/- Sevens: numbers as zig lays and reads them, and folded whole numbers. Plain arithmetic; conditions: none. -/
namespace Go.Proofs.Ytbgapkhcaideiaa
open Go

/-- a whole number, folded -/
def foldZ (n : Int) : Int := if n < 0 then -2 * n - 1 else 2 * n
/-- and unfolded -/
def backZ (u : Int) : Int := if u % 2 = 1 then -(u / 2) - 1 else u / 2

theorem fold_neg {n : Int} (h : n < 0) : foldZ n = -2 * n - 1 := if_pos h
theorem fold_pos {n : Int} (h : ¬ n < 0) : foldZ n = 2 * n := if_neg h
theorem fold_bounds {n : Int} (h0 : -9223372036854775808 ≤ n) (h1 : n ≤ 9223372036854775807) : 0 ≤ foldZ n ∧ foldZ n ≤ 18446744073709551615 := by
  unfold foldZ; split <;> omega
theorem back_fold (n : Int) : backZ (foldZ n) = n := by
  unfold backZ foldZ; repeat' split
  all_goals omega
/-- how many sevens -/
def zs (u : Nat) : Nat := if u < 128 then 1 else zs (u / 128) + 1
  termination_by u
  decreasing_by omega

theorem zs_small {u : Nat} (h : u < 128) : zs u = 1 := by rw [zs, if_pos h]
theorem zs_big {u : Nat} (h : ¬ u < 128) : zs u = zs (u / 128) + 1 := by rw [zs, if_neg h]

theorem zs_spec (u : Nat) : 0 < zs u ∧ u < 128 ^ zs u ∧ (1 < zs u → 128 ^ (zs u - 1) ≤ u) := by
  refine Nat.strongRecOn u fun u ih => ?_
  by_cases h : u < 128
  · rw [zs_small h]
    exact ⟨by omega, by omega, fun h => by omega⟩
  · obtain ⟨h1, h2, h3⟩ := ih (u / 128) (by omega)
    rw [zs_big h]
    refine ⟨by omega, ?_, fun _ => ?_⟩
    · rw [Nat.pow_succ]; omega
    · rw [Nat.add_sub_cancel]
      by_cases h4 : 1 < zs (u / 128)
      · have h5 := h3 h4
        have e : zs (u / 128) = (zs (u / 128) - 1) + 1 := by omega
        rw [e, Nat.pow_succ]
        omega
      · have e : zs (u / 128) = 1 := by omega
        rw [e]; omega

theorem pow128_mono {a b : Nat} (h : a ≤ b) : (128 : Nat) ^ a ≤ 128 ^ b := Nat.pow_le_pow_right (by decide) h

theorem zs_uniq {k u : Nat} (h1 : k = 0 ∨ 128 ^ k ≤ u) (h2 : u < 128 ^ (k + 1)) : zs u = k + 1 := by
  obtain ⟨a, b, c⟩ := zs_spec u
  rcases Nat.lt_trichotomy (zs u) (k + 1) with h | h | h
  · have hm := pow128_mono (show zs u ≤ k by omega)
    rcases h1 with h1 | h1 <;> omega
  · exact h
  · have h3 := c (by omega)
    have hm := pow128_mono (show k + 1 ≤ zs u - 1 by omega)
    omega

theorem zs_ten {u : Nat} (h : u < 18446744073709551616) : zs u ≤ 10 := by
  obtain ⟨_, _, c⟩ := zs_spec u
  rcases Nat.lt_or_ge 10 (zs u) with h1 | h1
  · have h3 := c (by omega)
    have hm := pow128_mono (show 10 ≤ zs u - 1 by omega)
    have : (18446744073709551616 : Nat) ≤ 128 ^ 10 := by decide
    omega
  · exact h1

/-- what a byte is -/
theorem ofNat_toNat {n : Nat} (h : n < 256) : (UInt8.ofNat n).toNat = n := by simp [UInt8.toNat_ofNat']; omega

/-- the k lowest sevens, each told to have one behind it -/
def hi : Nat → Nat → List UInt8
  | 0, _ => []
  | k + 1, u => hi k u ++ [UInt8.ofNat (u / 128 ^ k % 128 + 128)]

theorem hi_length (k u : Nat) : (hi k u).length = k := by
  induction k with
  | zero => rfl
  | succ k ih => simp [hi, ih]

/-- a number's bytes -/
def zb (u : Nat) : List UInt8 := hi (zs u - 1) u ++ [UInt8.ofNat (u / 128 ^ (zs u - 1))]

theorem zb_length (u : Nat) : (zb u).length = zs u := by
  have := (zs_spec u).1
  simp [zb, hi_length]
  omega

/-- the last seven -/
theorem zb_last (u : Nat) : u / 128 ^ (zs u - 1) < 128 ∧ (1 < zs u → 1 ≤ u / 128 ^ (zs u - 1)) ∧ (u < 18446744073709551616 → zs u = 10 → u / 128 ^ (zs u - 1) ≤ 1) := by
  obtain ⟨a, b, c⟩ := zs_spec u
  have hp : 0 < 128 ^ (zs u - 1) := Nat.pow_pos (by decide)
  refine ⟨?_, fun h => ?_, fun h h10 => ?_⟩
  · rw [Nat.div_lt_iff_lt_mul hp]
    have e : zs u = zs u - 1 + 1 := by omega
    rw [e, Nat.pow_succ] at b
    omega
  · exact (Nat.one_le_div_iff hp).2 (c h)
  · rw [h10]
    have : (128 : Nat) ^ (10 - 1) = 9223372036854775808 := by decide
    rw [this]
    omega

/-- what is read: the number, how many bytes, the error -/
def tk : List UInt8 → Nat → Nat → Nat × Nat × Int
  | [], _, _ => (0, 0, 3)
  | c :: l, i, u =>
    if i = 9 ∧ 1 < c.toNat then (0, 0, 8)
    else if 0 < i ∧ c.toNat = 0 then (0, 0, 4)
    else if c.toNat < 128 then (u + c.toNat * 128 ^ i, i + 1, 0)
    else tk l (i + 1) (u + (c.toNat - 128) * 128 ^ i)

theorem tk_done {c : UInt8} {l : List UInt8} {i u : Nat} (h9 : i = 9 → c.toNat ≤ 1) (h0 : 0 < i → c.toNat ≠ 0) (h : c.toNat < 128) : tk (c :: l) i u = (u + c.toNat * 128 ^ i, i + 1, 0) := by
  rw [tk, if_neg (fun e => by have := h9 e.1; omega), if_neg (fun e => h0 e.1 e.2), if_pos h]
theorem tk_more {c : UInt8} {l : List UInt8} {i u : Nat} (h9 : i ≠ 9) (h : ¬ c.toNat < 128) : tk (c :: l) i u = tk l (i + 1) (u + (c.toNat - 128) * 128 ^ i) := by
  rw [tk, if_neg (fun e => h9 e.1), if_neg (fun e => by omega), if_neg h]

theorem tk_hi (u : Nat) : ∀ k, k ≤ 9 → ∀ l, tk (hi k u ++ l) 0 0 = tk l k (u % 128 ^ k) := by
  intro k
  induction k with
  | zero => intro _ l; simp [hi, Nat.mod_one]
  | succ k ih =>
    intro hk l
    have hd : u / 128 ^ k % 128 < 128 := Nat.mod_lt _ (by decide)
    have hn : (UInt8.ofNat (u / 128 ^ k % 128 + 128)).toNat = u / 128 ^ k % 128 + 128 := ofNat_toNat (by omega)
    rw [hi, List.append_assoc, ih (by omega), List.singleton_append, tk_more (by omega) (by rw [hn]; omega), hn, Nat.add_sub_cancel, Nat.pow_succ, Nat.mod_mul, Nat.mul_comm (128 ^ k)]

/-- a number is read of its bytes -/
theorem tk_zb {u : Nat} (hu : u < 18446744073709551616) (l : List UInt8) : tk (zb u ++ l) 0 0 = (u, zs u, 0) := by
  obtain ⟨h1, h2, h3⟩ := zb_last u
  have ht := zs_ten hu
  have hp := (zs_spec u).1
  have hn : (UInt8.ofNat (u / 128 ^ (zs u - 1))).toNat = u / 128 ^ (zs u - 1) := ofNat_toNat (by omega)
  rw [zb, List.append_assoc, tk_hi u _ (by omega), List.singleton_append, tk_done (by intro h; rw [hn]; exact h3 hu (by omega)) (by intro h; rw [hn]; have := h2 (by omega); omega) (by rw [hn]; exact h1), hn]
  have e : u % 128 ^ (zs u - 1) + u / 128 ^ (zs u - 1) * 128 ^ (zs u - 1) = u := by rw [Nat.mul_comm]; exact Nat.mod_add_div _ _
  rw [e, show zs u - 1 + 1 = zs u by omega]

end Go.Proofs.Ytbgapkhcaideiaa

/- zig.Fold, zig.Back, zig.Size and the document's Fold and Back, by their contracts. Conditions: none. -/
namespace Go.Proofs.Ytbgapkhcaideiaa
open Go Go.RowKit

theorem fold_raw (n : Int) : IntKind.u64.wrap (IntKind.u64.wrap n * 2) = (2 * n) % 18446744073709551616 := by
  rw [IntKind.wrap_u64, IntKind.wrap_u64]; omega

set_option maxHeartbeats 400000 in
theorem fold_any (n : Int) (w : World) (h0 : -9223372036854775808 ≤ n) (h1 : n ≤ 9223372036854775807) :
    Calls Try.prog 35 #[.int .i64 n] w (Says w (.int .u64 (foldZ n))) := by
  by_cases h : n < 0
  · go_enter Try.func35, Try.ntmps35
    go_wp2_with fail
    go_ret
    refine Says.mk_int ?_ (Ext.refl w)
    rw [fold_raw, fold_neg (by omega), u64_not (by omega) (by omega)]
    omega
  · go_enter Try.func35, Try.ntmps35
    go_wp2_with fail
    go_ret
    refine Says.mk_int ?_ (Ext.refl w)
    rw [fold_pos (by omega)]
    omega

set_option maxHeartbeats 400000 in
theorem size_any (u : Nat) (w : World) (hu : u ≤ 18446744073709551615) :
    Calls Try.prog 38 #[.int .u64 (u : Int)] w (Says w (.int .i64 (zs u : Int))) := by
  go_enter Try.func38, Try.ntmps38
  go_wp2_with fail
  go_loopw [4, 0] (fun i x wr => ∃ j : Nat, j ≤ 9 ∧ i = .int .i64 (j : Int) ∧ x = .int .u64 ((u / 128 ^ j : Nat) : Int) ∧ (j = 0 ∨ 128 ^ j ≤ u) ∧ Ext w wr)
    (fun i _ _ => 10 - (intOf i).toNat)
  case atStart => exact ⟨0, by omega, rfl, by simp, Or.inl rfl, Ext.refl w⟩
  case round =>
    obtain ⟨j, hj, rfl, rfl, hz, hext⟩ := hrel
    have hp : 0 < 128 ^ j := Nat.pow_pos (by decide)
    obtain ⟨x, hx⟩ : ∃ x : Nat, x = u / 128 ^ j := ⟨_, rfl⟩
    have hx' : u / 128 ^ (j + 1) = x / 128 := by rw [hx, Nat.div_div_eq_div_mul, ← Nat.pow_succ]
    rw [← hx]
    have hxl : x ≤ 18446744073709551615 := by rw [hx]; exact Nat.le_trans (Nat.div_le_self _ _) hu
    have HX := hid hx'
    have HZ := hid hz
    clear hx' hx hz
    by_cases hj9 : j < 9
    · by_cases h0 : x / 128 = 0
      · go_wp2_with fail
        go_ret
        refine Says.mk_int ?_ hext
        have h1 := HX.out
        rw [h0] at h1
        have h2 := zs_uniq HZ.out ((Nat.div_eq_zero_iff_lt (Nat.pow_pos (by decide))).1 h1)
        rw [h2]; rfl
      · go_wp2_with fail
        go_roundw
        case rel =>
          refine ⟨j + 1, by omega, rfl, ?_, Or.inr ?_, hext⟩
          · rw [HX.out]; rfl
          · have h1 := HX.out
            rcases Nat.lt_or_ge u (128 ^ (j + 1)) with h2 | h2
            · rw [Nat.div_eq_of_lt h2] at h1; omega
            · exact h2
        case measure => simp [intOf]; omega
    · have h9 : j = 9 := by omega
      have hz : zs u = 10 := zs_uniq (k := 9) (by have := HZ.out; rw [h9] at this; exact this) (by have h3 : (18446744073709551615 : Nat) < 128 ^ (9 + 1) := by decide
                                                                                                   omega)
      have HT := hid hz
      clear hz
      go_wp2_with fail
      go_ret
      exact Says.mk_int (by rw [HT.out]; rfl) hext
end Go.Proofs.Ytbgapkhcaideiaa

/- zig.Put and zig.PutInt, by their contracts. Conditions: the reach of a slice. -/
namespace Go.Proofs.Ytbgapkhcaideiaa
open Go Go.RowKit

/-- j of n sevens are laid -/
def laid (l : List UInt8) (n j u : Nat) : List UInt8 := l ++ (hi j u ++ List.replicate (n - j) 0)
theorem laid_length (l : List UInt8) (n j u : Nat) (h : j ≤ n) : (laid l n j u).length = l.length + n := by simp [laid, hi_length]; omega
theorem laid_zero (l : List UInt8) (n u : Nat) : laid l n 0 u = l ++ List.replicate n 0 := by simp [laid, hi]
theorem laid_step (l : List UInt8) (n j u : Nat) (h : j < n) : (laid l n j u).set (l.length + j) (UInt8.ofNat (u / 128 ^ j % 128 + 128)) = laid l n (j + 1) u := by
  unfold laid
  rw [List.set_append_right _ _ (by omega), Nat.add_sub_cancel_left, List.set_append_right _ _ (by rw [hi_length]; omega), hi_length, Nat.sub_self, hi, show n - j = (n - (j + 1)) + 1 from by omega, List.replicate_succ, List.set_cons_zero, List.append_assoc]
  rfl
theorem laid_all (l : List UInt8) (u : Nat) : (laid l (zs u) (zs u) u).set (l.length + (zs u - 1)) (UInt8.ofNat (u / 128 ^ (zs u - 1))) = l ++ zb u := by
  have hp := (zs_spec u).1
  obtain ⟨k, hk⟩ : ∃ k, zs u = k + 1 := ⟨zs u - 1, by omega⟩
  unfold laid zb
  rw [hk, Nat.sub_self, List.replicate_zero, List.append_nil, Nat.add_sub_cancel, List.set_append_right _ _ (by omega), Nat.add_sub_cancel_left, hi, List.set_append_right _ _ (by rw [hi_length]; omega), hi_length, Nat.sub_self]
  rfl
theorem laid_last (l : List UInt8) (u : Nat) : (laid l (zs u) (zs u) u)[l.length + (zs u - 1)]? = some (UInt8.ofNat (u / 128 ^ (zs u - 1) + 128)) := by
  have hp := (zs_spec u).1
  have h1 := (zb_last u).1
  obtain ⟨k, hk⟩ : ∃ k, zs u = k + 1 := ⟨zs u - 1, by omega⟩
  rw [hk, Nat.add_sub_cancel] at h1
  unfold laid
  rw [hk, Nat.sub_self, List.replicate_zero, List.append_nil, Nat.add_sub_cancel, List.getElem?_append_right (by omega), Nat.add_sub_cancel_left, hi, List.getElem?_append_right (by rw [hi_length]; omega), hi_length, Nat.sub_self, Nat.mod_eq_of_lt h1]
  rfl

theorem byte_val (n : Nat) (h : n < 256) {x : Int} (e : x = (n : Int)) : Value.int .u8 x = bv (UInt8.ofNat n) := by
  unfold bv
  rw [ofNat_toNat h, e]

set_option maxHeartbeats 800000 in
theorem put_any (A : Option Addr) (l : List UInt8) (c u : Nat) (w : World) (hl : Lies w A (bvs l)) (_hlc : l.length ≤ c) (hlen : l.length ≤ 70368744177664) (hu : u ≤ 18446744073709551615) :
    Calls Try.prog 29 #[.slice A l.length c, .int .u64 (u : Int)] w (Told1 w (l ++ zb u)) := by
  have hz10 := zs_ten (u := u) (by omega)
  have hzp := (zs_spec u).1
  obtain ⟨z, hz⟩ : ∃ z, z = zs u := ⟨_, rfl⟩
  rw [← hz] at hz10 hzp
  have HZ := hid hz
  have hsz := fun W => size_any u W hu
  rw [← hz] at hsz
  clear hz
  have hmk := fun W => run_make_row' (P := Try.prog) 39 5 (.int .u8 0) 1 Try.underlying39 infoByte rfl .i64 .i64 (l.length + z) (by omega) (by omega) W
  rw [show ((l.length + z : Nat) : Int) = (l.length : Int) + (z : Int) from by omega] at hmk
  obtain ⟨cs, hcs⟩ : ∃ cs, cs = bvs l := ⟨_, rfl⟩
  have hcl : cs.length = l.length := by rw [hcs, bvs_length]
  have HC := hid hcs
  have hl' : Lies w A cs := by rw [hcs]; exact hl
  have h1 : ∀ u ∈ cs, u.oneCell' = true := by rw [hcs]; exact bvs_one l
  have HL := hid hl'
  have H1 := hid h1
  have HN := hid hcl
  clear hcs hcl hl' h1 hl
  go_enter Try.func29, Try.ntmps29
  go_wp2_with fail
  refine (hsz _).mono ?_
  rintro e w1 ⟨rfl, hx⟩
  have hrow : (w1.alloc (.cells (madeCells #[Value.int .u8 0] (l.length + z)) 5)).heap[w1.heap.size]? = some (.cells (bvs (List.replicate (l.length + z) 0)).toArray 5 (0, 0)) := by
    rw [heap_alloc_new, bvs_zeros]
    congr 2
    rw [← toList_madeCells_one, Array.toArray_toList]
  have HR := hid hrow
  have HX := hid hx
  clear hrow hx hsz
  go_wp2_with ((with_reducible show wpList _ _ _ (⟨some 18, _, _, _, _, _⟩ :: _) _ _); refine wpList_copy_splice rfl (.tmp 16) (.tmp 17) _ _ rfl 5 Try.underlying39 (by kernel_rfl) _ _ _ _ _ _ rfl rfl w1.heap.size 0 _ 5 HR.out cs ?_ ?_ ?_ H1.out w1.heap.size w1 (Ext.alloc w1 _) (Nat.le_refl _) ?_)
  · rw [HN.out]; exact (Nat.min_eq_left (by omega)).symm
  · intro hpos
    obtain ⟨ad, ha, hc⟩ := HL.out (by intro e; rw [e] at hpos; simp at hpos)
    exact ⟨ad, ha, fun j v hj => (HX.out.then_alloc _).cell (hc j v hj)⟩
  · rw [bvs_length, List.length_replicate, HN.out]; omega
  · intro w2 hg2 hb2
    have hrow2 : w2.heap[w1.heap.size]? = some (.cells (bvs (laid l z 0 u)).toArray 5 (0, 0)) := by
      rw [hg2.out]
      congr 3
      rw [splice, HC.out, laid_zero]
      simp [bvs]
    have HR2 := hid hrow2
    have HX2 := hid (HX.out.trans hb2)
    have hge := HX.out.size
    clear hg2 hb2 hrow2 HX
    go_wp2_with fail
    rw [HN.out]
    go_loopw [20, 1] (fun i x wr => ∃ j : Nat, j ≤ z ∧ i = .int .i64 (j : Int) ∧ x = .int .u64 ((u / 128 ^ j : Nat) : Int) ∧ Hid (wr.heap[w1.heap.size]? = some (.cells (bvs (laid l z j u)).toArray 5 (0, 0))) ∧ Ext w wr)
      (fun i _ _ => z - (intOf i).toNat)
    case atStart => exact ⟨0, by omega, rfl, by simp, HR2.out, HX2.out⟩
    case round =>
      obtain ⟨j, hj, rfl, rfl, hrow, hext⟩ := hrel
      obtain ⟨x, hx⟩ : ∃ x : Nat, x = u / 128 ^ j := ⟨_, rfl⟩
      rw [← hx]
      have hxl : x ≤ 18446744073709551615 := by rw [hx]; exact Nat.le_trans (Nat.div_le_self _ _) hu
      have HX := hid hx
      clear hx
      by_cases hjz : j < z
      · have hlen : (laid l z j u).length = l.length + z := laid_length _ _ _ _ (by omega)
        have hin : l.length + j < (laid l z j u).length := by rw [hlen]; omega
        have hcell : wr.cell? ⟨w1.heap.size, l.length + j, none⟩ = some (bv ((laid l z j u)[l.length + j]'hin)) := by
          rw [cell_of_row wr w1.heap.size _ _ _ _ hrow.out]
          simp [bvs, List.getElem?_eq_getElem hin]
        have hfr : wr.frozen? ⟨w1.heap.size, l.length + j, none⟩ = false := frozen_of_row wr w1.heap.size _ _ _ hrow.out
        obtain ⟨old, hold⟩ : ∃ old, old = bv ((laid l z j u)[l.length + j]'hin) := ⟨_, rfl⟩
        rw [← hold] at hcell
        clear hold hin hlen
        have hbit : bits .or .u8 ((x : Int) % 256) 128 = (x : Int) % 128 + 128 := by rw [u8_high (by omega) (by omega)]; omega
        go_wp2_with fail
        go_roundw
        case rel =>
          refine ⟨j + 1, by omega, rfl, ?_, ?_, ?_⟩
          · rw [show u / 128 ^ (j + 1) = x / 128 from by rw [HX.out, Nat.div_div_eq_div_mul, ← Nat.pow_succ]]
            rfl
          · show _ = _
            rw [heap_setCell_same wr w1.heap.size (l.length + j) _ 5 _ hrow.out]
            have h2 := laid_step l z j u hjz
            rw [← HX.out] at h2
            rw [← h2, byte_val (x % 128 + 128) (by omega) (x := (x : Int) % 128 + 128) (by omega)]
            simp [bvs, List.map_set]
          · exact hext.setCell hge _
        case measure => simp [intOf]; omega
      · have hje : j = z := by omega
        obtain ⟨k, rfl⟩ : ∃ k, z = k + 1 := ⟨z - 1, by omega⟩
        have hlast := laid_last l u
        have hall := laid_all l u
        have hy := (zb_last u).1
        rw [← HZ.out, Nat.add_sub_cancel] at hlast hall hy
        obtain ⟨y, hyy⟩ : ∃ y : Nat, y = u / 128 ^ k := ⟨_, rfl⟩
        rw [← hyy] at hlast hall hy
        rw [hje] at hrow
        have hcell : wr.cell? ⟨w1.heap.size, l.length + k, none⟩ = some (.int .u8 ((y : Int) + 128)) := by
          rw [cell_of_row wr w1.heap.size _ _ _ _ hrow.out, byte_val (y + 128) (by omega) (x := (y : Int) + 128) (by omega)]
          simp [bvs, hlast]
        have hfr : wr.frozen? ⟨w1.heap.size, l.length + k, none⟩ = false := frozen_of_row wr w1.heap.size _ _ _ hrow.out
        have hbit : bits .andNot .u8 ((y : Int) + 128) 128 = (y : Int) := by rw [u8_low (by omega) (by omega)]; omega
        have HALL := hid hall
        clear hlast hall hyy
        go_wp2_with fail
        go_ret
        rw [show l.length + (k + 1) - 1 = l.length + k from by omega]
        have hnew := heap_setCell_same wr w1.heap.size (l.length + k) _ 5 (.int .u8 (y : Int)) hrow.out
        have hset : ((bvs (laid l (k + 1) (k + 1) u)).toArray.setIfInBounds (l.length + k) (.int .u8 (y : Int))) = (bvs (l ++ zb u)).toArray := by
          rw [← HALL.out, byte_val y (by omega) rfl]
          simp [bvs, List.map_set]
        rw [hset] at hnew
        have hll : (l ++ zb u).length = l.length + (k + 1) := by rw [List.length_append, zb_length, ← HZ.out]
        have ho := own_row (base := w.heap.size) hnew hge (by rw [hll]; simp only [maxLen]; omega)
        rw [hll] at ho
        exact Told1.mk ho (hext.setCell hge _)

theorem put_at (v : Value) (l : List UInt8) (u : Nat) (w : World) (hb : Bytes w v l) (hlen : l.length ≤ 70368744177664) (hu : u ≤ 18446744073709551615) :
    Calls Try.prog 29 #[v, .int .u64 (u : Int)] w (Told1 w (l ++ zb u)) := by
  obtain ⟨A, c, rfl, h1, _, h2⟩ := hb
  exact put_any A l c u w h2 h1 hlen hu

theorem own_base {w : World} {b base : Nat} {e : TypeId} {size n : Nat} {v : Value} {xs : List Value} (h : w.ownsRow base e size v n xs) (hb : b ≤ base) : w.ownsRow b e size v n xs := by
  refine ⟨h.1, ?_⟩
  rcases h.2 with h2 | ⟨g, cap, cur, h3, h4, h5⟩
  · exact Or.inl h2
  · exact Or.inr ⟨g, cap, cur, h3, Nat.le_trans hb h4, h5⟩

/-- a folded number's bytes -/
def zf (n : Int) : List UInt8 := zb (foldZ n).toNat

set_option maxHeartbeats 400000 in
theorem putint_at (v : Value) (l : List UInt8) (n : Int) (w : World) (hb : Bytes w v l) (hlen : l.length ≤ 70368744177664) (h0 : -9223372036854775808 ≤ n) (h1 : n ≤ 9223372036854775807) :
    Calls Try.prog 27 #[v, .int .i64 n] w (Told1 w (l ++ zf n)) := by
  have HB := hid hb
  clear hb
  obtain ⟨u, hu, hul⟩ : ∃ u : Nat, foldZ n = (u : Int) ∧ u ≤ 18446744073709551615 := by
    have := fold_bounds h0 h1
    exact ⟨(foldZ n).toNat, by omega, by omega⟩
  have hzf : zf n = zb u := by unfold zf; rw [hu, Int.toNat_natCast]
  have HU := hid hu
  rw [hzf]
  clear hu hzf
  go_enter Try.func27, Try.ntmps27
  go_wp2_with fail
  refine (fold_any n _ h0 h1).mono ?_
  rintro e w1 ⟨rfl, hx⟩
  rw [HU.out]
  have HX := hid hx
  have hle := hx.size
  replace HB := hid (HB.out.ext hx)
  clear hx
  go_wp2_with fail
  refine (put_at v l u _ HB.out hlen hul).mono ?_
  rintro e w2 ⟨r, rfl, ho, hx⟩
  have HO := hid ho
  replace HX := hid (HX.out.trans hx)
  clear hx ho
  go_wp2_with fail
  go_ret
  exact ⟨r, rfl, own_base HO.out hle, HX.out⟩
end Go.Proofs.Ytbgapkhcaideiaa

/- zig.Take and zig.TakeInt, by their contracts. Conditions: the reach of a string. -/
namespace Go.Proofs.Ytbgapkhcaideiaa
open Go Go.RowKit

/-- what is read of s from at on: the number, the place behind it, the error -/
def takeZ (s : ByteArray) (p : Int) : Nat × Int × Int :=
  if p < 0 ∨ s.size < p then (0, 0, 2)
  else ((tk (s.data.toList.drop p.toNat) 0 0).1, if (tk (s.data.toList.drop p.toNat) 0 0).2.2 = 0 then p + (tk (s.data.toList.drop p.toNat) 0 0).2.1 else 0, (tk (s.data.toList.drop p.toNat) 0 0).2.2)

theorem take_good {s : ByteArray} {p u n : Nat} (h : p ≤ s.size) (ht : tk (s.data.toList.drop p) 0 0 = (u, n, 0)) : takeZ s p = (u, (p : Int) + (n : Int), 0) := by
  unfold takeZ
  rw [if_neg (by omega), Int.toNat_natCast, ht]
  simp

/-- what is read is told -/
def SaysT (w : World) (t : Nat × Int × Int) (e : Ending) (w' : World) : Prop := e = .returned (.tuple #[.int .u64 (t.1 : Int), .int .i64 t.2.1, .int .i64 t.2.2]) ∧ Ext w w'
theorem SaysT.mk {w w' : World} {t : Nat × Int × Int} {u : Nat} {n e : Int} (h : t = (u, n, e)) (hx : Ext w w') : SaysT w t (.returned (.tuple #[.int .u64 (u : Int), .int .i64 n, .int .i64 e])) w' := by
  subst h
  exact ⟨rfl, hx⟩

end Go.Proofs.Ytbgapkhcaideiaa

/- Doubles by their bits: what they are, how they stand, and how whole multiples of the least one are rounded. Plain arithmetic; conditions: none. -/
namespace Go.Proofs.Ytbgapkhcaideiaa
open Go

/-- a half, rounded to the even one: N / 2^k -/
def rhe (N k : Nat) : Nat := N / 2 ^ k + if 2 ^ k < 2 * (N % 2 ^ k) ∨ (2 ^ k = 2 * (N % 2 ^ k) ∧ N / 2 ^ k % 2 = 1) then 1 else 0

theorem rhe_zero (N : Nat) : rhe N 0 = N := by
  unfold rhe
  rw [Nat.pow_zero, Nat.div_one, Nat.mod_one, if_neg (by omega)]
  rfl

theorem rhe_exact {N k : Nat} (h : N % 2 ^ k = 0) : rhe N k = N / 2 ^ k := by
  have hp : 0 < 2 ^ k := Nat.pow_pos (by decide)
  unfold rhe
  rw [h, if_neg (by omega)]
  rfl

/-- how far a number is moved down -/
def dn (N : Nat) : Nat := N.log2 - 52
/-- the rung next to a number -/
def rnd (N : Nat) : Nat := dn N * 4503599627370496 + rhe N (dn N)

theorem dn_small {N : Nat} (h : N < 9007199254740992) : dn N = 0 := by
  unfold dn
  rcases Nat.eq_zero_or_pos N with h0 | h0
  · subst h0; rfl
  · have : N.log2 < 53 := (Nat.log2_lt (by omega)).2 (by omega)
    omega
theorem rnd_small {N : Nat} (h : N < 9007199254740992) : rnd N = N := by
  unfold rnd
  rw [dn_small h, rhe_zero]
  omega
theorem dn_big {N : Nat} (h : 9007199254740992 ≤ N) : 0 < dn N ∧ 4503599627370496 * 2 ^ dn N ≤ N ∧ N < 9007199254740992 * 2 ^ dn N := by
  have h0 : N ≠ 0 := by omega
  have h1 : 53 ≤ N.log2 := (Nat.le_log2 h0).2 (by omega)
  have e : N.log2 = dn N + 52 := by unfold dn; omega
  have h2 := Nat.log2_self_le h0
  have h3 := Nat.lt_log2_self (n := N)
  rw [e] at h2 h3
  refine ⟨by omega, ?_, ?_⟩
  · rw [Nat.pow_add] at h2; omega
  · rw [Nat.pow_add, Nat.pow_add] at h3; omega
theorem dn_uniq {N k : Nat} (h0 : k = 0 ∨ 4503599627370496 * 2 ^ k ≤ N) (h1 : N < 9007199254740992 * 2 ^ k) : dn N = k := by
  rcases Nat.lt_or_ge N 9007199254740992 with h | h
  · rw [dn_small h]
    rcases h0 with h0 | h0
    · exact h0.symm
    · rcases Nat.eq_zero_or_pos k with hk | hk
      · exact hk.symm
      · have : 2 ^ 1 ≤ 2 ^ k := Nat.pow_le_pow_right (by decide) hk
        omega
  · obtain ⟨a, b, c⟩ := dn_big h
    rcases Nat.lt_trichotomy (dn N) k with h2 | h2 | h2
    · have h3 : 2 ^ (dn N + 1) ≤ 2 ^ k := Nat.pow_le_pow_right (by decide) h2
      rw [Nat.pow_succ] at h3
      rcases h0 with h0 | h0 <;> omega
    · exact h2
    · have h3 : 2 ^ (k + 1) ≤ 2 ^ dn N := Nat.pow_le_pow_right (by decide) h2
      rw [Nat.pow_succ] at h3
      omega

/-- what a rung is worth -/
def worthR (r : Nat) : Nat := if r < 4503599627370496 then r else (4503599627370496 + r % 4503599627370496) * 2 ^ (r / 4503599627370496 - 1)

theorem worth_low {r : Nat} (h : r < 9007199254740992) : worthR r = r := by
  unfold worthR
  split
  · rfl
  · have : r / 4503599627370496 = 1 := by omega
    rw [this]
    simp
    omega
theorem worth_high {r : Nat} (h : 4503599627370496 ≤ r) : worthR r = (4503599627370496 + r % 4503599627370496) * 2 ^ (r / 4503599627370496 - 1) := if_neg (by omega)

theorem rnd_worth (r : Nat) : rnd (worthR r) = r := by
  rcases Nat.lt_or_ge r 4503599627370496 with h | h
  · rw [worth_low (by omega), rnd_small (by omega)]
  · rw [worth_high h]
    obtain ⟨k, hk⟩ : ∃ k, r / 4503599627370496 = k + 1 := ⟨r / 4503599627370496 - 1, by omega⟩
    obtain ⟨f, hf⟩ : ∃ f, r % 4503599627370496 = f := ⟨_, rfl⟩
    have hfl : f < 4503599627370496 := by omega
    have hr : r = (k + 1) * 4503599627370496 + f := by omega
    have hp : 0 < 2 ^ k := Nat.pow_pos (by decide)
    rw [hk, hf, Nat.add_sub_cancel]
    have hd : dn ((4503599627370496 + f) * 2 ^ k) = k := by
      refine dn_uniq (Or.inr ?_) ?_
      · exact Nat.mul_le_mul (by omega) (Nat.le_refl _)
      · exact (Nat.mul_lt_mul_right hp).2 (by omega)
    unfold rnd
    rw [hd, rhe_exact (Nat.mul_mod_left _ _), Nat.mul_div_cancel _ hp]
    omega

theorem worth_step (r : Nat) : worthR r < worthR (r + 1) := by
  rcases Nat.lt_or_ge r 9007199254740991 with h | h
  · rw [worth_low (by omega), worth_low (by omega)]; omega
  · rw [worth_high (by omega), worth_high (by omega)]
    obtain ⟨k, hk⟩ : ∃ k, r / 4503599627370496 = k + 1 := ⟨r / 4503599627370496 - 1, by omega⟩
    have hp : 0 < 2 ^ k := Nat.pow_pos (by decide)
    by_cases hf : r % 4503599627370496 = 4503599627370495
    · have e1 : (r + 1) % 4503599627370496 = 0 := by omega
      have e2 : (r + 1) / 4503599627370496 = k + 2 := by omega
      rw [hk, hf, e1, e2, Nat.add_sub_cancel, show k + 2 - 1 = k + 1 by omega, Nat.pow_succ]
      omega
    · have e1 : (r + 1) % 4503599627370496 = r % 4503599627370496 + 1 := by omega
      have e2 : (r + 1) / 4503599627370496 = k + 1 := by omega
      rw [hk, e1, e2, Nat.add_sub_cancel]
      exact (Nat.mul_lt_mul_right hp).2 (by omega)
theorem worth_mono {r s : Nat} (h : r < s) : worthR r < worthR s := by
  obtain ⟨d, rfl⟩ : ∃ d, s = r + 1 + d := ⟨s - (r + 1), by omega⟩
  induction d with
  | zero => exact worth_step r
  | succ d ih => exact Nat.lt_trans (ih (by omega)) (worth_step _)
theorem worth_lt_iff {r s : Nat} : worthR r < worthR s ↔ r < s := by
  constructor
  · intro h
    rcases Nat.lt_or_ge r s with h1 | h1
    · exact h1
    · rcases Nat.eq_or_lt_of_le h1 with h2 | h2
      · subst h2; omega
      · have := worth_mono h2; omega
  · exact worth_mono
end Go.Proofs.Ytbgapkhcaideiaa

/- Doubles: what the document tells of them, and that the model's sums, order and roundings are these. Plain; conditions: none. -/
namespace Go.Proofs.Ytbgapkhcaideiaa
open Go

def exZ (u : Nat) : Nat := u / 4503599627370496 % 2048
def frZ (u : Nat) : Nat := u % 4503599627370496
def rungZ (u : Nat) : Nat := u % 9223372036854775808
def sgZ (u : Nat) : Bool := decide (9223372036854775808 ≤ u)
def kindZ (u : Nat) : Nat := if exZ u = 2047 ∧ frZ u ≠ 0 then 5 else if exZ u = 2047 then 4 else if exZ u ≠ 0 then 3 else if frZ u ≠ 0 then 2 else 1

theorem rung_parts {u : Nat} : rungZ u = exZ u * 4503599627370496 + frZ u := by unfold rungZ exZ frZ; omega
theorem fr_lt (u : Nat) : frZ u < 4503599627370496 := Nat.mod_lt _ (by decide)
theorem ex_lt (u : Nat) : exZ u < 2048 := Nat.mod_lt _ (by decide)
theorem rung_lt (u : Nat) : rungZ u < 9223372036854775808 := Nat.mod_lt _ (by decide)

theorem kind_nan {u : Nat} : kindZ u = 5 ↔ 9218868437227405312 < rungZ u := by
  have := fr_lt u; have := ex_lt u
  rw [rung_parts]; unfold kindZ
  repeat' split
  all_goals omega
theorem kind_inf {u : Nat} : kindZ u = 4 ↔ rungZ u = 9218868437227405312 := by
  have := fr_lt u; have := ex_lt u
  rw [rung_parts]; unfold kindZ
  repeat' split
  all_goals omega
theorem kind_fin {u : Nat} : kindZ u ≠ 5 ∧ kindZ u ≠ 4 ↔ rungZ u < 9218868437227405312 := by
  have h1 := @kind_nan u; have h2 := @kind_inf u
  omega
theorem kind_zero {u : Nat} : kindZ u = 1 ↔ rungZ u = 0 := by
  have := fr_lt u; have := ex_lt u
  rw [rung_parts]; unfold kindZ
  repeat' split
  all_goals omega

def nanC : Nat := 9221120237041090560
def cleanZ (u : Nat) : Nat := if kindZ u = 5 then nanC else u
/-- a rung with its sign -/
def srkZ (u : Nat) : Int := if sgZ u then -(rungZ u : Int) else (rungZ u : Int)
def wordZ (s : Bool) (r : Nat) : Nat := if s then 9223372036854775808 + r else r
def rdZ (s : Bool) (N : Nat) : Nat := wordZ s (min (rnd N) 9218868437227405312)
def valZ (u : Nat) : Nat := worthR (rungZ u)
def svalZ (u : Nat) : Int := if sgZ u then -(valZ u : Int) else (valZ u : Int)
/-- a sum's sign: of none that is left, of both -/
def sumS (a b : Nat) : Bool := if svalZ a + svalZ b = 0 then sgZ a && sgZ b else decide (svalZ a + svalZ b < 0)
def sumZ (a b : Nat) : Nat := rdZ (sumS a b) (svalZ a + svalZ b).natAbs
def nanSum (a b : Nat) : Prop := kindZ a = 5 ∨ kindZ b = 5 ∨ (kindZ a = 4 ∧ kindZ b = 4 ∧ a ≠ b)
instance (a b : Nat) : Decidable (nanSum a b) := by unfold nanSum; infer_instance
def addZ (a b : Nat) : Nat := if nanSum a b then nanC else if kindZ a = 4 then a else if kindZ b = 4 then b else sumZ a b

theorem word_of (u : Nat) (hu : u < 18446744073709551616) : wordZ (sgZ u) (rungZ u) = u := by
  unfold wordZ sgZ rungZ
  by_cases h : 9223372036854775808 ≤ u
  · rw [decide_eq_true h, if_pos rfl]; omega
  · rw [decide_eq_false h, if_neg (by decide)]; omega

/-! ### the model's words -/
end Go.Proofs.Ytbgapkhcaideiaa

/- Doubles: their order, the model's and the ranks', and what whole numbers are as doubles. Plain; conditions: none. -/
namespace Go.Proofs.Ytbgapkhcaideiaa
open Go

/-- worth and rung stand alike -/
theorem sval_lt_iff (a b : Nat) : svalZ a < svalZ b ↔ srkZ a < srkZ b := by
  unfold svalZ srkZ valZ
  have h1 := @worth_lt_iff (rungZ a) (rungZ b)
  have h2 := @worth_lt_iff (rungZ b) (rungZ a)
  have za : worthR (rungZ a) = 0 ↔ rungZ a = 0 := by
    constructor
    · intro h
      rcases Nat.eq_zero_or_pos (rungZ a) with h0 | h0
      · exact h0
      · have := worth_mono h0; omega
    · intro h; rw [h]; decide
  have zb : worthR (rungZ b) = 0 ↔ rungZ b = 0 := by
    constructor
    · intro h
      rcases Nat.eq_zero_or_pos (rungZ b) with h0 | h0
      · exact h0
      · have := worth_mono h0; omega
    · intro h; rw [h]; decide
  generalize worthR (rungZ a) = A at *
  generalize worthR (rungZ b) = B at *
  cases sgZ a <;> cases sgZ b <;> simp only [if_true, if_false, Bool.false_eq_true] <;> omega
theorem sval_eq_iff (a b : Nat) : svalZ a = svalZ b ↔ srkZ a = srkZ b := by
  have h1 := sval_lt_iff a b
  have h2 := sval_lt_iff b a
  omega

/-! ### ranks, signs -/
/-! ### with the other sign -/
end Go.Proofs.Ytbgapkhcaideiaa

/- Rounding with three bits behind and one that stands for all below. Plain arithmetic; conditions: none. -/
namespace Go.Proofs.Ytbgapkhcaideiaa
open Go

/-- one step down -/
def d1 (m : Nat) : Nat := m / 2 + m % 2 - m / 2 % 2 * (m % 2)
/-! ### a double's parts -/
/-! ### the sum, as the document reckons it -/
end Go.Proofs.Ytbgapkhcaideiaa

/- Values: what the document tells of them. Plain; conditions: none. -/
namespace Go.Proofs.Ytbgapkhcaideiaa
open Go Go.RowKit

/-- a value: its kind, number, bits, text -/
structure VZ where
  k : Nat
  n : Int
  b : Nat
  t : ByteArray
def vv (k : Nat) (n : Int) (b : Nat) (t : ByteArray) : Value := .agg #[.int .u8 (k : Int), .int .i64 n, .int .u64 (b : Int), .string t]
def VZ.v (x : VZ) : Value := vv x.k x.n x.b x.t
def noText : ByteArray := ⟨#[]⟩
def VZ.none : VZ := ⟨0, 0, 0, noText⟩
/-- whether a value may be -/
def checkV (k : Nat) (n : Int) (b : Nat) (t : ByteArray) : Int :=
  if k < 1 ∨ 4 < k then 11
  else if (k = 1 ∧ (n < -4611686018427387904 ∨ 4611686018427387904 < n)) ∨ (k = 2 ∧ (n < 0 ∨ 1 < n)) then 8
  else if k = 3 ∧ cleanZ b ≠ b then 4
  else if k = 4 ∧ 24 < t.size then 5
  else if (2 < k ∧ n ≠ 0) ∨ (k ≠ 3 ∧ b ≠ 0) ∨ (k ≠ 4 ∧ t.size ≠ 0) then 2
  else 0
theorem check_kind {k : Nat} {n : Int} {b : Nat} {t : ByteArray} (h : k < 1 ∨ 4 < k) : checkV k n b t = 11 := if_pos h
theorem check_int {n : Int} {b : Nat} {t : ByteArray} : checkV 1 n b t = if n < -4611686018427387904 ∨ 4611686018427387904 < n then 8 else if b ≠ 0 ∨ t.size ≠ 0 then 2 else 0 := by
  unfold checkV
  by_cases h1 : n < -4611686018427387904 ∨ 4611686018427387904 < n
  · rw [if_neg (by omega), if_pos (by omega), if_pos h1]
  · rw [if_neg (by omega), if_neg (by omega), if_neg (by omega), if_neg (by omega), if_neg h1]
    by_cases h2 : b ≠ 0 ∨ t.size ≠ 0
    · rw [if_pos h2, if_pos (by omega)]
    · rw [if_neg h2, if_neg (by omega)]
theorem check_flag {n : Int} {b : Nat} {t : ByteArray} : checkV 2 n b t = if n < 0 ∨ 1 < n then 8 else if b ≠ 0 ∨ t.size ≠ 0 then 2 else 0 := by
  unfold checkV
  by_cases h1 : n < 0 ∨ 1 < n
  · rw [if_neg (by omega), if_pos (by omega), if_pos h1]
  · rw [if_neg (by omega), if_neg (by omega), if_neg (by omega), if_neg (by omega), if_neg h1]
    by_cases h2 : b ≠ 0 ∨ t.size ≠ 0
    · rw [if_pos h2, if_pos (by omega)]
    · rw [if_neg h2, if_neg (by omega)]
theorem check_real {n : Int} {b : Nat} {t : ByteArray} : checkV 3 n b t = if cleanZ b ≠ b then 4 else if n ≠ 0 ∨ t.size ≠ 0 then 2 else 0 := by
  unfold checkV
  generalize cleanZ b = c
  by_cases h1 : c ≠ b
  · rw [if_neg (by omega), if_neg (by omega), if_pos (by omega), if_pos h1]
  · rw [if_neg (by omega), if_neg (by omega), if_neg (by omega), if_neg (by omega), if_neg h1]
    by_cases h2 : n ≠ 0 ∨ t.size ≠ 0
    · rw [if_pos h2, if_pos (by omega)]
    · rw [if_neg h2, if_neg (by omega)]
theorem check_text {n : Int} {b : Nat} {t : ByteArray} : checkV 4 n b t = if 24 < t.size then 5 else if n ≠ 0 ∨ b ≠ 0 then 2 else 0 := by
  unfold checkV
  by_cases h1 : 24 < t.size
  · rw [if_neg (by omega), if_neg (by omega), if_neg (by omega), if_pos (by omega), if_pos h1]
  · rw [if_neg (by omega), if_neg (by omega), if_neg (by omega), if_neg (by omega), if_neg h1]
    by_cases h2 : n ≠ 0 ∨ b ≠ 0
    · rw [if_pos h2, if_pos (by omega)]
    · rw [if_neg h2, if_neg (by omega)]

/-- a value's bytes -/
def bytesV (k : Nat) (n : Int) (b : Nat) (t : ByteArray) : List UInt8 :=
  UInt8.ofNat k :: (if k = 1 then zb (foldZ n).toNat else if k = 2 then [UInt8.ofNat n.toNat] else if k = 3 then be 8 b else zb t.size ++ t.data.toList)
def putV (l : List UInt8) (k : Nat) (n : Int) (b : Nat) (t : ByteArray) : List UInt8 × Int :=
  if checkV k n b t = 0 then (l ++ bytesV k n b t, 0) else ([], checkV k n b t)

/-- what is read: the value, the place behind it, the error -/
def failV (e : Int) : VZ × Int × Int := (VZ.none, 0, e)
/-- what stands behind a kind, before it is checked -/
def restV (s : ByteArray) (k p : Nat) : VZ × Int × Int :=
  if k = 2 then (if p = s.size then failV 3 else (⟨k, (s.data.toList[p]?.getD 0).toNat, 0, noText⟩, (p : Int) + 1, 0))
  else if k = 3 then (if s.size - p < 8 then failV 3 else (⟨k, 0, worth ((s.data.toList.drop p).take 8), noText⟩, (p : Int) + 8, 0))
  else if (takeZ s p).2.2 ≠ 0 then failV (takeZ s p).2.2
  else if k = 1 then (⟨k, backZ (takeZ s p).1, 0, noText⟩, (takeZ s p).2.1, 0)
  else if 24 < (takeZ s p).1 then failV 5
  else if (s.size : Int) - (takeZ s p).2.1 < (takeZ s p).1 then failV 3
  else (⟨k, 0, 0, s.extract (takeZ s p).2.1.toNat ((takeZ s p).2.1.toNat + (takeZ s p).1)⟩, (takeZ s p).2.1 + (takeZ s p).1, 0)
def checkedV (x : VZ × Int × Int) : VZ × Int × Int :=
  if x.2.2 ≠ 0 then x else if checkV x.1.k x.1.n x.1.b x.1.t ≠ 0 then failV (checkV x.1.k x.1.n x.1.b x.1.t) else x
def takeV (s : ByteArray) (p : Int) : VZ × Int × Int :=
  if p < 0 ∨ s.size < p then failV 2
  else if p = s.size then failV 3
  else if (s.data.toList[p.toNat]?.getD 0).toNat < 1 ∨ 4 < (s.data.toList[p.toNat]?.getD 0).toNat then failV 11
  else checkedV (restV s (s.data.toList[p.toNat]?.getD 0).toNat (p.toNat + 1))

def ofIntV (n : Int) : VZ := ⟨1, max (-4611686018427387904) (min 4611686018427387904 n), 0, noText⟩
end Go.Proofs.Ytbgapkhcaideiaa

/- A region that draws its order and ends in a tail whose order is forced: the first n operations slot by slot, the tail as it stands. Conditions: none beyond those that the theorem states. -/
namespace Go.Proofs.Ytbgapkhcaideiaa
open Go Go.RowKit

/-- the tail from n on: each waits for the one ahead of it, the first one for all ahead, be it through others that wait -/
def tailB (ops : Array Oper) (n : Nat) : Bool :=
  decide (n ≤ ops.size) && (List.range ops.size).all fun i => match ops[i]? with
    | none => true
    | some o => if i < n then true else if i = n then (List.range n).all (fun j => (List.range (n + 1)).any fun k => decide (j < k) && (match ops[k]? with | none => false | some o' => o'.after.any fun e => e.on == j && Region.binds .any e)) else o.after.any fun e => e.on == i - 1 && Region.binds .any e

/-- slot of operation k, one of the first n -/
def ndst (ops : Array Oper) (n k : Nat) : Option Tmp := if k < n then rdst ops k else none

/-- edges point back; among the first n: no operand is another one's slot unless it waits for that one; slots are apart -/
def headB (ops : Array Oper) (n m : Nat) : Bool :=
  Region.noSelect ops && decide (n ≤ ops.size) &&
  (List.range ops.size).all fun i => match ops[i]? with
    | none => true
    | some o =>
      (o.after.all fun e => !Region.binds .any e || decide (e.on < i)) &&
      (decide (n ≤ i) || ((match o.dst with
       | none => true
       | some d => decide (d < m) && (List.range n).all fun k => k == i || ndst ops n k != some d) &&
      (o.looksAt ops).all fun t => (List.range n).all fun k => ndst ops n k != some t || o.after.any fun e => e.on == k && Region.binds .any e))

theorem headB_edge {ops : Array Oper} {n m : Nat} (h : headB ops n m = true) : ∀ i o, ops[i]? = some o → ∀ e ∈ o.after, Region.binds .any e = true → e.on < i := by
  intro i o ho e he hb
  simp only [headB, Bool.and_eq_true, List.all_eq_true, List.mem_range] at h
  have h1 := h.2 i (Array.getElem?_eq_some_iff.1 ho).1
  rw [ho] at h1
  simp only [Bool.and_eq_true] at h1
  have h2 := Array.all_eq_true'.1 h1.1 e he
  simpa [hb] using h2

theorem ndst_lt {ops : Array Oper} {n k : Nat} {t : Tmp} (h : ndst ops n k = some t) : k < n ∧ rdst ops k = some t := by
  unfold ndst at h
  split at h
  · exact ⟨by assumption, h⟩
  · cases h

theorem headB_slot {ops : Array Oper} {n m : Nat} (h : headB ops n m = true) {i k : Nat} {o : Oper} {d : Tmp} (hi : i < n) (ho : ops[i]? = some o) (hd : o.dst = some d) : d < m ∧ (ndst ops n k = some d → k = i) := by
  simp only [headB, Bool.and_eq_true, List.all_eq_true, List.mem_range] at h
  have h1 := h.2 i (Array.getElem?_eq_some_iff.1 ho).1
  rw [ho] at h1
  simp only [Bool.and_eq_true, hd, Bool.or_eq_true, decide_eq_true_eq] at h1
  rcases h1.2 with h2 | h2
  · omega
  · refine ⟨h2.1.1, fun hk => ?_⟩
    have h3 := List.all_eq_true.1 h2.1.2 k (List.mem_range.2 (ndst_lt hk).1)
    simpa [hk] using h3

theorem headB_sees {ops : Array Oper} {n m : Nat} (h : headB ops n m = true) {i k : Nat} {o : Oper} {t : Tmp} (hi : i < n) (ho : ops[i]? = some o) (ht : t ∈ o.looksAt ops) (hk : ndst ops n k = some t) :
    ∃ e ∈ o.after, e.on = k ∧ Region.binds .any e = true := by
  simp only [headB, Bool.and_eq_true, List.all_eq_true, List.mem_range] at h
  have h1 := h.2 i (Array.getElem?_eq_some_iff.1 ho).1
  rw [ho] at h1
  simp only [Bool.and_eq_true, Bool.or_eq_true, decide_eq_true_eq] at h1
  rcases h1.2 with h2 | h2
  · omega
  · have h3 := List.all_eq_true.1 (List.all_eq_true.1 h2.2 t ht) k (List.mem_range.2 (ndst_lt hk).1)
    simp only [hk, bne_self_eq_false, Bool.false_or] at h3
    obtain ⟨e, he, hh⟩ := Array.any_eq_true'.1 h3
    simp only [Bool.and_eq_true, beq_iff_eq] at hh
    exact ⟨e, he, hh.1, hh.2⟩

theorem wpOp_of_wanted {P : Program} {ops : Array Oper} {Q : Exit → Act → World → Prop} {i : Nat} {o : Oper} {K : Act → World → Prop} {a : Act} {w : World} (ho : ops[i]? = some o)
    (h : if Region.wanted o (yielded ops a.tmps) then o.wp P a w K Q ∨ (o.asks P a w ∧ LetsOut Q) else K (a.put o.dst undef) w) : wpOp P ops Q i K a w := by
  unfold wpOp
  simp only [ho]
  exact h

/-- the tail runs in its order -/
theorem wpAny_tail {P : Program} {ops : Array Oper} {Q : Exit → Act → World → Prop} {n : Nat} (hT : tailB ops n = true) (hE : ∀ i o, ops[i]? = some o → ∀ e ∈ o.after, Region.binds .any e = true → e.on < i) :
    ∀ (l : List Oper) (m : Nat) (fuel : Nat) (listed : Array Bool) (a : Act) (w : World), n ≤ m → l = ops.toList.drop m → listed.size = ops.size → (∀ i, i < ops.size → listed.getD i false = decide (i < m)) → ops.size ≤ m + fuel →
      wpList P ops Q l a w → wpAny P .any ops Q fuel listed a w := by
  simp only [tailB, Bool.and_eq_true, decide_eq_true_eq, List.all_eq_true, List.mem_range] at hT
  intro l
  induction l with
  | nil =>
    intro m fuel listed a w hnm hl hs hd hf h
    have hm : ops.size ≤ m := by
      have := congrArg List.length hl
      simp only [List.length_nil, List.length_drop, Array.length_toList] at this
      omega
    have hr : Region.ready .any ops listed = [] := by
      refine List.eq_nil_iff_forall_not_mem.2 fun j hj => ?_
      obtain ⟨h0, o, ho, _⟩ := mem_ready.1 hj
      have hj' : j < ops.size := (Array.getElem?_eq_some_iff.1 ho).1
      have h1 := hd j hj'
      have hj'' : j < listed.size := by omega
      rw [Array.getD_eq_getD_getElem?, Array.getElem?_eq_getElem hj''] at h0 h1
      simp only [Option.getD_some] at h0 h1
      rw [h0] at h1
      simp at h1
      omega
    cases fuel with
    | zero => exact ⟨hr, h⟩
    | succ fuel => exact ⟨fun _ => h, fun i hi => by rw [hr] at hi; cases hi⟩
  | cons o l ih =>
    intro m fuel listed a w hnm hl hs hd hf h
    have hml : m < ops.size := by
      have := congrArg List.length hl
      simp only [List.length_cons, List.length_drop, Array.length_toList] at this
      omega
    have ho : ops[m]? = some o := by
      have h1 := congrArg (fun l => l[0]?) hl
      simp only [List.getElem?_cons_zero, List.getElem?_drop, Nat.add_zero, Array.getElem?_toList] at h1
      exact h1.symm
    have hl' : l = ops.toList.drop (m + 1) := by
      have h1 := congrArg List.tail hl
      simpa [List.tail_drop] using h1
    cases fuel with
    | zero => omega
    | succ fuel =>
      have honly : ∀ i ∈ Region.ready .any ops listed, i = m := by
        intro i hi
        obtain ⟨h0, oi, hoi, hall⟩ := mem_ready.1 hi
        have hi' : i < ops.size := (Array.getElem?_eq_some_iff.1 hoi).1
        have h1 := hd i hi'
        have hi'' : i < listed.size := by omega
        rw [Array.getD_eq_getD_getElem?, Array.getElem?_eq_getElem hi''] at h0 h1
        simp only [Option.getD_some] at h0 h1
        rw [h0] at h1
        have him : ¬ i < m := by simpa using h1
        rcases Nat.lt_or_ge m i with hlt | hge
        · exfalso
          have hb := hT.2 i hi'
          rw [hoi] at hb
          simp only at hb
          rw [if_neg (by omega), if_neg (by omega)] at hb
          obtain ⟨e, he, hh⟩ := Array.any_eq_true'.1 hb
          simp only [Bool.and_eq_true, beq_iff_eq] at hh
          have h2 := hall e he hh.2
          rw [hh.1, hd (i - 1) (by omega)] at h2
          simp at h2
          omega
        · omega
      refine ⟨fun hr => ?_, fun i hi => ?_⟩
      · exfalso
        have hmem : m ∈ Region.ready .any ops listed := by
          rw [mem_ready]
          have hm'' : m < listed.size := by omega
          have h1 := hd m hml
          refine ⟨?_, o, ho, fun e he hb => ?_⟩
          · rw [Array.getD_eq_getD_getElem?, Array.getElem?_eq_getElem hm''] at h1 ⊢
            simpa using h1
          · have hlt := hE m o ho e he hb
            rw [hd e.on (by omega)]
            simpa using hlt
        rw [hr] at hmem
        cases hmem
      · have him := honly i hi
        subst him
        refine wpOp_of_wanted ho ?_
        have hstep : ∀ a' w', wpList P ops Q l a' w' → wpAny P .any ops Q fuel (listed.setIfInBounds i true) a' w' := fun a' w' hh =>
          ih (i + 1) fuel _ a' w' (by omega) hl' (by simpa using hs) (fun j hj => by
            by_cases hji : j = i
            · subst hji
              rw [Array.getD_eq_getD_getElem?, Array.getElem?_setIfInBounds_self_of_lt (by omega)]
              simp
            · rw [getD_set_ne false (Ne.symm hji), hd j hj]
              have : (j < i) ↔ (j < i + 1) := by omega
              simp [this]) (by omega) hh
        unfold wpList at h
        by_cases hw : Region.wanted o (yielded ops a.tmps) = true
        · rw [if_pos hw] at h ⊢
          exact h.imp (Oper.wp_mono hstep) id
        · rw [if_neg hw] at h ⊢
          exact hstep _ _ h

/-- what holds while the first n come up -/
structure NInv (ops : Array Oper) (n : Nat) (Le : World → World → Prop) (G : Nat → Value → World → Prop) (a0 : Act) (w0 : World) (listed : Array Bool) (a : Act) (w : World) : Prop where
  le : Le w0 w
  defers : a.defers = a0.defers
  size : a.tmps.size = a0.tmps.size
  frame : ∀ t, (∀ k, ndst ops n k ≠ some t) → a.tmps[t]?.getD undef = a0.tmps[t]?.getD undef
  typed : ∀ k t, listed.getD k false = true → ndst ops n k = some t → G k (a.tmps[t]?.getD undef) w
  closed : ∀ k o, listed.getD k false = true → ops[k]? = some o → ∀ e ∈ o.after, Region.binds .any e = true → listed.getD e.on false = true

theorem listed_mono {listed : Array Bool} {i j : Nat} (h : listed.getD j false = true) : (listed.setIfInBounds i true).getD j false = true := by
  by_cases hij : i = j
  · subst hij
    rcases Nat.lt_or_ge i listed.size with h1 | h1
    · rw [Array.getD_eq_getD_getElem?, Array.getElem?_setIfInBounds_self_of_lt h1]
      rfl
    · rw [Array.getD_eq_getD_getElem?, Array.getElem?_eq_none h1] at h
      cases h
  · rw [getD_set_ne false hij]
    exact h

theorem NInv.step {ops : Array Oper} {n : Nat} {Le : World → World → Prop} {G : Nat → Value → World → Prop} {a0 : Act} {w0 : World} {listed : Array Bool} {a : Act} {w w' : World} {i : Nat} {o : Oper} {v : Value}
    (htr : ∀ {x y z : World}, Le x y → Le y z → Le x z) (hst : ∀ k u x y, G k u x → Le x y → G k u y)
    (hB : headB ops n a0.tmps.size = true) (hi : i < n) (ho : ops[i]? = some o)
    (h : NInv ops n Le G a0 w0 listed a w) (hle : Le w w') (hv : G i v w') (hed : ∀ e ∈ o.after, Region.binds .any e = true → listed.getD e.on false = true) : NInv ops n Le G a0 w0 (listed.setIfInBounds i true) (a.put o.dst v) w' := by
  have hg : ∀ (x : Array Value) (t : Nat), x[t]?.getD undef = x.getD t undef := fun x t => (Array.getD_eq_getD_getElem? ..).symm
  have hnd : ndst ops n i = o.dst := by unfold ndst rdst; rw [if_pos hi, ho]; rfl
  refine ⟨htr h.le hle, (put_defs _ _ _).trans h.defers, (put_size _ _ _).trans h.size, fun t ht => ?_, fun k t hk hkt => ?_, fun k o' hk hko e he hb => ?_⟩
  · rw [hg, put_getD_other _ _ _ _ (fun e => ht i (by rw [hnd]; exact e)), ← hg]
    exact h.frame t ht
  rotate_left
  · by_cases hki : k = i
    · subst hki
      rw [ho] at hko
      obtain rfl := Option.some.inj hko
      exact listed_mono (hed e he hb)
    · exact listed_mono (h.closed k o' (by rwa [getD_set_ne false (Ne.symm hki)] at hk) hko e he hb)
  · by_cases hki : k = i
    · subst hki
      have hd : o.dst = some t := by rw [← hnd]; exact hkt
      have hlt := (headB_slot hB (k := k) hi ho hd).1
      rw [hg, hd, put_getD_same _ _ _ (by rw [h.size]; exact hlt)]
      exact hv
    · have hk' : listed.getD k false = true := by rwa [getD_set_ne false (Ne.symm hki)] at hk
      rw [hg, put_getD_other _ _ _ _ (fun e => hki ((headB_slot hB (k := k) hi ho e).2 hkt)), ← hg]
      exact hst _ _ _ _ (h.typed k t hk' hkt) hle

theorem wpAny_head {P : Program} {ops : Array Oper} {n : Nat} {Q : Exit → Act → World → Prop} {Le : World → World → Prop} {G : Nat → Value → World → Prop} {a0 : Act} {w0 : World}
    (htr : ∀ {x y z : World}, Le x y → Le y z → Le x z) (hle0 : ∀ x, Le x x) (hst : ∀ k u x y, G k u x → Le x y → G k u y)
    (hB : headB ops n a0.tmps.size = true) (hT : tailB ops n = true)
    (hstep : ∀ i o, i < n → ops[i]? = some o → ∀ (a : Act) (w : World), Le w0 w → (∀ t, (∀ k, ndst ops n k ≠ some t) → a.tmps[t]?.getD undef = a0.tmps[t]?.getD undef) →
      (∀ k t, ndst ops n k = some t → t ∈ o.looksAt ops → G k (a.tmps[t]?.getD undef) w) → RStep P ops Le G i o a w)
    (hpost : ∀ a w, Le w0 w → a.defers = a0.defers → a.tmps.size = a0.tmps.size → (∀ t, (∀ k, ndst ops n k ≠ some t) → a.tmps[t]?.getD undef = a0.tmps[t]?.getD undef) →
      (∀ k t, ndst ops n k = some t → G k (a.tmps[t]?.getD undef) w) → wpList P ops Q (ops.toList.drop n) a w) :
    ∀ (fuel : Nat) (listed : Array Bool) (a : Act) (w : World), listed.size = ops.size → (∀ i, n ≤ i → i < ops.size → listed.getD i false = false) → listed.count false ≤ fuel →
      NInv ops n Le G a0 w0 listed a w → wpAny P .any ops Q fuel listed a w := by
  have hE := headB_edge hB
  have hT' := hT
  simp only [tailB, Bool.and_eq_true, decide_eq_true_eq, List.all_eq_true, List.mem_range] at hT'
  have alldone : ∀ (fuel : Nat) (listed : Array Bool) (a : Act) (w : World), listed.size = ops.size → (∀ i, n ≤ i → i < ops.size → listed.getD i false = false) → (∀ i, i < n → listed.getD i false = true) → ops.size ≤ n + fuel →
      NInv ops n Le G a0 w0 listed a w → wpAny P .any ops Q fuel listed a w := by
    intro fuel listed a w hs ht hl hf h
    refine wpAny_tail hT hE _ n fuel listed a w (Nat.le_refl _) rfl hs (fun i hi => ?_) hf (hpost a w h.le h.defers h.size h.frame (fun k t hk => h.typed k t (hl k (ndst_lt hk).1) hk))
    by_cases hin : i < n
    · rw [hl i hin]; simp [hin]
    · rw [ht i (by omega) hi]; simp [hin]
  intro fuel
  induction fuel with
  | zero =>
    intro listed a w hs ht hcnt h
    have hl : ∀ i, i < ops.size → listed.getD i false = true := by
      intro i hi
      cases hc : listed.getD i false with
      | true => rfl
      | false =>
        have hi' : i < listed.size := by omega
        have hmem : false ∈ listed := by
          rw [Array.getD_eq_getD_getElem?, Array.getElem?_eq_getElem hi'] at hc
          simp only [Option.getD_some] at hc
          exact hc ▸ Array.getElem_mem hi'
        have := Array.count_pos_iff.2 hmem
        omega
    have hn : ops.size ≤ n := by
      rcases Nat.lt_or_ge n ops.size with h1 | h1
      · have h2 := ht n (Nat.le_refl _) h1
        rw [hl n h1] at h2
        cases h2
      · exact h1
    exact alldone 0 listed a w hs ht (fun i hi => hl i (by omega)) (by omega) h
  | succ fuel ih =>
    intro listed a w hs ht hcnt h
    by_cases hall : ∀ i, i < n → listed.getD i false = true
    · refine alldone (fuel + 1) listed a w hs ht hall ?_ h
      have h1 : ∀ (l : List Bool) (k : Nat), (∀ i, k ≤ i → i < l.length → l[i]? = some false) → l.length - k ≤ l.count false := by
        intro l
        induction l with
        | nil => intro k _; simp
        | cons b l ihl =>
          intro k hk
          cases k with
          | zero =>
            have h0 := hk 0 (Nat.le_refl _) (by simp)
            simp only [List.getElem?_cons_zero, Option.some.injEq] at h0
            have h2 := ihl 0 (fun i _ hi => by have := hk (i + 1) (by omega) (by simp; omega); simpa using this)
            subst h0
            simp only [List.count_cons_self, List.length_cons]
            omega
          | succ k =>
            have h2 := ihl k (fun i hki hi => by have := hk (i + 1) (by omega) (by simp; omega); simpa using this)
            have h3 : l.count false ≤ (b :: l).count false := List.count_le_count_cons
            simp only [List.length_cons]
            omega
      have h2 := h1 listed.toList n (fun i hi1 hi2 => by
        have hi3 : i < listed.size := by simpa using hi2
        have := ht i hi1 (by omega)
        rw [Array.getD_eq_getD_getElem?, Array.getElem?_eq_getElem hi3] at this
        simp only [Option.getD_some] at this
        rw [Array.getElem?_toList, Array.getElem?_eq_getElem hi3, this])
      have h3 : listed.toList.count false = listed.count false := by simp
      rw [h3] at h2
      simp only [Array.length_toList] at h2
      omega
    · -- some of the first n is still to come: the least one is ready, and no tail's operation is
      obtain ⟨m, hm, hmf⟩ : ∃ m, m < n ∧ listed.getD m false = false := by
        refine Classical.byContradiction fun hc => hall fun i hi => ?_
        cases hq : listed.getD i false with
        | true => rfl
        | false => exact absurd ⟨i, hi, hq⟩ hc
      have least : ∀ k, k < n → listed.getD k false = false → ∃ i, i ∈ Region.ready .any ops listed := by
        intro k
        induction k using Nat.strongRecOn with
        | ind k ihk =>
          intro hk hkf
          have hko : k < ops.size := by omega
          by_cases hr : ∀ e ∈ ops[k].after, Region.binds .any e = true → listed.getD e.on false = true
          · refine ⟨k, mem_ready.2 ⟨?_, ops[k], Array.getElem?_eq_getElem hko, hr⟩⟩
            have hkl : k < listed.size := by omega
            rw [Array.getD_eq_getD_getElem?, Array.getElem?_eq_getElem hkl] at hkf ⊢
            exact hkf
          · obtain ⟨e, he, hb, hef⟩ : ∃ e ∈ ops[k].after, Region.binds .any e = true ∧ listed.getD e.on false = false := by
              refine Classical.byContradiction fun hc => hr fun e he hb => ?_
              cases hq : listed.getD e.on false with
              | true => rfl
              | false => exact absurd ⟨e, he, hb, hq⟩ hc
            have hlt := hE k _ (Array.getElem?_eq_getElem hko) e he hb
            exact ihk e.on hlt (by omega) hef
      refine ⟨fun hr => ?_, fun i hi => ?_⟩
      · obtain ⟨i, hi⟩ := least m hm hmf
        rw [hr] at hi
        cases hi
      · obtain ⟨h0, o, ho, hedges⟩ := mem_ready.1 hi
        have hi' : i < ops.size := (Array.getElem?_eq_some_iff.1 ho).1
        have hil : i < listed.size := by omega
        have hin : i < n := by
          rcases Nat.lt_or_ge i n with h1 | h1
          · exact h1
          · exfalso
            have hb := hT'.2 i hi'
            rw [ho] at hb
            simp only at hb
            rw [if_neg (by omega)] at hb
            by_cases hie : i = n
            · rw [if_pos hie] at hb
              have hdown : ∀ d j, n - j = d → j < n → listed.getD j false = true := by
                intro d
                induction d using Nat.strongRecOn with
                | ind d ihd =>
                  intro j hjd hjn
                  have h2 := List.all_eq_true.1 hb j (List.mem_range.2 hjn)
                  obtain ⟨k, hk, hkk⟩ := List.any_eq_true.1 h2
                  rw [Bool.and_eq_true, decide_eq_true_eq] at hkk
                  obtain ⟨hjk, hkk⟩ := hkk
                  have hkn : k < n + 1 := List.mem_range.1 hk
                  cases hko : ops[k]? with
                  | none => rw [hko] at hkk; cases hkk
                  | some o' =>
                    rw [hko] at hkk
                    obtain ⟨e, he, hh⟩ := Array.any_eq_true'.1 hkk
                    simp only [Bool.and_eq_true, beq_iff_eq] at hh
                    by_cases hkn2 : k = n
                    · subst hkn2
                      subst hie
                      rw [ho] at hko
                      obtain rfl := Option.some.inj hko
                      have h3 := hedges e he hh.2
                      rwa [hh.1] at h3
                    · have hkl := ihd (n - k) (by omega) k rfl (by omega)
                      have h3 := h.closed k o' hkl hko e he hh.2
                      rwa [hh.1] at h3
              rw [hdown _ m rfl hm] at hmf
              cases hmf
            · rw [if_neg hie] at hb
              obtain ⟨e, he, hh⟩ := Array.any_eq_true'.1 hb
              simp only [Bool.and_eq_true, beq_iff_eq] at hh
              have h3 := hedges e he hh.2
              rw [hh.1, ht (i - 1) (by omega) (by omega)] at h3
              cases h3
        have hif : listed[i] = false := by
          rw [Array.getD_eq_getD_getElem?, Array.getElem?_eq_getElem hil] at h0
          simpa using h0
        have hs' : (listed.setIfInBounds i true).size = ops.size := by simpa using hs
        have hcnt' : (listed.setIfInBounds i true).count false ≤ fuel := by
          have hpos : 0 < listed.count false := Array.count_pos_iff.2 (hif ▸ Array.getElem_mem hil)
          rw [Array.setIfInBounds_def, dif_pos hil, Array.count_set]
          simp [hif]
          omega
        have ht' : ∀ j, n ≤ j → j < ops.size → (listed.setIfInBounds i true).getD j false = false := by
          intro j hj1 hj2
          rw [getD_set_ne false (by omega)]
          exact ht j hj1 hj2
        have hsees : ∀ k t, ndst ops n k = some t → t ∈ o.looksAt ops → G k (a.tmps[t]?.getD undef) w := by
          intro k t hk htl
          obtain ⟨e, he, hek, hb⟩ := headB_sees hB hin ho htl hk
          exact h.typed k t (hek ▸ hedges e he hb) hk
        have hs1 := hstep i o hin ho a w h.le h.frame hsees
        unfold RStep at hs1
        unfold wpOp
        simp only [ho]
        by_cases hw : Region.wanted o (yielded ops a.tmps) = true
        · rw [if_pos hw] at hs1
          rw [if_pos hw]
          refine Or.inl ?_
          have hmono : o.wp P a w (wpAny P .any ops Q fuel (listed.setIfInBounds i true)) (fun _ _ _ => False) :=
            Oper.wp_mono (fun a' w' ⟨v, hv1, hv2, hv3⟩ => by
              subst hv1
              exact ih _ _ _ hs' ht' hcnt' (h.step htr hst hB hin ho hv2 hv3 hedges)) hs1
          revert hmono
          unfold Oper.wp
          generalize (execOp a.eval o).run P w = r
          intro hmono
          cases r with
          | ok nx w' =>
            cases nx <;> simp only [Oper.upon] at hmono ⊢
            all_goals first
              | exact hmono
              | exact Calls.mono hmono (fun e w'' he => by
                  cases e with
                  | returned v => exact he
                  | panicked c => exact he.elim
                  | outgrown => obtain ⟨_, _, hf⟩ := he; exact hf.elim)
          | halt x w' => cases x <;> simp only [Oper.upon] at hmono
        · rw [if_neg hw] at hs1
          rw [if_neg hw]
          exact ih _ _ _ hs' ht' hcnt' (h.step htr hst hB hin ho (hle0 w) hs1 hedges)

/-- no one of the first n operations writes slot t -/
def nfreeB (ops : Array Oper) (n : Nat) (t : Tmp) : Bool := (List.range n).all fun k => ndst ops n k != some t

theorem nfreeB_spec {ops : Array Oper} {n : Nat} {t : Tmp} (h : nfreeB ops n t = true) : ∀ k, ndst ops n k ≠ some t := by
  intro k hk
  have := List.all_eq_true.1 h k (List.mem_range.2 (ndst_lt hk).1)
  simp [hk] at this

/-- the region by its slots, as far as its tail -/
theorem wp_region_tail {P : Program} {ops : Array Oper} {id : Nat} {Q : Exit → Act → World → Prop} (n : Nat) (Le : World → World → Prop) (G : Nat → Value → World → Prop) {tm : Array Value} {w0 : World}
    (hm : P.follows .mixedOrders = true)
    (htr : ∀ {x y z : World}, Le x y → Le y z → Le x z) (hle0 : ∀ x, Le x x) (hdr : Le w0 w0.drew) (hst : ∀ k u x y, G k u x → Le x y → G k u y)
    (hB : headB ops n tm.size = true) (hT : tailB ops n = true)
    (hstep : ∀ (tmps : Array Value) (df : List Deferred) (w : World), Le w0 w → (∀ t, nfreeB ops n t = true → tmps[t]?.getD undef = tm[t]?.getD undef) →
      ∀ i o, i < n → ops[i]? = some o → (∀ k t, ndst ops n k = some t → (o.looksAt ops).contains t = true → G k (tmps[t]?.getD undef) w) → RStep P ops Le G i o ⟨tmps, df⟩ w)
    (hpost : ∀ tmps w, Le w0 w → tmps.size = tm.size → (∀ t, nfreeB ops n t = true → tmps[t]?.getD undef = tm[t]?.getD undef) →
      (∀ k t, ndst ops n k = some t → G k (tmps[t]?.getD undef) w) → wpList P ops Q (ops.toList.drop n) ⟨tmps, []⟩ w) :
    (Code.region id ops true).wp P Q ⟨tm, []⟩ w0 := by
  refine wp_region_any hm (wpAny_head (n := n) (Le := Le) (G := G) (a0 := ⟨tm, []⟩) (w0 := w0) htr hle0 hst hB hT ?_ ?_ ops.size _ ⟨tm, []⟩ w0.drew (by simp) ?_ (by simp) ⟨hdr, rfl, rfl, fun _ _ => rfl, fun k t hk _ => ?_, fun k o hk _ => ?_⟩)
  · intro i o hi ho a w hle hfr hty
    obtain ⟨tmps, df⟩ := a
    exact hstep tmps df w hle (fun t ht => hfr t (nfreeB_spec ht)) i o hi ho (fun k t hk ht => hty k t hk (by simpa using ht))
  · intro a w hle hd hsz hfr hty
    obtain ⟨tmps, df⟩ := a
    simp only at hd
    subst hd
    exact hpost tmps w hle hsz (fun t ht => hfr t (nfreeB_spec ht)) hty
  · intro i hi1 hi2
    simp only [Array.getD_eq_getD_getElem?, Array.getElem?_replicate]
    split <;> rfl
  · simp only [Array.getD_eq_getD_getElem?, Array.getElem?_replicate] at hk
    split at hk <;> simp at hk
  · simp only [Array.getD_eq_getD_getElem?, Array.getElem?_replicate] at hk
    split at hk <;> simp at hk

/-- the frame behind the head, written out -/
theorem nframe_eq {ops : Array Oper} {n : Nat} {tm tmps : Array Value} (D : List Nat) (hs : tmps.size = tm.size) (hfr : ∀ t, nfreeB ops n t = true → tmps[t]?.getD undef = tm[t]?.getD undef)
    (hD : ((List.range tm.size).all fun t => D.contains t || nfreeB ops n t) = true) :
    tmps = D.foldl (fun acc d => acc.setIfInBounds d (tmps[d]?.getD undef)) tm := by
  have size_fold : ∀ (L : List Nat) (x : Array Value), (L.foldl (fun acc d => acc.setIfInBounds d (tmps[d]?.getD undef)) x).size = x.size := by
    intro L
    induction L with
    | nil => intro x; rfl
    | cons d L ih => intro x; simp [ih]
  have get_fold : ∀ (L : List Nat) (x : Array Value) (t : Nat), t < x.size →
      (L.foldl (fun acc d => acc.setIfInBounds d (tmps[d]?.getD undef)) x)[t]? = if t ∈ L then some (tmps[t]?.getD undef) else x[t]? := by
    intro L
    induction L with
    | nil => intro x t _; simp
    | cons d L ih =>
      intro x t ht
      rw [List.foldl_cons, ih _ t (by simpa using ht)]
      by_cases h1 : t ∈ L
      · simp [h1]
      · by_cases h2 : d = t
        · subst h2
          simp [h1, Array.getElem?_setIfInBounds_self_of_lt ht]
        · have h3 : ¬ t = d := fun e => h2 e.symm
          simp [h1, h3, Array.getElem?_setIfInBounds_ne h2]
  apply Array.ext_getElem?
  intro t
  rcases Nat.lt_or_ge t tm.size with ht | ht
  · rw [get_fold D tm t ht]
    have htm : tmps[t]? = some (tmps[t]?.getD undef) := by
      rw [Array.getElem?_eq_getElem (by omega)]; rfl
    by_cases hm : t ∈ D
    · rw [if_pos hm]; exact htm
    · rw [if_neg hm, htm]
      have h1 := List.all_eq_true.1 hD t (List.mem_range.2 ht)
      have h2 : nfreeB ops n t = true := by
        simpa [hm] using h1
      rw [hfr t h2, Array.getElem?_eq_getElem ht]; rfl
  · rw [Array.getElem?_eq_none (by omega), Array.getElem?_eq_none (by rw [size_fold]; exact ht)]

end Go.Proofs.Ytbgapkhcaideiaa

/- What holds of doubles by the document: order, sums, whole numbers. Plain; conditions: none. -/
namespace Go.Proofs.Ytbgapkhcaideiaa
open Go

/-! ### what a sum is -/
theorem rung_word (s : Bool) {r : Nat} (h : r < 9223372036854775808) : rungZ (wordZ s r) = r ∧ sgZ (wordZ s r) = s ∧ wordZ s r < 18446744073709551616 := by
  unfold rungZ sgZ wordZ
  cases s
  · rw [if_neg (by decide)]
    exact ⟨by omega, decide_eq_false (by omega), by omega⟩
  · rw [if_pos rfl]
    exact ⟨by omega, decide_eq_true (by omega), by omega⟩
theorem rung_rd (s : Bool) (N : Nat) : rungZ (rdZ s N) = min (rnd N) 9218868437227405312 ∧ sgZ (rdZ s N) = s ∧ rdZ s N < 18446744073709551616 := rung_word s (by omega)
/-- a whole multiple of the least double, rounded, with its sign -/
def rdI (t : Int) : Int := if t < 0 then -((min (rnd t.natAbs) 9218868437227405312 : Nat) : Int) else ((min (rnd t.natAbs) 9218868437227405312 : Nat) : Int)
theorem srk_rd {s : Bool} {t : Int} (h : t = 0 ∨ s = decide (t < 0)) : srkZ (rdZ s t.natAbs) = rdI t := by
  obtain ⟨h1, h2, _⟩ := rung_rd s t.natAbs
  unfold srkZ rdI
  rw [h1, h2]
  rcases h with h | h
  · subst h
    show (if s = true then -((min (rnd 0) _ : Nat) : Int) else ((min (rnd 0) _ : Nat) : Int)) = _
    rw [rnd_small (by omega), if_neg (show ¬ (0 : Int) < 0 by omega)]
    cases s <;> simp <;> rfl
  · rw [h]
    by_cases ht : t < 0
    · rw [decide_eq_true ht, if_pos rfl, if_pos ht]
    · rw [decide_eq_false ht, if_neg (by decide), if_neg ht]
theorem srk_sum (a b : Nat) : srkZ (sumZ a b) = rdI (svalZ a + svalZ b) := by
  unfold sumZ
  refine srk_rd ?_
  unfold sumS
  by_cases h : svalZ a + svalZ b = 0
  · exact Or.inl h
  · right; rw [if_neg h]
theorem sval_srk {u : Nat} (h : rungZ u ≤ 9218868437227405312) : rdI (svalZ u) = srkZ u := by
  unfold rdI svalZ srkZ valZ
  have h1 := rnd_worth (rungZ u)
  cases hs : sgZ u
  · simp only [if_false, Bool.false_eq_true]
    rw [if_neg (by omega), show ((worthR (rungZ u) : Nat) : Int).natAbs = worthR (rungZ u) by omega, h1]
    omega
  · simp only [if_true]
    have e : (-((worthR (rungZ u) : Nat) : Int)).natAbs = worthR (rungZ u) := by omega
    rw [e, h1]
    by_cases h0 : worthR (rungZ u) = 0
    · have hr : rungZ u = 0 := by rw [← h1, h0]; exact rnd_small (by omega)
      rw [h0, hr]; simp
    · rw [if_pos (by omega)]; omega
theorem word_srk {a b : Nat} (ha : a < 18446744073709551616) (hb : b < 18446744073709551616) (hs : sgZ a = sgZ b) (h : srkZ a = srkZ b) : a = b := by
  have wa := word_of a ha
  have wb := word_of b hb
  unfold srkZ at h
  rw [hs] at h wa
  have : rungZ a = rungZ b := by
    cases h2 : sgZ b <;> rw [h2] at h <;> simp at h <;> omega
  exact wa.symm.trans ((congrArg _ this).trans wb)
theorem sum_lt (a b : Nat) : sumZ a b < 18446744073709551616 := (rung_rd _ _).2.2
theorem sum_sg (a b : Nat) : sgZ (sumZ a b) = sumS a b := (rung_rd _ _).2.1
theorem srk_zero {u : Nat} : srkZ u = 0 ↔ rungZ u = 0 := by unfold srkZ; split <;> omega
theorem sval_zero {u : Nat} : svalZ u = 0 ↔ rungZ u = 0 := by
  have h1 := sval_eq_iff u 0
  have h2 : svalZ 0 = 0 := by decide
  have h3 : srkZ 0 = 0 := by decide
  rw [h2, h3, srk_zero] at h1
  exact h1

/-! ### the laws of sums -/
/-- with a zero that leaves all -/
theorem sum_with {a z : Nat} (ha : a < 18446744073709551616) (hk : rungZ a < 9218868437227405312) (hz : rungZ z = 0) (hs : rungZ a ≠ 0 ∨ (sgZ a && sgZ z) = sgZ a) : sumZ a z = a := by
  have hz0 : svalZ z = 0 := sval_zero.2 hz
  have h1 : srkZ (sumZ a z) = srkZ a := by rw [srk_sum, hz0, Int.add_zero, sval_srk (by omega)]
  refine word_srk (sum_lt a z) ha ?_ h1
  rw [sum_sg]
  unfold sumS
  rw [hz0, Int.add_zero]
  by_cases h0 : rungZ a = 0
  · rw [if_pos (sval_zero.2 h0)]
    rcases hs with h2 | h2
    · exact absurd h0 h2
    · exact h2
  · have hne : svalZ a ≠ 0 := fun h => h0 (sval_zero.1 h)
    rw [if_neg hne]
    have hv : 0 < valZ a := by
      have := worth_mono (show 0 < rungZ a by omega)
      unfold valZ; omega
    unfold svalZ
    cases hsg : sgZ a
    · exact decide_eq_false (by simp)
    · exact decide_eq_true (by simp; omega)
theorem zero_parts : kindZ 0 = 1 ∧ rungZ 0 = 0 ∧ sgZ 0 = false := by decide
theorem add_zero (a : Nat) (ha : a < 18446744073709551616) (hk : kindZ a ≠ 1) : addZ a 0 = cleanZ a := by
  obtain ⟨k, r, s⟩ := zero_parts
  have hn : nanSum a 0 ↔ kindZ a = 5 := by unfold nanSum; rw [k]; omega
  unfold addZ cleanZ
  by_cases h5 : kindZ a = 5
  · rw [if_pos (hn.2 h5), if_pos h5]
  · rw [if_neg (fun h => h5 (hn.1 h)), if_neg h5]
    by_cases h4 : kindZ a = 4
    · rw [if_pos h4]
    · rw [if_neg h4, if_neg (by omega)]
      exact sum_with ha (kind_fin.1 ⟨h5, h4⟩) r (Or.inl (fun h => hk (kind_zero.2 h)))

end Go.Proofs.Ytbgapkhcaideiaa

/- The order of texts and of values. Plain; conditions: none. -/
namespace Go.Proofs.Ytbgapkhcaideiaa
open Go Go.RowKit

theorem list_ba (s t : ByteArray) : s.toList = t.toList ↔ s = t := by
  constructor
  · intro h
    rw [ByteArray.toList_eq, ByteArray.toList_eq] at h
    exact ba_eq h
  · intro h; rw [h]
end Go.Proofs.Ytbgapkhcaideiaa

/- octet.longer and octet.fill, by their contracts. Conditions: the reach of a slice. -/
namespace Go.Proofs.Ytbgapkhcaideiaa
open Go Go.RowKit


set_option maxHeartbeats 400000 in
theorem longer_any (A : Option Addr) (l : List UInt8) (c m : Nat) (w : World) (hl : Lies w A (bvs l)) (_hlc : l.length ≤ c) (hn : l.length + m ≤ 140737488351232) :
    Calls Try.prog 36 #[.slice A l.length c, .int .i64 (m : Int)] w fun e w' =>
      e = .returned (.slice (some ⟨w.heap.size, 0, none⟩) (l.length + m) (l.length + m)) ∧
        w'.heap[w.heap.size]? = some (.cells (bvs (l ++ List.replicate m 0)).toArray 5 (0, 0)) ∧ Ext w w' := by
  have hmk := fun W => run_make_row' (P := Try.prog) 39 5 (.int .u8 0) 1 Try.underlying39 infoByte rfl .i64 .i64 (l.length + m) (by omega) (by omega) W
  rw [show ((l.length + m : Nat) : Int) = (l.length : Int) + (m : Int) from by omega] at hmk
  have hrow : (w.alloc (.cells (madeCells #[Value.int .u8 0] (l.length + m)) 5)).heap[w.heap.size]? = some (.cells (bvs (List.replicate (l.length + m) 0)).toArray 5 (0, 0)) := by
    rw [heap_alloc_new, bvs_zeros]
    congr 2
    rw [← toList_madeCells_one, Array.toArray_toList]
  obtain ⟨cs, hcs⟩ : ∃ cs, cs = bvs l := ⟨_, rfl⟩
  have hcl : cs.length = l.length := by rw [hcs, bvs_length]
  have HC := hid hcs
  have hl' : Lies w A cs := by rw [hcs]; exact hl
  have h1 : ∀ u ∈ cs, u.oneCell' = true := by rw [hcs]; exact bvs_one l
  have HL := hid hl'
  have H1 := hid h1
  have HN := hid hcl
  have HR := hid hrow
  clear hcs hcl hl' h1 hrow hl
  go_enter Try.func36, Try.ntmps36
  go_wp2_with ((with_reducible show wpList _ _ _ (⟨some 13, _, _, _, _, _⟩ :: _) _ _); refine wpList_copy_splice rfl (.tmp 11) (.tmp 12) _ _ rfl 5 Try.underlying39 (by kernel_rfl) _ _ _ _ _ _ rfl rfl w.heap.size 0 _ 5 HR.out cs ?_ ?_ ?_ H1.out w.heap.size w (Ext.alloc w _) (Nat.le_refl _) ?_)
  · rw [HN.out]; exact (Nat.min_eq_left (by omega)).symm
  · intro hpos
    obtain ⟨ad, ha, hc⟩ := HL.out (by intro e; rw [e] at hpos; simp at hpos)
    exact ⟨ad, ha, fun j v hj => (Ext.alloc w _).cell (hc j v hj)⟩
  · rw [bvs_length, List.length_replicate, HN.out]; omega
  · intro w1 hg1 hb1
    go_wp2
    go_ret
    refine ⟨rfl, ?_, hb1⟩
    rw [hg1.out]
    congr 3
    rw [splice, HC.out]
    simp [bvs]

/-- where k of the n places from off on, the last ones, hold the digits -/
def filled (cur : List UInt8) (off n k u : Nat) : List UInt8 := cur.take (off + (n - k)) ++ (be k u ++ cur.drop (off + n))

theorem filled_zero (cur : List UInt8) (off n u : Nat) : filled cur off n 0 u = cur := by
  simp [filled, be]

theorem filled_step (cur : List UInt8) (off n k u : Nat) (hk : k < n) (h : off + n ≤ cur.length) :
    (filled cur off n k u).set (off + (n - 1 - k)) (UInt8.ofNat (u / 256 ^ k % 256)) = filled cur off n (k + 1) u := by
  have e1 : off + (n - k) = off + (n - 1 - k) + 1 := by omega
  have e2 : off + (n - (k + 1)) = off + (n - 1 - k) := by omega
  unfold filled
  rw [e1, e2, be_left]
  rw [List.take_succ_eq_append_getElem (by omega)]
  rw [List.append_assoc, List.set_append_right _ _ (by simp; omega)]
  have e3 : off + (n - 1 - k) - (cur.take (off + (n - 1 - k))).length = 0 := by simp; omega
  rw [e3]
  simp

theorem filled_length (cur : List UInt8) (off n k u : Nat) (hk : k ≤ n) (h : off + n ≤ cur.length) : (filled cur off n k u).length = cur.length := by
  simp [filled, be_length]; omega

theorem filled_all (cur : List UInt8) (off n u : Nat) : filled cur off n n u = cur.take off ++ (be n u ++ cur.drop (off + n)) := by
  simp [filled]

set_option maxHeartbeats 400000 in
theorem fill_any (g off n c u : Nat) (cur : List UInt8) (w : World) (hn : n ≤ 281474976710656) (hoff : off + n ≤ cur.length) (hu : u ≤ 18446744073709551615)
    (hg : w.heap[g]? = some (.cells (bvs cur).toArray 5 (0, 0))) :
    Calls Try.prog 37 #[.slice (some ⟨g, off, none⟩) n c, .int .u64 (u : Int)] w fun e w' =>
      e = .returned (.tuple #[]) ∧ w'.heap[g]? = some (.cells (bvs (cur.take off ++ (be n u ++ cur.drop (off + n)))).toArray 5 (0, 0)) ∧ w.grownBy w' (some g) := by
  have HG := hid hg
  clear hg
  go_enter Try.func37, Try.ntmps37
  go_wp2
  go_loopw [4, 1] (fun i x wr => ∃ j : Nat, j ≤ n ∧ i = .int .i64 ((j : Int) - 1) ∧ x = .int .u64 ((u / 256 ^ (n - j) : Nat) : Int) ∧ Hid (wr.heap[g]? = some (.cells (bvs (filled cur off n (n - j) u)).toArray 5 (0, 0))) ∧ w.grownBy wr (some g))
    (fun i _ _ => (intOf i + 1).toNat)
  case atStart => exact ⟨n, Nat.le_refl _, rfl, by simp, by rw [Nat.sub_self, filled_zero]; exact HG.out, World.grownBy.refl _ _⟩
  case round =>
    obtain ⟨j, hj, rfl, rfl, hrow, hgr⟩ := hrel
    rcases j with _ | j
    · go_wp2
      go_end0
      refine ⟨rfl, ?_, hgr⟩
      rw [hrow.out, Nat.sub_zero, filled_all]
    · rw [show (((j + 1 : Nat) : Int) - 1) = (j : Int) from by omega]
      obtain ⟨x, hx⟩ : ∃ x : Nat, x = u / 256 ^ (n - (j + 1)) := ⟨_, rfl⟩
      rw [← hx]
      have hxl : x ≤ 18446744073709551615 := by rw [hx]; exact Nat.le_trans (Nat.div_le_self _ _) hu
      have hlen : (filled cur off n (n - (j + 1)) u).length = cur.length := filled_length _ _ _ _ _ (by omega) hoff
      have hin : off + j < (filled cur off n (n - (j + 1)) u).length := by rw [hlen]; omega
      have hcell : wr.cell? ⟨g, off + j, none⟩ = some (bv ((filled cur off n (n - (j + 1)) u)[off + j]'hin)) := by
        rw [cell_of_row wr g _ _ _ _ hrow.out]
        simp [bvs, List.getElem?_eq_getElem hin]
      have hfr : wr.frozen? ⟨g, off + j, none⟩ = false := frozen_of_row wr g _ _ _ hrow.out
      have HX := hid hx
      have HIN := hid hlen
      clear hx hlen
      obtain ⟨old, hold⟩ : ∃ old, old = bv ((filled cur off n (n - (j + 1)) u)[off + j]'hin) := ⟨_, rfl⟩
      rw [← hold] at hcell
      clear hold hin
      go_wp2
      go_roundw
      case rel =>
        refine ⟨j, by omega, rfl, ?_, ?_, ?_⟩
        · rw [show u / 256 ^ (n - j) = x / 256 from by
            rw [HX.out, Nat.div_div_eq_div_mul, ← Nat.pow_succ]
            congr 2
            omega]
          go_num
        · have h1 := heap_setCell_same wr g (off + j) _ 5 (Value.int IntKind.u8 ((x : Int) % 256)) hrow.out
          show _ = _
          rw [h1]
          have h2 := filled_step cur off n (n - (j + 1)) u (by omega) hoff
          rw [show n - 1 - (n - (j + 1)) = j from by omega, show n - (j + 1) + 1 = n - j from by omega, ← HX.out] at h2
          have h3 : Value.int IntKind.u8 ((x : Int) % 256) = bv (UInt8.ofNat (x % 256)) := by
            simp [bv]
          rw [← h2, h3]
          simp [bvs, List.map_set]
        · exact hgr.trans ⟨rfl, rfl, rfl, by simp [World.setCell], fun k _ hk => heap_setCell_other wr _ k _ (fun e => hk (by rw [e]))⟩
      case measure => simp [intOf]
end Go.Proofs.Ytbgapkhcaideiaa

/- octet.Num, octet.Word, octet.Text, by their contracts. Conditions: the reach of a slice. -/
namespace Go.Proofs.Ytbgapkhcaideiaa
open Go Go.RowKit

/-- a pair of bytes and a number is told, and nothing that was there has turned -/
def Told2 (w : World) (p : List UInt8 × Int) (e : Ending) (w' : World) : Prop := ∃ r, e = .returned (.tuple #[r, .int .i64 p.2]) ∧ w'.ownsRow w.heap.size 5 1 r p.1.length (bvs p.1) ∧ Ext w w'

theorem Told2.none' (w w' : World) (e : Int) (p : List UInt8 × Int) (hp : p = ([], e)) (hx : Ext w w') : Told2 w p (.returned (.tuple #[.slice none 0 0, .int .i64 e])) w' := by
  subst hp
  exact ⟨_, rfl, World.ownsRow_nil _ _ _ _, hx⟩

theorem Told2.mk {w w' : World} {p : List UInt8 × Int} {l : List UInt8} {e : Int} {r : Value} {n : Nat} (hp : p = (l, e)) (hb : w'.ownsRow w.heap.size 5 1 r n (bvs l)) (hx : Ext w w') : Told2 w p (.returned (.tuple #[r, .int .i64 e])) w' := by
  subst hp
  exact ⟨r, rfl, own_len hb, hx⟩


theorem grown_of_new {w w1 w2 : World} {g : Nat} (h : Ext w w1) (hg : w1.grownBy w2 (some g)) (hn : w.heap.size ≤ g) : Ext w w2 :=
  h.grown hg (fun k hk => by injection hk with hk; omega)

theorem laid_tail (l : List UInt8) (k n : Nat) : (l ++ List.replicate k 0).take l.length ++ (be k n ++ (l ++ List.replicate k 0).drop (l.length + k)) = l ++ be k n := by
  simp

set_option maxHeartbeats 400000 in
/-- octet.Word -/
theorem word_any (A : Option Addr) (l : List UInt8) (c u : Nat) (w : World) (hl : Lies w A (bvs l)) (hlc : l.length ≤ c) (hlen : l.length ≤ 70368744177664) (hu : u ≤ 18446744073709551615) :
    Calls Try.prog 28 #[.slice A l.length c, .int .u64 (u : Int)] w (Told1 w (l ++ be 8 u)) := by
  have HL := hid hl
  clear hl
  go_enter Try.func28, Try.ntmps28
  go_wp2_with fail
  refine (longer_any A l c 8 w HL.out hlc (by omega)).mono ?_
  rintro e w1 ⟨rfl, hrow, hext⟩
  have HROW := hid hrow
  have HEXT := hid hext
  clear hrow hext
  go_wp2_with fail
  refine (fill_any w.heap.size l.length 8 8 u (l ++ List.replicate 8 0) w1 (by omega) (by simp) (by omega) HROW.out).mono ?_
  rintro e w2 ⟨rfl, hrow2, hg2⟩
  have HROW2 := hid hrow2
  have HG2 := hid hg2
  clear hrow2 hg2
  go_wp2_with fail
  go_ret
  have h2 := HROW2.out
  rw [laid_tail] at h2
  have h3 := own_row (base := w.heap.size) h2 (Nat.le_refl _) (by simp [be_length, maxLen]; omega)
  rw [List.length_append, be_length] at h3
  exact Told1.mk h3 (grown_of_new HEXT.out HG2.out (Nat.le_refl _))

end Go.Proofs.Ytbgapkhcaideiaa

/- Append onto an empty row of one's own, whose cells are new then; rows of one's own in later worlds. Conditions: the reach of a slice. -/
namespace Go.Proofs.Ytbgapkhcaideiaa
open Go Go.RowKit

theorem own_later {w w' : World} {base : Nat} {e : TypeId} {size n : Nat} {v : Value} {xs : List Value} (h : w.ownsRow base e size v n xs) (hx : Ext w w') : w'.ownsRow base e size v n xs := by
  refine ⟨h.1, ?_⟩
  rcases h.2 with h1 | ⟨g, cap, cur, hv, hb, hg, h2⟩
  · exact .inl h1
  · exact .inr ⟨g, cap, cur, hv, hb, hx.block hg, h2⟩

theorem own_from {w : World} {base base' : Nat} {e : TypeId} {size n : Nat} {v : Value} {xs : List Value} (h : w.ownsRow base' e size v n xs) (hb : base ≤ base') : w.ownsRow base e size v n xs := by
  refine ⟨h.1, ?_⟩
  rcases h.2 with h1 | ⟨g, cap, cur, hv, hb', h2⟩
  · exact .inl h1
  · exact .inr ⟨g, cap, cur, hv, Nat.le_trans hb hb', h2⟩

end Go.Proofs.Ytbgapkhcaideiaa

