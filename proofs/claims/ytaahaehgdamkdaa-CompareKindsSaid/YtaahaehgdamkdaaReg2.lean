/- A region that draws its order and ends in a tail whose order is forced: the first n operations slot by slot, the tail as it stands. Conditions: none beyond those that the theorem states. -/
import Derived.Test.YtaahaehgdamkdaaReg
import Derived.Tactics
namespace Go.Proofs.Ytaahaehgdamkdaa
open Go Go.RowKit

/-- the tail from n on: each waits for the one ahead of it, the first one for all ahead, be it through others that wait -/
def tailB (ops : Array Oper) (n : Nat) : Bool :=
  decide (n ≤ ops.size) && (List.range ops.size).all fun i => match ops[i]? with
    | none => true
    | some o => if i < n then true else if i = n then (List.range n).all (fun j => (List.range (n + 1)).any fun k => decide (j < k) && (match ops[k]? with | none => false | some o' => o'.after.any fun e => e.on == j && Region.binds .any e)) else o.after.any fun e => e.on == i - 1 && Region.binds .any e

/-- slot of operation k, one of the first n -/
def ndst (ops : Array Oper) (n k : Nat) : Option Tmp := if k < n then rdst ops k else none

/-- edges point back; among the first n: no operand is another one's slot unless it waits for that one; slots are apart -/
def headB (ops : Array Oper) (n m : Nat) : Bool :=
  Region.noSelect ops && decide (n ≤ ops.size) &&
  (List.range ops.size).all fun i => match ops[i]? with
    | none => true
    | some o =>
      (o.after.all fun e => !Region.binds .any e || decide (e.on < i)) &&
      (decide (n ≤ i) || ((match o.dst with
       | none => true
       | some d => decide (d < m) && (List.range n).all fun k => k == i || ndst ops n k != some d) &&
      (o.looksAt ops).all fun t => (List.range n).all fun k => ndst ops n k != some t || o.after.any fun e => e.on == k && Region.binds .any e))

theorem headB_edge {ops : Array Oper} {n m : Nat} (h : headB ops n m = true) : ∀ i o, ops[i]? = some o → ∀ e ∈ o.after, Region.binds .any e = true → e.on < i := by
  intro i o ho e he hb
  simp only [headB, Bool.and_eq_true, List.all_eq_true, List.mem_range] at h
  have h1 := h.2 i (Array.getElem?_eq_some_iff.1 ho).1
  rw [ho] at h1
  simp only [Bool.and_eq_true] at h1
  have h2 := Array.all_eq_true'.1 h1.1 e he
  simpa [hb] using h2

theorem ndst_lt {ops : Array Oper} {n k : Nat} {t : Tmp} (h : ndst ops n k = some t) : k < n ∧ rdst ops k = some t := by
  unfold ndst at h
  split at h
  · exact ⟨by assumption, h⟩
  · cases h

theorem headB_slot {ops : Array Oper} {n m : Nat} (h : headB ops n m = true) {i k : Nat} {o : Oper} {d : Tmp} (hi : i < n) (ho : ops[i]? = some o) (hd : o.dst = some d) : d < m ∧ (ndst ops n k = some d → k = i) := by
  simp only [headB, Bool.and_eq_true, List.all_eq_true, List.mem_range] at h
  have h1 := h.2 i (Array.getElem?_eq_some_iff.1 ho).1
  rw [ho] at h1
  simp only [Bool.and_eq_true, hd, Bool.or_eq_true, decide_eq_true_eq] at h1
  rcases h1.2 with h2 | h2
  · omega
  · refine ⟨h2.1.1, fun hk => ?_⟩
    have h3 := List.all_eq_true.1 h2.1.2 k (List.mem_range.2 (ndst_lt hk).1)
    simpa [hk] using h3

theorem headB_sees {ops : Array Oper} {n m : Nat} (h : headB ops n m = true) {i k : Nat} {o : Oper} {t : Tmp} (hi : i < n) (ho : ops[i]? = some o) (ht : t ∈ o.looksAt ops) (hk : ndst ops n k = some t) :
    ∃ e ∈ o.after, e.on = k ∧ Region.binds .any e = true := by
  simp only [headB, Bool.and_eq_true, List.all_eq_true, List.mem_range] at h
  have h1 := h.2 i (Array.getElem?_eq_some_iff.1 ho).1
  rw [ho] at h1
  simp only [Bool.and_eq_true, Bool.or_eq_true, decide_eq_true_eq] at h1
  rcases h1.2 with h2 | h2
  · omega
  · have h3 := List.all_eq_true.1 (List.all_eq_true.1 h2.2 t ht) k (List.mem_range.2 (ndst_lt hk).1)
    simp only [hk, bne_self_eq_false, Bool.false_or] at h3
    obtain ⟨e, he, hh⟩ := Array.any_eq_true'.1 h3
    simp only [Bool.and_eq_true, beq_iff_eq] at hh
    exact ⟨e, he, hh.1, hh.2⟩

theorem wpOp_of_wanted {P : Program} {ops : Array Oper} {Q : Exit → Act → World → Prop} {i : Nat} {o : Oper} {K : Act → World → Prop} {a : Act} {w : World} (ho : ops[i]? = some o)
    (h : if Region.wanted o (yielded ops a.tmps) then o.wp P a w K Q ∨ (o.asks P a w ∧ LetsOut Q) else K (a.put o.dst undef) w) : wpOp P ops Q i K a w := by
  unfold wpOp
  simp only [ho]
  exact h

/-- the tail runs in its order -/
theorem wpAny_tail {P : Program} {ops : Array Oper} {Q : Exit → Act → World → Prop} {n : Nat} (hT : tailB ops n = true) (hE : ∀ i o, ops[i]? = some o → ∀ e ∈ o.after, Region.binds .any e = true → e.on < i) :
    ∀ (l : List Oper) (m : Nat) (fuel : Nat) (listed : Array Bool) (a : Act) (w : World), n ≤ m → l = ops.toList.drop m → listed.size = ops.size → (∀ i, i < ops.size → listed.getD i false = decide (i < m)) → ops.size ≤ m + fuel →
      wpList P ops Q l a w → wpAny P .any ops Q fuel listed a w := by
  simp only [tailB, Bool.and_eq_true, decide_eq_true_eq, List.all_eq_true, List.mem_range] at hT
  intro l
  induction l with
  | nil =>
    intro m fuel listed a w hnm hl hs hd hf h
    have hm : ops.size ≤ m := by
      have := congrArg List.length hl
      simp only [List.length_nil, List.length_drop, Array.length_toList] at this
      omega
    have hr : Region.ready .any ops listed = [] := by
      refine List.eq_nil_iff_forall_not_mem.2 fun j hj => ?_
      obtain ⟨h0, o, ho, _⟩ := mem_ready.1 hj
      have hj' : j < ops.size := (Array.getElem?_eq_some_iff.1 ho).1
      have h1 := hd j hj'
      have hj'' : j < listed.size := by omega
      rw [Array.getD_eq_getD_getElem?, Array.getElem?_eq_getElem hj''] at h0 h1
      simp only [Option.getD_some] at h0 h1
      rw [h0] at h1
      simp at h1
      omega
    cases fuel with
    | zero => exact ⟨hr, h⟩
    | succ fuel => exact ⟨fun _ => h, fun i hi => by rw [hr] at hi; cases hi⟩
  | cons o l ih =>
    intro m fuel listed a w hnm hl hs hd hf h
    have hml : m < ops.size := by
      have := congrArg List.length hl
      simp only [List.length_cons, List.length_drop, Array.length_toList] at this
      omega
    have ho : ops[m]? = some o := by
      have h1 := congrArg (fun l => l[0]?) hl
      simp only [List.getElem?_cons_zero, List.getElem?_drop, Nat.add_zero, Array.getElem?_toList] at h1
      exact h1.symm
    have hl' : l = ops.toList.drop (m + 1) := by
      have h1 := congrArg List.tail hl
      simpa [List.tail_drop] using h1
    cases fuel with
    | zero => omega
    | succ fuel =>
      have honly : ∀ i ∈ Region.ready .any ops listed, i = m := by
        intro i hi
        obtain ⟨h0, oi, hoi, hall⟩ := mem_ready.1 hi
        have hi' : i < ops.size := (Array.getElem?_eq_some_iff.1 hoi).1
        have h1 := hd i hi'
        have hi'' : i < listed.size := by omega
        rw [Array.getD_eq_getD_getElem?, Array.getElem?_eq_getElem hi''] at h0 h1
        simp only [Option.getD_some] at h0 h1
        rw [h0] at h1
        have him : ¬ i < m := by simpa using h1
        rcases Nat.lt_or_ge m i with hlt | hge
        · exfalso
          have hb := hT.2 i hi'
          rw [hoi] at hb
          simp only at hb
          rw [if_neg (by omega), if_neg (by omega)] at hb
          obtain ⟨e, he, hh⟩ := Array.any_eq_true'.1 hb
          simp only [Bool.and_eq_true, beq_iff_eq] at hh
          have h2 := hall e he hh.2
          rw [hh.1, hd (i - 1) (by omega)] at h2
          simp at h2
          omega
        · omega
      refine ⟨fun hr => ?_, fun i hi => ?_⟩
      · exfalso
        have hmem : m ∈ Region.ready .any ops listed := by
          rw [mem_ready]
          have hm'' : m < listed.size := by omega
          have h1 := hd m hml
          refine ⟨?_, o, ho, fun e he hb => ?_⟩
          · rw [Array.getD_eq_getD_getElem?, Array.getElem?_eq_getElem hm''] at h1 ⊢
            simpa using h1
          · have hlt := hE m o ho e he hb
            rw [hd e.on (by omega)]
            simpa using hlt
        rw [hr] at hmem
        cases hmem
      · have him := honly i hi
        subst him
        refine wpOp_of_wanted ho ?_
        have hstep : ∀ a' w', wpList P ops Q l a' w' → wpAny P .any ops Q fuel (listed.setIfInBounds i true) a' w' := fun a' w' hh =>
          ih (i + 1) fuel _ a' w' (by omega) hl' (by simpa using hs) (fun j hj => by
            by_cases hji : j = i
            · subst hji
              rw [Array.getD_eq_getD_getElem?, Array.getElem?_setIfInBounds_self_of_lt (by omega)]
              simp
            · rw [getD_set_ne false (Ne.symm hji), hd j hj]
              have : (j < i) ↔ (j < i + 1) := by omega
              simp [this]) (by omega) hh
        unfold wpList at h
        by_cases hw : Region.wanted o (yielded ops a.tmps) = true
        · rw [if_pos hw] at h ⊢
          exact h.imp (Oper.wp_mono hstep) id
        · rw [if_neg hw] at h ⊢
          exact hstep _ _ h

/-- what holds while the first n come up -/
structure NInv (ops : Array Oper) (n : Nat) (Le : World → World → Prop) (G : Nat → Value → World → Prop) (a0 : Act) (w0 : World) (listed : Array Bool) (a : Act) (w : World) : Prop where
  le : Le w0 w
  defers : a.defers = a0.defers
  size : a.tmps.size = a0.tmps.size
  frame : ∀ t, (∀ k, ndst ops n k ≠ some t) → a.tmps[t]?.getD undef = a0.tmps[t]?.getD undef
  typed : ∀ k t, listed.getD k false = true → ndst ops n k = some t → G k (a.tmps[t]?.getD undef) w
  closed : ∀ k o, listed.getD k false = true → ops[k]? = some o → ∀ e ∈ o.after, Region.binds .any e = true → listed.getD e.on false = true

theorem listed_mono {listed : Array Bool} {i j : Nat} (h : listed.getD j false = true) : (listed.setIfInBounds i true).getD j false = true := by
  by_cases hij : i = j
  · subst hij
    rcases Nat.lt_or_ge i listed.size with h1 | h1
    · rw [Array.getD_eq_getD_getElem?, Array.getElem?_setIfInBounds_self_of_lt h1]
      rfl
    · rw [Array.getD_eq_getD_getElem?, Array.getElem?_eq_none h1] at h
      cases h
  · rw [getD_set_ne false hij]
    exact h

theorem NInv.step {ops : Array Oper} {n : Nat} {Le : World → World → Prop} {G : Nat → Value → World → Prop} {a0 : Act} {w0 : World} {listed : Array Bool} {a : Act} {w w' : World} {i : Nat} {o : Oper} {v : Value}
    (htr : ∀ {x y z : World}, Le x y → Le y z → Le x z) (hst : ∀ k u x y, G k u x → Le x y → G k u y)
    (hB : headB ops n a0.tmps.size = true) (hi : i < n) (ho : ops[i]? = some o)
    (h : NInv ops n Le G a0 w0 listed a w) (hle : Le w w') (hv : G i v w') (hed : ∀ e ∈ o.after, Region.binds .any e = true → listed.getD e.on false = true) : NInv ops n Le G a0 w0 (listed.setIfInBounds i true) (a.put o.dst v) w' := by
  have hg : ∀ (x : Array Value) (t : Nat), x[t]?.getD undef = x.getD t undef := fun x t => (Array.getD_eq_getD_getElem? ..).symm
  have hnd : ndst ops n i = o.dst := by unfold ndst rdst; rw [if_pos hi, ho]; rfl
  refine ⟨htr h.le hle, (put_defs _ _ _).trans h.defers, (put_size _ _ _).trans h.size, fun t ht => ?_, fun k t hk hkt => ?_, fun k o' hk hko e he hb => ?_⟩
  · rw [hg, put_getD_other _ _ _ _ (fun e => ht i (by rw [hnd]; exact e)), ← hg]
    exact h.frame t ht
  rotate_left
  · by_cases hki : k = i
    · subst hki
      rw [ho] at hko
      obtain rfl := Option.some.inj hko
      exact listed_mono (hed e he hb)
    · exact listed_mono (h.closed k o' (by rwa [getD_set_ne false (Ne.symm hki)] at hk) hko e he hb)
  · by_cases hki : k = i
    · subst hki
      have hd : o.dst = some t := by rw [← hnd]; exact hkt
      have hlt := (headB_slot hB (k := k) hi ho hd).1
      rw [hg, hd, put_getD_same _ _ _ (by rw [h.size]; exact hlt)]
      exact hv
    · have hk' : listed.getD k false = true := by rwa [getD_set_ne false (Ne.symm hki)] at hk
      rw [hg, put_getD_other _ _ _ _ (fun e => hki ((headB_slot hB (k := k) hi ho e).2 hkt)), ← hg]
      exact hst _ _ _ _ (h.typed k t hk' hkt) hle

theorem wpAny_head {P : Program} {ops : Array Oper} {n : Nat} {Q : Exit → Act → World → Prop} {Le : World → World → Prop} {G : Nat → Value → World → Prop} {a0 : Act} {w0 : World}
    (htr : ∀ {x y z : World}, Le x y → Le y z → Le x z) (hle0 : ∀ x, Le x x) (hst : ∀ k u x y, G k u x → Le x y → G k u y)
    (hB : headB ops n a0.tmps.size = true) (hT : tailB ops n = true)
    (hstep : ∀ i o, i < n → ops[i]? = some o → ∀ (a : Act) (w : World), Le w0 w → (∀ t, (∀ k, ndst ops n k ≠ some t) → a.tmps[t]?.getD undef = a0.tmps[t]?.getD undef) →
      (∀ k t, ndst ops n k = some t → t ∈ o.looksAt ops → G k (a.tmps[t]?.getD undef) w) → RStep P ops Le G i o a w)
    (hpost : ∀ a w, Le w0 w → a.defers = a0.defers → a.tmps.size = a0.tmps.size → (∀ t, (∀ k, ndst ops n k ≠ some t) → a.tmps[t]?.getD undef = a0.tmps[t]?.getD undef) →
      (∀ k t, ndst ops n k = some t → G k (a.tmps[t]?.getD undef) w) → wpList P ops Q (ops.toList.drop n) a w) :
    ∀ (fuel : Nat) (listed : Array Bool) (a : Act) (w : World), listed.size = ops.size → (∀ i, n ≤ i → i < ops.size → listed.getD i false = false) → listed.count false ≤ fuel →
      NInv ops n Le G a0 w0 listed a w → wpAny P .any ops Q fuel listed a w := by
  have hE := headB_edge hB
  have hT' := hT
  simp only [tailB, Bool.and_eq_true, decide_eq_true_eq, List.all_eq_true, List.mem_range] at hT'
  have alldone : ∀ (fuel : Nat) (listed : Array Bool) (a : Act) (w : World), listed.size = ops.size → (∀ i, n ≤ i → i < ops.size → listed.getD i false = false) → (∀ i, i < n → listed.getD i false = true) → ops.size ≤ n + fuel →
      NInv ops n Le G a0 w0 listed a w → wpAny P .any ops Q fuel listed a w := by
    intro fuel listed a w hs ht hl hf h
    refine wpAny_tail hT hE _ n fuel listed a w (Nat.le_refl _) rfl hs (fun i hi => ?_) hf (hpost a w h.le h.defers h.size h.frame (fun k t hk => h.typed k t (hl k (ndst_lt hk).1) hk))
    by_cases hin : i < n
    · rw [hl i hin]; simp [hin]
    · rw [ht i (by omega) hi]; simp [hin]
  intro fuel
  induction fuel with
  | zero =>
    intro listed a w hs ht hcnt h
    have hl : ∀ i, i < ops.size → listed.getD i false = true := by
      intro i hi
      cases hc : listed.getD i false with
      | true => rfl
      | false =>
        have hi' : i < listed.size := by omega
        have hmem : false ∈ listed := by
          rw [Array.getD_eq_getD_getElem?, Array.getElem?_eq_getElem hi'] at hc
          simp only [Option.getD_some] at hc
          exact hc ▸ Array.getElem_mem hi'
        have := Array.count_pos_iff.2 hmem
        omega
    have hn : ops.size ≤ n := by
      rcases Nat.lt_or_ge n ops.size with h1 | h1
      · have h2 := ht n (Nat.le_refl _) h1
        rw [hl n h1] at h2
        cases h2
      · exact h1
    exact alldone 0 listed a w hs ht (fun i hi => hl i (by omega)) (by omega) h
  | succ fuel ih =>
    intro listed a w hs ht hcnt h
    by_cases hall : ∀ i, i < n → listed.getD i false = true
    · refine alldone (fuel + 1) listed a w hs ht hall ?_ h
      have h1 : ∀ (l : List Bool) (k : Nat), (∀ i, k ≤ i → i < l.length → l[i]? = some false) → l.length - k ≤ l.count false := by
        intro l
        induction l with
        | nil => intro k _; simp
        | cons b l ihl =>
          intro k hk
          cases k with
          | zero =>
            have h0 := hk 0 (Nat.le_refl _) (by simp)
            simp only [List.getElem?_cons_zero, Option.some.injEq] at h0
            have h2 := ihl 0 (fun i _ hi => by have := hk (i + 1) (by omega) (by simp; omega); simpa using this)
            subst h0
            simp only [List.count_cons_self, List.length_cons]
            omega
          | succ k =>
            have h2 := ihl k (fun i hki hi => by have := hk (i + 1) (by omega) (by simp; omega); simpa using this)
            have h3 : l.count false ≤ (b :: l).count false := List.count_le_count_cons
            simp only [List.length_cons]
            omega
      have h2 := h1 listed.toList n (fun i hi1 hi2 => by
        have hi3 : i < listed.size := by simpa using hi2
        have := ht i hi1 (by omega)
        rw [Array.getD_eq_getD_getElem?, Array.getElem?_eq_getElem hi3] at this
        simp only [Option.getD_some] at this
        rw [Array.getElem?_toList, Array.getElem?_eq_getElem hi3, this])
      have h3 : listed.toList.count false = listed.count false := by simp
      rw [h3] at h2
      simp only [Array.length_toList] at h2
      omega
    · -- some of the first n is still to come: the least one is ready, and no tail's operation is
      obtain ⟨m, hm, hmf⟩ : ∃ m, m < n ∧ listed.getD m false = false := by
        refine Classical.byContradiction fun hc => hall fun i hi => ?_
        cases hq : listed.getD i false with
        | true => rfl
        | false => exact absurd ⟨i, hi, hq⟩ hc
      have least : ∀ k, k < n → listed.getD k false = false → ∃ i, i ∈ Region.ready .any ops listed := by
        intro k
        induction k using Nat.strongRecOn with
        | ind k ihk =>
          intro hk hkf
          have hko : k < ops.size := by omega
          by_cases hr : ∀ e ∈ ops[k].after, Region.binds .any e = true → listed.getD e.on false = true
          · refine ⟨k, mem_ready.2 ⟨?_, ops[k], Array.getElem?_eq_getElem hko, hr⟩⟩
            have hkl : k < listed.size := by omega
            rw [Array.getD_eq_getD_getElem?, Array.getElem?_eq_getElem hkl] at hkf ⊢
            exact hkf
          · obtain ⟨e, he, hb, hef⟩ : ∃ e ∈ ops[k].after, Region.binds .any e = true ∧ listed.getD e.on false = false := by
              refine Classical.byContradiction fun hc => hr fun e he hb => ?_
              cases hq : listed.getD e.on false with
              | true => rfl
              | false => exact absurd ⟨e, he, hb, hq⟩ hc
            have hlt := hE k _ (Array.getElem?_eq_getElem hko) e he hb
            exact ihk e.on hlt (by omega) hef
      refine ⟨fun hr => ?_, fun i hi => ?_⟩
      · obtain ⟨i, hi⟩ := least m hm hmf
        rw [hr] at hi
        cases hi
      · obtain ⟨h0, o, ho, hedges⟩ := mem_ready.1 hi
        have hi' : i < ops.size := (Array.getElem?_eq_some_iff.1 ho).1
        have hil : i < listed.size := by omega
        have hin : i < n := by
          rcases Nat.lt_or_ge i n with h1 | h1
          · exact h1
          · exfalso
            have hb := hT'.2 i hi'
            rw [ho] at hb
            simp only at hb
            rw [if_neg (by omega)] at hb
            by_cases hie : i = n
            · rw [if_pos hie] at hb
              have hdown : ∀ d j, n - j = d → j < n → listed.getD j false = true := by
                intro d
                induction d using Nat.strongRecOn with
                | ind d ihd =>
                  intro j hjd hjn
                  have h2 := List.all_eq_true.1 hb j (List.mem_range.2 hjn)
                  obtain ⟨k, hk, hkk⟩ := List.any_eq_true.1 h2
                  rw [Bool.and_eq_true, decide_eq_true_eq] at hkk
                  obtain ⟨hjk, hkk⟩ := hkk
                  have hkn : k < n + 1 := List.mem_range.1 hk
                  cases hko : ops[k]? with
                  | none => rw [hko] at hkk; cases hkk
                  | some o' =>
                    rw [hko] at hkk
                    obtain ⟨e, he, hh⟩ := Array.any_eq_true'.1 hkk
                    simp only [Bool.and_eq_true, beq_iff_eq] at hh
                    by_cases hkn2 : k = n
                    · subst hkn2
                      subst hie
                      rw [ho] at hko
                      obtain rfl := Option.some.inj hko
                      have h3 := hedges e he hh.2
                      rwa [hh.1] at h3
                    · have hkl := ihd (n - k) (by omega) k rfl (by omega)
                      have h3 := h.closed k o' hkl hko e he hh.2
                      rwa [hh.1] at h3
              rw [hdown _ m rfl hm] at hmf
              cases hmf
            · rw [if_neg hie] at hb
              obtain ⟨e, he, hh⟩ := Array.any_eq_true'.1 hb
              simp only [Bool.and_eq_true, beq_iff_eq] at hh
              have h3 := hedges e he hh.2
              rw [hh.1, ht (i - 1) (by omega) (by omega)] at h3
              cases h3
        have hif : listed[i] = false := by
          rw [Array.getD_eq_getD_getElem?, Array.getElem?_eq_getElem hil] at h0
          simpa using h0
        have hs' : (listed.setIfInBounds i true).size = ops.size := by simpa using hs
        have hcnt' : (listed.setIfInBounds i true).count false ≤ fuel := by
          have hpos : 0 < listed.count false := Array.count_pos_iff.2 (hif ▸ Array.getElem_mem hil)
          rw [Array.setIfInBounds_def, dif_pos hil, Array.count_set]
          simp [hif]
          omega
        have ht' : ∀ j, n ≤ j → j < ops.size → (listed.setIfInBounds i true).getD j false = false := by
          intro j hj1 hj2
          rw [getD_set_ne false (by omega)]
          exact ht j hj1 hj2
        have hsees : ∀ k t, ndst ops n k = some t → t ∈ o.looksAt ops → G k (a.tmps[t]?.getD undef) w := by
          intro k t hk htl
          obtain ⟨e, he, hek, hb⟩ := headB_sees hB hin ho htl hk
          exact h.typed k t (hek ▸ hedges e he hb) hk
        have hs1 := hstep i o hin ho a w h.le h.frame hsees
        unfold RStep at hs1
        unfold wpOp
        simp only [ho]
        by_cases hw : Region.wanted o (yielded ops a.tmps) = true
        · rw [if_pos hw] at hs1
          rw [if_pos hw]
          refine Or.inl ?_
          have hmono : o.wp P a w (wpAny P .any ops Q fuel (listed.setIfInBounds i true)) (fun _ _ _ => False) :=
            Oper.wp_mono (fun a' w' ⟨v, hv1, hv2, hv3⟩ => by
              subst hv1
              exact ih _ _ _ hs' ht' hcnt' (h.step htr hst hB hin ho hv2 hv3 hedges)) hs1
          revert hmono
          unfold Oper.wp
          generalize (execOp a.eval o).run P w = r
          intro hmono
          cases r with
          | ok nx w' =>
            cases nx <;> simp only [Oper.upon] at hmono ⊢
            all_goals first
              | exact hmono
              | exact Calls.mono hmono (fun e w'' he => by
                  cases e with
                  | returned v => exact he
                  | panicked c => exact he.elim
                  | outgrown => obtain ⟨_, _, hf⟩ := he; exact hf.elim)
          | halt x w' => cases x <;> simp only [Oper.upon] at hmono
        · rw [if_neg hw] at hs1
          rw [if_neg hw]
          exact ih _ _ _ hs' ht' hcnt' (h.step htr hst hB hin ho (hle0 w) hs1 hedges)

/-- no one of the first n operations writes slot t -/
def nfreeB (ops : Array Oper) (n : Nat) (t : Tmp) : Bool := (List.range n).all fun k => ndst ops n k != some t

theorem nfreeB_spec {ops : Array Oper} {n : Nat} {t : Tmp} (h : nfreeB ops n t = true) : ∀ k, ndst ops n k ≠ some t := by
  intro k hk
  have := List.all_eq_true.1 h k (List.mem_range.2 (ndst_lt hk).1)
  simp [hk] at this

/-- the region by its slots, as far as its tail -/
theorem wp_region_tail {P : Program} {ops : Array Oper} {id : Nat} {Q : Exit → Act → World → Prop} (n : Nat) (Le : World → World → Prop) (G : Nat → Value → World → Prop) {tm : Array Value} {w0 : World}
    (hm : P.follows .mixedOrders = true)
    (htr : ∀ {x y z : World}, Le x y → Le y z → Le x z) (hle0 : ∀ x, Le x x) (hdr : Le w0 w0.drew) (hst : ∀ k u x y, G k u x → Le x y → G k u y)
    (hB : headB ops n tm.size = true) (hT : tailB ops n = true)
    (hstep : ∀ (tmps : Array Value) (df : List Deferred) (w : World), Le w0 w → (∀ t, nfreeB ops n t = true → tmps[t]?.getD undef = tm[t]?.getD undef) →
      ∀ i o, i < n → ops[i]? = some o → (∀ k t, ndst ops n k = some t → (o.looksAt ops).contains t = true → G k (tmps[t]?.getD undef) w) → RStep P ops Le G i o ⟨tmps, df⟩ w)
    (hpost : ∀ tmps w, Le w0 w → tmps.size = tm.size → (∀ t, nfreeB ops n t = true → tmps[t]?.getD undef = tm[t]?.getD undef) →
      (∀ k t, ndst ops n k = some t → G k (tmps[t]?.getD undef) w) → wpList P ops Q (ops.toList.drop n) ⟨tmps, []⟩ w) :
    (Code.region id ops true).wp P Q ⟨tm, []⟩ w0 := by
  refine wp_region_any hm (wpAny_head (n := n) (Le := Le) (G := G) (a0 := ⟨tm, []⟩) (w0 := w0) htr hle0 hst hB hT ?_ ?_ ops.size _ ⟨tm, []⟩ w0.drew (by simp) ?_ (by simp) ⟨hdr, rfl, rfl, fun _ _ => rfl, fun k t hk _ => ?_, fun k o hk _ => ?_⟩)
  · intro i o hi ho a w hle hfr hty
    obtain ⟨tmps, df⟩ := a
    exact hstep tmps df w hle (fun t ht => hfr t (nfreeB_spec ht)) i o hi ho (fun k t hk ht => hty k t hk (by simpa using ht))
  · intro a w hle hd hsz hfr hty
    obtain ⟨tmps, df⟩ := a
    simp only at hd
    subst hd
    exact hpost tmps w hle hsz (fun t ht => hfr t (nfreeB_spec ht)) hty
  · intro i hi1 hi2
    simp only [Array.getD_eq_getD_getElem?, Array.getElem?_replicate]
    split <;> rfl
  · simp only [Array.getD_eq_getD_getElem?, Array.getElem?_replicate] at hk
    split at hk <;> simp at hk
  · simp only [Array.getD_eq_getD_getElem?, Array.getElem?_replicate] at hk
    split at hk <;> simp at hk

/-- the frame behind the head, written out -/
theorem nframe_eq {ops : Array Oper} {n : Nat} {tm tmps : Array Value} (D : List Nat) (hs : tmps.size = tm.size) (hfr : ∀ t, nfreeB ops n t = true → tmps[t]?.getD undef = tm[t]?.getD undef)
    (hD : ((List.range tm.size).all fun t => D.contains t || nfreeB ops n t) = true) :
    tmps = D.foldl (fun acc d => acc.setIfInBounds d (tmps[d]?.getD undef)) tm := by
  have size_fold : ∀ (L : List Nat) (x : Array Value), (L.foldl (fun acc d => acc.setIfInBounds d (tmps[d]?.getD undef)) x).size = x.size := by
    intro L
    induction L with
    | nil => intro x; rfl
    | cons d L ih => intro x; simp [ih]
  have get_fold : ∀ (L : List Nat) (x : Array Value) (t : Nat), t < x.size →
      (L.foldl (fun acc d => acc.setIfInBounds d (tmps[d]?.getD undef)) x)[t]? = if t ∈ L then some (tmps[t]?.getD undef) else x[t]? := by
    intro L
    induction L with
    | nil => intro x t _; simp
    | cons d L ih =>
      intro x t ht
      rw [List.foldl_cons, ih _ t (by simpa using ht)]
      by_cases h1 : t ∈ L
      · simp [h1]
      · by_cases h2 : d = t
        · subst h2
          simp [h1, Array.getElem?_setIfInBounds_self_of_lt ht]
        · have h3 : ¬ t = d := fun e => h2 e.symm
          simp [h1, h3, Array.getElem?_setIfInBounds_ne h2]
  apply Array.ext_getElem?
  intro t
  rcases Nat.lt_or_ge t tm.size with ht | ht
  · rw [get_fold D tm t ht]
    have htm : tmps[t]? = some (tmps[t]?.getD undef) := by
      rw [Array.getElem?_eq_getElem (by omega)]; rfl
    by_cases hm : t ∈ D
    · rw [if_pos hm]; exact htm
    · rw [if_neg hm, htm]
      have h1 := List.all_eq_true.1 hD t (List.mem_range.2 ht)
      have h2 : nfreeB ops n t = true := by
        simpa [hm] using h1
      rw [hfr t h2, Array.getElem?_eq_getElem ht]; rfl
  · rw [Array.getElem?_eq_none (by omega), Array.getElem?_eq_none (by rw [size_fold]; exact ht)]

end Go.Proofs.Ytaahaehgdamkdaa
