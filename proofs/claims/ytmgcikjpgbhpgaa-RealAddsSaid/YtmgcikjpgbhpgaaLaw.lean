/- What every law's row wants behind its walk: the arguments read as they did. Conditions: none of its own. -/
import Derived.Test.YtmgcikjpgbhpgaaRows
import Derived.Test.YtmgcikjpgbhpgaaMem
import Derived.ProofKit
import Derived.OpenShut
import Derived.ShutString
import Derived.ChangeOld
import Derived.Below
import Derived.Lib.SmallJoins
namespace Go.Proofs.Ytmgcikjpgbhpgaa
open Go Go.RowKit Go.ChangeShapes Go.WideShapes Go.ChangeAt

theorem law_own : ownKnob Try.prog.godebug = none := by kernel_rfl
theorem law_laid : laidOutB Try.prog = true := by kernel_rfl

/-- all arguments read behind the call as they did -/
theorem law_args {H : Type} {enc : TypeId × Value → H} {P : Program} {W W' : World} (hl : laidOutB P = true) (hb : Below W.heap.size W W') :
    ∀ (ts : List TypeId) (vs : List Value) (ds : List (DataW H)) (ps : List MemPlace), (ts.all fun t => P.readableRec t && decide (t < P.types.size)) = true →
      DataW.TrodAll enc P W 0 (fun _ => true) true ts vs ds ps → (∀ x ∈ ps, x.block < W.heap.size) → DataW.TrodAll enc P W' 0 (fun b => decide (b < W.heap.size)) true ts vs ds ps := by
  intro ts
  induction ts with
  | nil =>
    intro vs ds ps _ h _
    cases vs with
    | nil =>
      cases ds with
      | nil => exact h
      | cons d ds => exact h.elim
    | cons v vs => exact (by cases ds <;> exact h.elim)
  | cons t ts ih =>
    intro vs ds ps ht h hp
    obtain ⟨v, vs', d, ds', p, q, rfl, rfl, rfl, h0, hr⟩ := trodAll_cons h
    simp only [List.all_cons, Bool.and_eq_true, decide_eq_true_eq] at ht
    exact trodAll_cons_mk (Below.trod hl ht.1.1 ht.1.2 h0 hb (fun x hx => hp x (List.mem_append_left _ hx))) (ih vs' ds' q (by simpa using ht.2) hr (fun x hx => hp x (List.mem_append_right _ hx)))

theorem open_pair {P : Program} {H : Type} {enc : TypeId × Value → H} {W : World} {base : Nat} {t e : TypeId} {k : IntKind} {v : Value} {d : DataW H} {p : List MemPlace}
    (ht : P.underlying t = some (.array 2 e)) (he : P.underlying e = some (.int k)) (hce : P.cellsOf e = 1) (hct : P.cellsOf t = 2)
    (hv : Value.okWide P W .any base t v) (h : DataW.Trod enc P W 0 (fun _ => true) true t v d p) :
    ∃ m n, v = .agg #[.int k m, .int k n] ∧ (Lit.int k m).wf = true ∧ (Lit.int k n).wf = true := by
  obtain ⟨cs, rfl, hsz, _⟩ : ∃ cs, v = .agg cs ∧ cs.size = P.cellsOf t ∧ Row.okWide P W .any base t cs := by
    simpa [Value.okWide, ht] using hv
  rw [hct] at hsz
  obtain ⟨l⟩ := cs
  obtain ⟨fuel, hf⟩ := h
  obtain ⟨xs, m, _, hx, hlen, hl, hel⟩ := DataW.trod_array ht hf
  have two : ∃ c0 c1, l = [c0, c1] := by
    match l, hsz with
    | [a, b], _ => exact ⟨a, b, rfl⟩
  obtain ⟨c0, c1, rfl⟩ := two
  have y0 := hel 0 (by omega)
  have y1 := hel 1 (by omega)
  rw [hce] at y0 y1
  have e0 : ∃ y, DataW.trod enc P W 0 (fun _ => true) true m e [c0] = some y := ⟨xs[0]'(by omega), by simpa [Value.cells, List.getElem?_eq_getElem (show 0 < xs.length by omega)] using y0⟩
  have e1 : ∃ y, DataW.trod enc P W 0 (fun _ => true) true m e [c1] = some y := ⟨xs[1]'(by omega), by simpa [Value.cells, List.getElem?_eq_getElem (show 1 < xs.length by omega)] using y1⟩
  obtain ⟨z0, hz0⟩ := e0
  obtain ⟨z1, hz1⟩ := e1
  obtain ⟨a, ea, _, wa⟩ := DataW.trod_int he hz0
  obtain ⟨b, eb, _, wb⟩ := DataW.trod_int he hz1
  simp only [List.cons.injEq, and_true] at ea eb
  subst ea; subst eb
  exact ⟨a, b, rfl, wa, wb⟩

/-- numbers that fit a byte are bytes -/
theorem bytes_of_ints (zs : List Int) (h : ∀ n ∈ zs, (Lit.int .u8 n).wf = true) : ∃ l : List UInt8, l.length = zs.length ∧ zs.map (Value.int .u8) = bvs l := by
  induction zs with
  | nil => exact ⟨[], rfl, rfl⟩
  | cons z zs ih =>
    obtain ⟨l, hl, hv⟩ := ih (fun n hn => h n (List.mem_cons_of_mem _ hn))
    have hz := bounds_u8 (h z List.mem_cons_self)
    refine ⟨UInt8.ofNat z.toNat :: l, by simp [hl], ?_⟩
    rw [List.map_cons, hv]
    have e : Value.int .u8 z = bv (UInt8.ofNat z.toNat) := by
      unfold bv
      congr 1
      have : (UInt8.ofNat z.toNat).toNat = z.toNat % 256 := by simp [UInt8.toNat_ofNat']
      rw [this]
      omega
    rw [e]
    rfl

/-- an argument that is a slice of bytes -/
theorem open_bytes {P : Program} {H : Type} {enc : TypeId × Value → H} {W : World} {base : Nat} {t e : TypeId} {v : Value} {d : DataW H} {p : List MemPlace}
    (ht : P.underlying t = some (.slice e)) (he : P.underlying e = some (.int .u8)) (hce : P.cellsOf e = 1)
    (hv : Value.okWide P W .any base t v) (h : DataW.Trod enc P W 0 (fun _ => true) true t v d p) :
    ∃ A c l, v = .slice A (List.length (α := UInt8) l) c ∧ l.length ≤ c ∧ c ≤ maxLen ∧ Lies W A (bvs l) := by
  obtain ⟨a, len, cap, rfl⟩ := okWide_slice ht hv
  obtain ⟨fuel, hf⟩ := h
  rcases open_ints ht he hce hf with ⟨hcs, _⟩ | ⟨x, n, c, zs, hcs, _, hl, hm, hz, _, hcell, hwz⟩
  · simp [Value.cells] at hcs
    obtain ⟨rfl, rfl, rfl⟩ := hcs
    exact ⟨none, 0, [], rfl, Nat.le_refl _, by simp [maxLen], Lies.nil _ _⟩
  · simp [Value.cells] at hcs
    obtain ⟨rfl, rfl, rfl⟩ := hcs
    have hz' : zs.length = cap := by simpa using hz
    obtain ⟨l, hll, hvl⟩ := bytes_of_ints zs hwz
    refine ⟨some x, cap, l.take len, ?_, ?_, hm, ?_⟩
    · rw [List.length_take, Nat.min_eq_left (by omega)]
    · rw [List.length_take]; omega
    · intro _
      refine ⟨x, rfl, fun j u hu => ?_⟩
      rw [bvs_take, ← hvl, List.getElem?_take] at hu
      split at hu
      · rename_i hj
        have hj2 : j < zs.length := by omega
        rw [hcell j hj2]
        simp only [List.getElem?_map, List.getElem?_eq_getElem hj2, Option.map_some, Option.some.injEq] at hu
        rw [← hu]
        simp [hj2]
      · cases hu

/-- an argument that is a slice of integers of one kind -/
theorem open_ints_lies {P : Program} {H : Type} {enc : TypeId × Value → H} {W : World} {base : Nat} {t e : TypeId} {k : IntKind} {v : Value} {d : DataW H} {p : List MemPlace}
    (ht : P.underlying t = some (.slice e)) (he : P.underlying e = some (.int k)) (hce : P.cellsOf e = 1)
    (hv : Value.okWide P W .any base t v) (h : DataW.Trod enc P W 0 (fun _ => true) true t v d p) :
    ∃ A c zs, v = .slice A (List.length (α := Int) zs) c ∧ zs.length ≤ c ∧ c ≤ maxLen ∧ Lies W A (zs.map (Value.int k)) ∧ ∀ n ∈ zs, (Lit.int k n).wf = true := by
  obtain ⟨a, len, cap, rfl⟩ := okWide_slice ht hv
  obtain ⟨fuel, hf⟩ := h
  rcases open_ints ht he hce hf with ⟨hcs, _⟩ | ⟨x, n, c, zs, hcs, _, hl, hm, hz, _, hcell, hwz⟩
  · simp [Value.cells] at hcs
    obtain ⟨rfl, rfl, rfl⟩ := hcs
    exact ⟨none, 0, [], rfl, Nat.le_refl _, by simp [maxLen], Lies.nil _ _, fun n hn => by cases hn⟩
  · simp [Value.cells] at hcs
    obtain ⟨rfl, rfl, rfl⟩ := hcs
    have hz' : zs.length = cap := by simpa using hz
    refine ⟨some x, cap, zs.take len, ?_, ?_, hm, ?_, fun n hn => hwz n (List.mem_of_mem_take hn)⟩
    · rw [List.length_take, Nat.min_eq_left (by omega)]
    · rw [List.length_take]; omega
    · intro _
      refine ⟨x, rfl, fun j u hu => ?_⟩
      rw [List.map_take, List.getElem?_take] at hu
      split at hu
      · rename_i hj
        have hj2 : j < zs.length := by omega
        rw [hcell j hj2]
        simp only [List.getElem?_map, List.getElem?_eq_getElem hj2, Option.map_some, Option.some.injEq] at hu
        rw [← hu]
        simp [hj2]
      · cases hu

/-- integers from 0 on, as natural numbers -/
theorem nats_of_ints {k : IntKind} (zs : List Int) (m : Nat) (h : ∀ n ∈ zs, 0 ≤ n ∧ n ≤ (m : Int)) : ∃ L : List Nat, L.length = zs.length ∧ zs.map (Value.int k) = L.map (fun (u : Nat) => Value.int k (u : Int)) ∧ ∀ u ∈ L, u ≤ m := by
  induction zs with
  | nil => exact ⟨[], rfl, rfl, fun u hu => by cases hu⟩
  | cons z zs ih =>
    obtain ⟨L, hl, hv, hm⟩ := ih (fun n hn => h n (List.mem_cons_of_mem _ hn))
    have hz := h z List.mem_cons_self
    refine ⟨z.toNat :: L, by simp [hl], ?_, ?_⟩
    · rw [List.map_cons, hv, List.map_cons, Int.toNat_of_nonneg hz.1]
    · intro u hu
      rcases List.mem_cons.1 hu with rfl | hu
      · omega
      · exact hm u hu

end Go.Proofs.Ytmgcikjpgbhpgaa
