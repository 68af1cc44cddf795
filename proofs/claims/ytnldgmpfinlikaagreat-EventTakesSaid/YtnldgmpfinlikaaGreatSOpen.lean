/- Types and values that came in, opened. Conditions: none. -/
import Derived.Test.YtnldgmpfinlikaaGreatLaw
import Derived.Test.YtnldgmpfinlikaaGreatBase
import Derived.Test.YtnldgmpfinlikaaGreatGSR1
import Derived.Deep.SlicePairs
namespace Go.Proofs.YtnldgmpfinlikaaGreat
open Go Go.RowKit Go.ChangeShapes Go.WideShapes Go.ChangeAt Go.Deep

/-- an address behind which a cell lies -/
theorem addr_of {w : World} {a : Addr} {v : Value} (h : w.cell? (a.add 0) = some v) : ∃ g o, a = ⟨g, o, none⟩ := by
  obtain ⟨b, off, spot⟩ := a
  have hspot : spot = none := by simpa [Addr.add] using World.cell?_spot h
  subst hspot
  exact ⟨b, off, rfl⟩

section opened
variable {H : Type} {enc : TypeId × Value → H} {W : World}

theorem list_of {α : Type} (n : Nat) (p : Nat → α → Prop) (h : ∀ i, i < n → ∃ x, p i x) : ∃ L : List α, L.length = n ∧ ∀ i (hi : i < L.length), p i L[i] := by
  induction n with
  | zero => exact ⟨[], rfl, fun i hi => absurd hi (Nat.not_lt_zero _)⟩
  | succ n ih =>
    obtain ⟨L, hl, hL⟩ := ih (fun i hi => h i (Nat.lt_succ_of_lt hi))
    obtain ⟨x, hx⟩ := h n (Nat.lt_succ_self n)
    refine ⟨L ++ [x], by simp [hl], fun i hi => ?_⟩
    by_cases hin : i < L.length
    · rw [List.getElem_append_left hin]; exact hL i hin
    · have : i = n := by simp at hi; omega
      subst this
      rw [List.getElem_append_right (by omega)]
      simp only [hl, Nat.sub_self, List.getElem_cons_zero]
      exact hx

theorem open_fields {fuel : Nat} {v : Value} {x : DataW H × List MemPlace} (h : DataW.trod enc Tryz.prog W 0 (fun _ => true) true fuel 60 [v] = some x) : ∃ F, FieldsAt W v F ∧ FieldsOk F := by
  rcases open_slice_pairs Tryz.underlying60 Tryz.underlying64 (by kernel_rfl) rfl rfl (by kernel_rfl) (by kernel_rfl) h with ⟨hcs, _⟩ | ⟨a, len, cap, m, n, V0, V1, D0, D1, P0, P1, hcs, _, hl, hm, hmm, _, hc⟩
  · cases hcs
    exact ⟨[], FieldsAt.nil _, fun _ h => by cases h⟩
  · cases hcs
    rw [if_pos rfl] at hmm
    subst hmm
    obtain ⟨F, hF, hFF⟩ := list_of len (fun i (f : FZ) => FieldOk f ∧ ∃ g o, a = ⟨g, o, none⟩ ∧ W.cell? ⟨g, o + i * 2, none⟩ = some (.string f.n) ∧ W.cell? ⟨g, o + i * 2 + 1, none⟩ = some (.int .u8 (f.k : Int))) (fun i hi => by
      obtain ⟨g, o, rfl⟩ := addr_of (by have := (hc 0 (by omega)).1; rwa [Nat.zero_mul] at this)
      obtain ⟨c0, c1, t0, t1⟩ := hc i (by omega)
      rw [Addr.add_lit] at c0 c1
      rw [← Nat.add_assoc] at c1
      obtain ⟨s, e0, _, hs⟩ := DataW.trod_string Tryz.underlying9 t0
      obtain ⟨k, e1, _, hk⟩ := DataW.trod_int Tryz.underlying5 t1
      obtain ⟨k0, k1⟩ := bounds_u8 hk
      rw [show V0 i = .string s by simpa using e0] at c0
      rw [show V1 i = .int .u8 k by simpa using e1] at c1
      refine ⟨⟨s, k.toNat⟩, ⟨?_, ?_⟩, g, o, rfl, c0, ?_⟩
      · unfold maxLen at hs; show s.size ≤ _; omega
      · show k.toNat ≤ 255; omega
      · rw [c1]
        exact congrArg (fun x : Int => some (Value.int .u8 x)) (show k = ((k.toNat : Nat) : Int) by omega))
    subst hF
    refine ⟨F, ⟨some a, m, rfl, hl, hm, fun i hi => ?_⟩, fun f hf => ?_⟩
    · obtain ⟨_, g, o, h1, h2, h3⟩ := hFF i hi
      exact ⟨g, o, by rw [h1], h2, h3⟩
    · obtain ⟨i, hi, rfl⟩ := List.getElem_of_mem hf
      exact (hFF i hi).1

theorem open_types {fuel : Nat} {v : Value} {x : DataW H × List MemPlace} (h : DataW.trod enc Tryz.prog W 0 (fun _ => true) true fuel 22 [v] = some x) : ∃ L, TypesAt W v L ∧ TypesOk L := by
  rcases open_slice_pairs Tryz.underlying22 Tryz.underlying62 (by kernel_rfl) rfl rfl (by kernel_rfl) (by kernel_rfl) h with ⟨hcs, _⟩ | ⟨a, len, cap, m, n, V0, V1, D0, D1, P0, P1, hcs, _, hl, hm, hmm, _, hc⟩
  · cases hcs
    exact ⟨[], TypesAt.nil _, fun _ h => by cases h⟩
  · cases hcs
    rw [if_pos rfl] at hmm
    subst hmm
    obtain ⟨F, hF, hFF⟩ := list_of len (fun i (t : TZ) => TypeOk t ∧ ∃ g o r, a = ⟨g, o, none⟩ ∧ W.cell? ⟨g, o + i * 2, none⟩ = some (.string t.n) ∧ W.cell? ⟨g, o + i * 2 + 1, none⟩ = some r ∧ FieldsAt W r t.f) (fun i hi => by
      obtain ⟨g, o, rfl⟩ := addr_of (by have := (hc 0 (by omega)).1; rwa [Nat.zero_mul] at this)
      obtain ⟨c0, c1, t0, t1⟩ := hc i (by omega)
      rw [Addr.add_lit] at c0 c1
      rw [← Nat.add_assoc] at c1
      obtain ⟨s, e0, _, hs⟩ := DataW.trod_string Tryz.underlying9 t0
      obtain ⟨F, hF1, hF2⟩ := open_fields t1
      rw [show V0 i = .string s by simpa using e0] at c0
      refine ⟨⟨s, F⟩, ⟨?_, hF2⟩, g, o, _, rfl, c0, c1, hF1⟩
      unfold maxLen at hs; show s.size ≤ _; omega)
    subst hF
    refine ⟨F, ⟨some a, m, rfl, hl, hm, fun i hi => ?_⟩, fun f hf => ?_⟩
    · obtain ⟨_, g, o, r, h1, h2, h3, h4⟩ := hFF i hi
      exact ⟨g, o, r, by rw [h1], h2, h3, h4⟩
    · obtain ⟨i, hi, rfl⟩ := List.getElem_of_mem hf
      exact (hFF i hi).1
end opened
end Go.Proofs.YtnldgmpfinlikaaGreat
