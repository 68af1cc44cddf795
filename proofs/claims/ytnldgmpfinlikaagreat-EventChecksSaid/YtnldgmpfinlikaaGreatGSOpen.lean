/- Several texts in one: SOpen, SOpen2. Conditions: those of each. -/
import Derived.Deep.SlicePairs
import Derived.Deep.Slices
import Derived.Test.YtnldgmpfinlikaaGreatLaw
import Derived.Test.YtnldgmpfinlikaaGreatBase
import Derived.Test.YtnldgmpfinlikaaGreatGSR1
import Derived.Test.YtnldgmpfinlikaaGreatVLaw
/- Types and values that came in, opened. Conditions: none. -/
namespace Go.Proofs.YtnldgmpfinlikaaGreat
open Go Go.RowKit Go.ChangeShapes Go.WideShapes Go.ChangeAt Go.Deep

/-- an address behind which a cell lies -/
theorem addr_of {w : World} {a : Addr} {v : Value} (h : w.cell? (a.add 0) = some v) : ∃ g o, a = ⟨g, o, none⟩ := by
  obtain ⟨b, off, spot⟩ := a
  have hspot : spot = none := by simpa [Addr.add] using World.cell?_spot h
  subst hspot
  exact ⟨b, off, rfl⟩

section opened
variable {H : Type} {enc : TypeId × Value → H} {W : World}

theorem list_of {α : Type} (n : Nat) (p : Nat → α → Prop) (h : ∀ i, i < n → ∃ x, p i x) : ∃ L : List α, L.length = n ∧ ∀ i (hi : i < L.length), p i L[i] := by
  induction n with
  | zero => exact ⟨[], rfl, fun i hi => absurd hi (Nat.not_lt_zero _)⟩
  | succ n ih =>
    obtain ⟨L, hl, hL⟩ := ih (fun i hi => h i (Nat.lt_succ_of_lt hi))
    obtain ⟨x, hx⟩ := h n (Nat.lt_succ_self n)
    refine ⟨L ++ [x], by simp [hl], fun i hi => ?_⟩
    by_cases hin : i < L.length
    · rw [List.getElem_append_left hin]; exact hL i hin
    · have : i = n := by simp at hi; omega
      subst this
      rw [List.getElem_append_right (by omega)]
      simp only [hl, Nat.sub_self, List.getElem_cons_zero]
      exact hx

theorem open_fields {fuel : Nat} {v : Value} {x : DataW H × List MemPlace} (h : DataW.trod enc Tryz.prog W 0 (fun _ => true) true fuel 60 [v] = some x) : ∃ F, FieldsAt W v F ∧ FieldsOk F := by
  rcases open_slice_pairs Tryz.underlying60 Tryz.underlying64 (by kernel_rfl) rfl rfl (by kernel_rfl) (by kernel_rfl) h with ⟨hcs, _⟩ | ⟨a, len, cap, m, n, V0, V1, D0, D1, P0, P1, hcs, _, hl, hm, hmm, _, hc⟩
  · cases hcs
    exact ⟨[], FieldsAt.nil _, fun _ h => by cases h⟩
  · cases hcs
    rw [if_pos rfl] at hmm
    subst hmm
    obtain ⟨F, hF, hFF⟩ := list_of len (fun i (f : FZ) => FieldOk f ∧ ∃ g o, a = ⟨g, o, none⟩ ∧ W.cell? ⟨g, o + i * 2, none⟩ = some (.string f.n) ∧ W.cell? ⟨g, o + i * 2 + 1, none⟩ = some (.int .u8 (f.k : Int))) (fun i hi => by
      obtain ⟨g, o, rfl⟩ := addr_of (by have := (hc 0 (by omega)).1; rwa [Nat.zero_mul] at this)
      obtain ⟨c0, c1, t0, t1⟩ := hc i (by omega)
      rw [Addr.add_lit] at c0 c1
      rw [← Nat.add_assoc] at c1
      obtain ⟨s, e0, _, hs⟩ := DataW.trod_string Tryz.underlying9 t0
      obtain ⟨k, e1, _, hk⟩ := DataW.trod_int Tryz.underlying5 t1
      obtain ⟨k0, k1⟩ := bounds_u8 hk
      rw [show V0 i = .string s by simpa using e0] at c0
      rw [show V1 i = .int .u8 k by simpa using e1] at c1
      refine ⟨⟨s, k.toNat⟩, ⟨?_, ?_⟩, g, o, rfl, c0, ?_⟩
      · unfold maxLen at hs; show s.size ≤ _; omega
      · show k.toNat ≤ 255; omega
      · rw [c1]
        exact congrArg (fun x : Int => some (Value.int .u8 x)) (show k = ((k.toNat : Nat) : Int) by omega))
    subst hF
    refine ⟨F, ⟨some a, m, rfl, hl, hm, fun i hi => ?_⟩, fun f hf => ?_⟩
    · obtain ⟨_, g, o, h1, h2, h3⟩ := hFF i hi
      exact ⟨g, o, by rw [h1], h2, h3⟩
    · obtain ⟨i, hi, rfl⟩ := List.getElem_of_mem hf
      exact (hFF i hi).1

theorem open_types {fuel : Nat} {v : Value} {x : DataW H × List MemPlace} (h : DataW.trod enc Tryz.prog W 0 (fun _ => true) true fuel 22 [v] = some x) : ∃ L, TypesAt W v L ∧ TypesOk L := by
  rcases open_slice_pairs Tryz.underlying22 Tryz.underlying62 (by kernel_rfl) rfl rfl (by kernel_rfl) (by kernel_rfl) h with ⟨hcs, _⟩ | ⟨a, len, cap, m, n, V0, V1, D0, D1, P0, P1, hcs, _, hl, hm, hmm, _, hc⟩
  · cases hcs
    exact ⟨[], TypesAt.nil _, fun _ h => by cases h⟩
  · cases hcs
    rw [if_pos rfl] at hmm
    subst hmm
    obtain ⟨F, hF, hFF⟩ := list_of len (fun i (t : TZ) => TypeOk t ∧ ∃ g o r, a = ⟨g, o, none⟩ ∧ W.cell? ⟨g, o + i * 2, none⟩ = some (.string t.n) ∧ W.cell? ⟨g, o + i * 2 + 1, none⟩ = some r ∧ FieldsAt W r t.f) (fun i hi => by
      obtain ⟨g, o, rfl⟩ := addr_of (by have := (hc 0 (by omega)).1; rwa [Nat.zero_mul] at this)
      obtain ⟨c0, c1, t0, t1⟩ := hc i (by omega)
      rw [Addr.add_lit] at c0 c1
      rw [← Nat.add_assoc] at c1
      obtain ⟨s, e0, _, hs⟩ := DataW.trod_string Tryz.underlying9 t0
      obtain ⟨F, hF1, hF2⟩ := open_fields t1
      rw [show V0 i = .string s by simpa using e0] at c0
      refine ⟨⟨s, F⟩, ⟨?_, hF2⟩, g, o, _, rfl, c0, c1, hF1⟩
      unfold maxLen at hs; show s.size ≤ _; omega)
    subst hF
    refine ⟨F, ⟨some a, m, rfl, hl, hm, fun i hi => ?_⟩, fun f hf => ?_⟩
    · obtain ⟨_, g, o, r, h1, h2, h3, h4⟩ := hFF i hi
      exact ⟨g, o, r, by rw [h1], h2, h3, h4⟩
    · obtain ⟨i, hi, rfl⟩ := List.getElem_of_mem hf
      exact (hFF i hi).1
end opened
end Go.Proofs.YtnldgmpfinlikaaGreat

/- Values that came in, opened. Conditions: none. -/
namespace Go.Proofs.YtnldgmpfinlikaaGreat
open Go Go.RowKit Go.ChangeShapes Go.WideShapes Go.ChangeAt Go.Deep

theorem open_vals {H : Type} {enc : TypeId × Value → H} {W : World} {fuel : Nat} {v : Value} {x : DataW H × List MemPlace} (h : DataW.trod enc Tryz.prog W 0 (fun _ => true) true fuel 23 [v] = some x) : ∃ V, ValsAt W v V ∧ ValsOk V := by
  have ce : Tryz.prog.cellsOf 47 = 4 := by kernel_rfl
  rcases open_slice Tryz.underlying23 h with ⟨hcs, _⟩ | ⟨a, len, cap, m, n, D, Pl, hcs, _, hl, hm, hmm, _, hx⟩
  · cases hcs
    exact ⟨[], ⟨none, 0, rfl, Nat.le_refl _, by unfold maxLen; omega, fun _ h => absurd h (Nat.not_lt_zero _)⟩, fun _ h => by cases h⟩
  · cases hcs
    rw [if_pos rfl] at hmm
    subst hmm
    have each : ∀ i, i < m → ∃ c0 c1 c2 c3, W.cell? (a.add (i * 4)) = some c0 ∧ W.cell? (a.add (i * 4 + 1)) = some c1 ∧ W.cell? (a.add (i * 4 + 2)) = some c2 ∧ W.cell? (a.add (i * 4 + 3)) = some c3 ∧
        DataW.trod enc Tryz.prog W 0 (fun _ => true) true n 47 [c0, c1, c2, c3] = some (D i, Pl i) := by
      intro i hi
      obtain ⟨cs', h1, h2⟩ := hx i hi
      rw [ce] at h1
      obtain ⟨_, hlen, hcell⟩ := World.cells?_some h1
      match cs', hlen with
      | [c0, c1, c2, c3], _ =>
        have e0 := hcell 0 (by omega)
        have e1 := hcell 1 (by omega)
        have e2 := hcell 2 (by omega)
        have e3 := hcell 3 (by omega)
        rw [add_two] at e0 e1 e2 e3
        exact ⟨c0, c1, c2, c3, by simpa using e0, by simpa using e1, by simpa using e2, by simpa using e3, h2⟩
    obtain ⟨V, hV, hVV⟩ := list_of len (fun i (u : VZ) => ValOk u ∧ ∃ g o, a = ⟨g, o, none⟩ ∧ W.cell? ⟨g, o + i * 4, none⟩ = some (.int .u8 (u.k : Int)) ∧ W.cell? ⟨g, o + i * 4 + 1, none⟩ = some (.int .i64 u.n) ∧ W.cell? ⟨g, o + i * 4 + 2, none⟩ = some (.int .u64 (u.b : Int)) ∧ W.cell? ⟨g, o + i * 4 + 3, none⟩ = some (.string u.t)) (fun i hi => by
      obtain ⟨g, o, rfl⟩ : ∃ g o, a = ⟨g, o, none⟩ := by
        obtain ⟨c0, _, _, _, h0, _⟩ := each 0 (by omega)
        rw [Nat.zero_mul] at h0
        exact addr_of h0
      obtain ⟨c0, c1, c2, c3, q0, q1, q2, q3, ht⟩ := each i (by omega)
      rw [Addr.add_lit] at q0 q1 q2 q3
      rw [← Nat.add_assoc] at q1 q2 q3
      obtain ⟨k, n2, b, t, rfl, rfl, rfl, rfl, hk, hn0, hn1, hb, hts⟩ := cells_value ht
      exact ⟨⟨k, n2, b, t⟩, ⟨hk, hn0, hn1, hb, hts⟩, g, o, rfl, q0, q1, q2, q3⟩)
    subst hV
    refine ⟨V, ⟨some a, m, rfl, hl, hm, fun i hi => ?_⟩, fun f hf => ?_⟩
    · obtain ⟨_, g, o, h1, h2, h3, h4, h5⟩ := hVV i hi
      exact ⟨g, o, by rw [h1], h2, h3, h4, h5⟩
    · obtain ⟨i, hi, rfl⟩ := List.getElem_of_mem hf
      exact (hVV i hi).1
end Go.Proofs.YtnldgmpfinlikaaGreat

