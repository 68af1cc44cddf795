/- Values that came in, opened. Conditions: none. -/
import Derived.Test.YtggafdimbddflaaSOpen
import Derived.Test.YtggafdimbddflaaVLaw
import Derived.Deep.Slices
namespace Go.Proofs.Ytggafdimbddflaa
open Go Go.RowKit Go.ChangeShapes Go.WideShapes Go.ChangeAt Go.Deep

theorem open_vals {H : Type} {enc : TypeId × Value → H} {W : World} {fuel : Nat} {v : Value} {x : DataW H × List MemPlace} (h : DataW.trod enc Try.prog W 0 (fun _ => true) true fuel 50 [v] = some x) : ∃ V, ValsAt W v V ∧ ValsOk V := by
  have ce : Try.prog.cellsOf 54 = 4 := by kernel_rfl
  rcases open_slice Try.underlying50 h with ⟨hcs, _⟩ | ⟨a, len, cap, m, n, D, Pl, hcs, _, hl, hm, hmm, _, hx⟩
  · cases hcs
    exact ⟨[], ⟨none, 0, rfl, Nat.le_refl _, by unfold maxLen; omega, fun _ h => absurd h (Nat.not_lt_zero _)⟩, fun _ h => by cases h⟩
  · cases hcs
    rw [if_pos rfl] at hmm
    subst hmm
    have each : ∀ i, i < m → ∃ c0 c1 c2 c3, W.cell? (a.add (i * 4)) = some c0 ∧ W.cell? (a.add (i * 4 + 1)) = some c1 ∧ W.cell? (a.add (i * 4 + 2)) = some c2 ∧ W.cell? (a.add (i * 4 + 3)) = some c3 ∧
        DataW.trod enc Try.prog W 0 (fun _ => true) true n 54 [c0, c1, c2, c3] = some (D i, Pl i) := by
      intro i hi
      obtain ⟨cs', h1, h2⟩ := hx i hi
      rw [ce] at h1
      obtain ⟨_, hlen, hcell⟩ := World.cells?_some h1
      match cs', hlen with
      | [c0, c1, c2, c3], _ =>
        have e0 := hcell 0 (by omega)
        have e1 := hcell 1 (by omega)
        have e2 := hcell 2 (by omega)
        have e3 := hcell 3 (by omega)
        rw [add_two] at e0 e1 e2 e3
        exact ⟨c0, c1, c2, c3, by simpa using e0, by simpa using e1, by simpa using e2, by simpa using e3, h2⟩
    obtain ⟨V, hV, hVV⟩ := list_of len (fun i (u : VZ) => ValOk u ∧ ∃ g o, a = ⟨g, o, none⟩ ∧ W.cell? ⟨g, o + i * 4, none⟩ = some (.int .u8 (u.k : Int)) ∧ W.cell? ⟨g, o + i * 4 + 1, none⟩ = some (.int .i64 u.n) ∧ W.cell? ⟨g, o + i * 4 + 2, none⟩ = some (.int .u64 (u.b : Int)) ∧ W.cell? ⟨g, o + i * 4 + 3, none⟩ = some (.string u.t)) (fun i hi => by
      obtain ⟨g, o, rfl⟩ : ∃ g o, a = ⟨g, o, none⟩ := by
        obtain ⟨c0, _, _, _, h0, _⟩ := each 0 (by omega)
        rw [Nat.zero_mul] at h0
        exact addr_of h0
      obtain ⟨c0, c1, c2, c3, q0, q1, q2, q3, ht⟩ := each i (by omega)
      rw [Addr.add_lit] at q0 q1 q2 q3
      rw [← Nat.add_assoc] at q1 q2 q3
      obtain ⟨k, n2, b, t, rfl, rfl, rfl, rfl, hk, hn0, hn1, hb, hts⟩ := cells_value ht
      exact ⟨⟨k, n2, b, t⟩, ⟨hk, hn0, hn1, hb, hts⟩, g, o, rfl, q0, q1, q2, q3⟩)
    subst hV
    refine ⟨V, ⟨some a, m, rfl, hl, hm, fun i hi => ?_⟩, fun f hf => ?_⟩
    · obtain ⟨_, g, o, h1, h2, h3, h4, h5⟩ := hVV i hi
      exact ⟨g, o, by rw [h1], h2, h3, h4, h5⟩
    · obtain ⟨i, hi, rfl⟩ := List.getElem_of_mem hf
      exact (hVV i hi).1
end Go.Proofs.Ytggafdimbddflaa
