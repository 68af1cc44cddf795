/- Append onto an empty row of one's own, whose cells are new then; rows of one's own in later worlds. Conditions: the reach of a slice. -/
import Derived.Test.YtkblpbpmaoofgaaMem3
namespace Go.Proofs.Ytkblpbpmaoofgaa
open Go Go.RowKit

theorem own_later {w w' : World} {base : Nat} {e : TypeId} {size n : Nat} {v : Value} {xs : List Value} (h : w.ownsRow base e size v n xs) (hx : Ext w w') : w'.ownsRow base e size v n xs := by
  refine ⟨h.1, ?_⟩
  rcases h.2 with h1 | ⟨g, cap, cur, hv, hb, hg, h2⟩
  · exact .inl h1
  · exact .inr ⟨g, cap, cur, hv, hb, hx.block hg, h2⟩

theorem own_from {w : World} {base base' : Nat} {e : TypeId} {size n : Nat} {v : Value} {xs : List Value} (h : w.ownsRow base' e size v n xs) (hb : base ≤ base') : w.ownsRow base e size v n xs := by
  refine ⟨h.1, ?_⟩
  rcases h.2 with h1 | ⟨g, cap, cur, hv, hb', h2⟩
  · exact .inl h1
  · exact .inr ⟨g, cap, cur, hv, Nat.le_trans hb hb', h2⟩

theorem run_append_own_empty {P : Program} (w : World) (base : Nat) (t ty e : TypeId) (ht : P.underlying t = some (.slice e)) (hinfo : (P.info? e).map (fun i => (i.zero, i.size, i.bytes)) = some (some (.int .u8 0), 1, 1)) (hbase : base ≤ w.heap.size)
    (g : Nat) (hown : w.ownsRow base e 1 (.slice (some ⟨g, 0, none⟩) 0 0) 0 []) (A : Option Addr) (c : Nat) (l : List UInt8) (hl : Lies w A (bvs l)) (hm : l.length ≤ 140737488355328) :
    ∃ v' w', (Builtin.append_ #[t, t] ty #[.slice (some ⟨g, 0, none⟩) 0 0, .slice A l.length c]).run P w = .ok v' w' ∧ w'.ownsRow base e 1 v' l.length (bvs l) ∧ Ext w w' := by
  obtain ⟨i, hi, hz, hi1, hi2⟩ := info_parts hinfo
  cases l with
  | nil =>
    refine ⟨.slice (some ⟨g, 0, none⟩) 0 0, w, ?_, hown, Ext.refl w⟩
    cases A <;> simp [Builtin.append_, run_underlying ht, sizeOf, typeInfo, hi, Builtin.lenOf, Builtin.firstCells, storeCells, loadCells, loadCellsFrom]
  | cons b l =>
    obtain ⟨ad, rfl, hc⟩ := hl (by simp [bvs])
    have hr := run_append_grow (P := P) w t ty e i (.int .u8 0) ht hi hz ⟨g, 0, none⟩ 0 0 [] (by simp) (fun j v h => by simp at h) ad (b :: l).length c (bvs (b :: l)) (by rw [hi1, bvs_length, Nat.mul_one]) hc (by simp) (by simp only [Nat.zero_add]; omega)
      (growslice_fits (by simp) (by rw [hi2]; simp only [Nat.zero_add, Nat.mul_one]; exact hm))
    refine ⟨_, _, hr, ?_, (Ext.drew w).trans (Ext.alloc _ _)⟩
    have hge := grownCap_ge w (0 + (b :: l).length) 0 e
    have hcm : grownCap w (0 + (b :: l).length) 0 e ≤ maxLen := grownCap_le_maxLen w _ 0 e (by simp only [maxLen, Nat.zero_add]; omega)
    have hblk := heap_alloc_new w.drew (.cells (([] : List Value).toArray ++ (bvs (b :: l)).toArray ++ Builtin.zeroCells (Value.int .u8 0).cells (grownCap w (0 + (b :: l).length) 0 e - (0 + (b :: l).length))) e)
    refine ⟨by rw [bvs_length, Nat.mul_one], .inr ⟨w.heap.size, grownCap w (0 + (b :: l).length) 0 e, _, by rw [Nat.zero_add], hbase, hblk, by rw [Nat.zero_add] at hge ⊢; exact hge, hcm, ?_, ?_⟩⟩
    · have hzc : ∀ k, (Builtin.zeroCells (Value.int .u8 0).cells k).size = k := by
        intro k
        rw [size_zeroCells]
        simp [Value.cells]
      simp only [Array.size_append, List.size_toArray, List.length_nil, bvs_length, hzc]
      omega
    · simp [bvs_length]

end Go.Proofs.Ytkblpbpmaoofgaa
