/- Append onto an empty literal: new memory alone. Conditions: the reach of a slice. -/
import Derived.Test.YtekkmpahienaeaaMem
namespace Go.Proofs.Ytekkmpahienaeaa
open Go Go.RowKit

theorem run_append_empty {P : Program} (w : World) (t ty e : TypeId) (ht : P.underlying t = some (.slice e)) (hinfo : (P.info? e).map (fun i => (i.zero, i.size, i.bytes)) = some (some (.int .u8 0), 1, 1))
    (g : Nat) (A : Option Addr) (c : Nat) (l : List UInt8) (hl : Lies w A (bvs l)) (hm : l.length ≤ 140737488355328) :
    ∃ v' w', (Builtin.append_ #[t, t] ty #[.slice (some ⟨g, 0, none⟩) 0 0, .slice A l.length c]).run P w = .ok v' w' ∧ Bytes w' v' l ∧ Ext w w' := by
  obtain ⟨i, hi, hz, hi1, hi2⟩ := info_parts hinfo
  cases l with
  | nil =>
    refine ⟨.slice (some ⟨g, 0, none⟩) 0 0, w, ?_, ⟨_, 0, rfl, Nat.le_refl _, by simp [maxLen], Lies.nil _ _⟩, Ext.refl w⟩
    cases A <;> simp [Builtin.append_, run_underlying ht, sizeOf, typeInfo, hi, Builtin.lenOf, Builtin.firstCells, storeCells, loadCells, loadCellsFrom]
  | cons b l =>
    obtain ⟨ad, rfl, hc⟩ := hl (by simp [bvs])
    have hr := run_append_grow (P := P) w t ty e i (.int .u8 0) ht hi hz ⟨g, 0, none⟩ 0 0 [] (by simp) (fun j v h => by simp at h) ad (b :: l).length c (bvs (b :: l)) (by rw [hi1, bvs_length, Nat.mul_one]) hc (by simp) (by simp only [Nat.zero_add]; omega)
      (growslice_fits (by simp) (by rw [hi2]; simp only [Nat.zero_add, Nat.mul_one]; exact hm))
    refine ⟨_, _, hr, ?_, (Ext.drew w).trans (Ext.alloc _ _)⟩
    have hge := grownCap_ge w (0 + (b :: l).length) 0 e
    have hcm : grownCap w (0 + (b :: l).length) 0 e ≤ maxLen := grownCap_le_maxLen w _ 0 e (by simp only [maxLen, Nat.zero_add]; omega)
    refine ⟨some ⟨w.heap.size, 0, none⟩, grownCap w (0 + (b :: l).length) 0 e, by rw [Nat.zero_add], by rw [Nat.zero_add] at hge ⊢; exact hge, hcm, ?_⟩
    have hrow := Lies.of_row (heap_alloc_new w.drew (.cells (([] : List Value).toArray ++ (bvs (b :: l)).toArray ++ Builtin.zeroCells (Value.int .u8 0).cells (grownCap w (0 + (b :: l).length) 0 e - (0 + (b :: l).length))) e)) 0 (bvs (b :: l)).length
    have htk : ((([] : List Value).toArray ++ (bvs (b :: l)).toArray ++ Builtin.zeroCells (Value.int .u8 0).cells (grownCap w (0 + (b :: l).length) 0 e - (0 + (b :: l).length))).toList.drop 0).take (bvs (b :: l)).length = bvs (b :: l) := by
      simp
    rw [htk] at hrow
    exact hrow
end Go.Proofs.Ytekkmpahienaeaa
