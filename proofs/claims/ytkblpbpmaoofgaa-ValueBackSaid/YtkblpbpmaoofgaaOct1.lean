/- octet.longer and octet.fill, by their contracts. Conditions: the reach of a slice. -/
import Derived.Test.YtkblpbpmaoofgaaSay
import Derived.Test.YtkblpbpmaoofgaaDig
namespace Go.Proofs.Ytkblpbpmaoofgaa
open Go Go.RowKit


set_option maxHeartbeats 400000 in
theorem longer_any (A : Option Addr) (l : List UInt8) (c m : Nat) (w : World) (hl : Lies w A (bvs l)) (_hlc : l.length ≤ c) (hn : l.length + m ≤ 140737488351232) :
    Calls Try.prog 51 #[.slice A l.length c, .int .i64 (m : Int)] w fun e w' =>
      e = .returned (.slice (some ⟨w.heap.size, 0, none⟩) (l.length + m) (l.length + m)) ∧
        w'.heap[w.heap.size]? = some (.cells (bvs (l ++ List.replicate m 0)).toArray 5 (0, 0)) ∧ Ext w w' := by
  have hmk := fun W => run_make_row' (P := Try.prog) 25 5 (.int .u8 0) 1 Try.underlying25 infoByte rfl .i64 .i64 (l.length + m) (by omega) (by omega) W
  rw [show ((l.length + m : Nat) : Int) = (l.length : Int) + (m : Int) from by omega] at hmk
  have hrow : (w.alloc (.cells (madeCells #[Value.int .u8 0] (l.length + m)) 5)).heap[w.heap.size]? = some (.cells (bvs (List.replicate (l.length + m) 0)).toArray 5 (0, 0)) := by
    rw [heap_alloc_new, bvs_zeros]
    congr 2
    rw [← toList_madeCells_one, Array.toArray_toList]
  obtain ⟨cs, hcs⟩ : ∃ cs, cs = bvs l := ⟨_, rfl⟩
  have hcl : cs.length = l.length := by rw [hcs, bvs_length]
  have HC := hid hcs
  have hl' : Lies w A cs := by rw [hcs]; exact hl
  have h1 : ∀ u ∈ cs, u.oneCell' = true := by rw [hcs]; exact bvs_one l
  have HL := hid hl'
  have H1 := hid h1
  have HN := hid hcl
  have HR := hid hrow
  clear hcs hcl hl' h1 hrow hl
  go_enter Try.func51, Try.ntmps51
  go_wp2_with ((with_reducible show wpList _ _ _ (⟨some 13, _, _, _, _, _⟩ :: _) _ _); refine wpList_copy_splice rfl (.tmp 11) (.tmp 12) _ _ rfl 5 Try.underlying25 (by kernel_rfl) _ _ _ _ _ _ rfl rfl w.heap.size 0 _ 5 HR.out cs ?_ ?_ ?_ H1.out w.heap.size w (Ext.alloc w _) (Nat.le_refl _) ?_)
  · rw [HN.out]; exact (Nat.min_eq_left (by omega)).symm
  · intro hpos
    obtain ⟨ad, ha, hc⟩ := HL.out (by intro e; rw [e] at hpos; simp at hpos)
    exact ⟨ad, ha, fun j v hj => (Ext.alloc w _).cell (hc j v hj)⟩
  · rw [bvs_length, List.length_replicate, HN.out]; omega
  · intro w1 hg1 hb1
    go_wp2
    go_ret
    refine ⟨rfl, ?_, hb1⟩
    rw [hg1.out]
    congr 3
    rw [splice, HC.out]
    simp [bvs]

/-- where k of the n places from off on, the last ones, hold the digits -/
def filled (cur : List UInt8) (off n k u : Nat) : List UInt8 := cur.take (off + (n - k)) ++ (be k u ++ cur.drop (off + n))

theorem filled_zero (cur : List UInt8) (off n u : Nat) : filled cur off n 0 u = cur := by
  simp [filled, be]

theorem filled_step (cur : List UInt8) (off n k u : Nat) (hk : k < n) (h : off + n ≤ cur.length) :
    (filled cur off n k u).set (off + (n - 1 - k)) (UInt8.ofNat (u / 256 ^ k % 256)) = filled cur off n (k + 1) u := by
  have e1 : off + (n - k) = off + (n - 1 - k) + 1 := by omega
  have e2 : off + (n - (k + 1)) = off + (n - 1 - k) := by omega
  unfold filled
  rw [e1, e2, be_left]
  rw [List.take_succ_eq_append_getElem (by omega)]
  rw [List.append_assoc, List.set_append_right _ _ (by simp; omega)]
  have e3 : off + (n - 1 - k) - (cur.take (off + (n - 1 - k))).length = 0 := by simp; omega
  rw [e3]
  simp

theorem filled_length (cur : List UInt8) (off n k u : Nat) (hk : k ≤ n) (h : off + n ≤ cur.length) : (filled cur off n k u).length = cur.length := by
  simp [filled, be_length]; omega

theorem filled_all (cur : List UInt8) (off n u : Nat) : filled cur off n n u = cur.take off ++ (be n u ++ cur.drop (off + n)) := by
  simp [filled]

set_option maxHeartbeats 400000 in
theorem fill_any (g off n c u : Nat) (cur : List UInt8) (w : World) (hn : n ≤ 281474976710656) (hoff : off + n ≤ cur.length) (hu : u ≤ 18446744073709551615)
    (hg : w.heap[g]? = some (.cells (bvs cur).toArray 5 (0, 0))) :
    Calls Try.prog 52 #[.slice (some ⟨g, off, none⟩) n c, .int .u64 (u : Int)] w fun e w' =>
      e = .returned (.tuple #[]) ∧ w'.heap[g]? = some (.cells (bvs (cur.take off ++ (be n u ++ cur.drop (off + n)))).toArray 5 (0, 0)) ∧ w.grownBy w' (some g) := by
  have HG := hid hg
  clear hg
  go_enter Try.func52, Try.ntmps52
  go_wp2
  go_loopw [4, 1] (fun i x wr => ∃ j : Nat, j ≤ n ∧ i = .int .i64 ((j : Int) - 1) ∧ x = .int .u64 ((u / 256 ^ (n - j) : Nat) : Int) ∧ Hid (wr.heap[g]? = some (.cells (bvs (filled cur off n (n - j) u)).toArray 5 (0, 0))) ∧ w.grownBy wr (some g))
    (fun i _ _ => (intOf i + 1).toNat)
  case atStart => exact ⟨n, Nat.le_refl _, rfl, by simp, by rw [Nat.sub_self, filled_zero]; exact HG.out, World.grownBy.refl _ _⟩
  case round =>
    obtain ⟨j, hj, rfl, rfl, hrow, hgr⟩ := hrel
    rcases j with _ | j
    · go_wp2
      go_end0
      refine ⟨rfl, ?_, hgr⟩
      rw [hrow.out, Nat.sub_zero, filled_all]
    · rw [show (((j + 1 : Nat) : Int) - 1) = (j : Int) from by omega]
      obtain ⟨x, hx⟩ : ∃ x : Nat, x = u / 256 ^ (n - (j + 1)) := ⟨_, rfl⟩
      rw [← hx]
      have hxl : x ≤ 18446744073709551615 := by rw [hx]; exact Nat.le_trans (Nat.div_le_self _ _) hu
      have hlen : (filled cur off n (n - (j + 1)) u).length = cur.length := filled_length _ _ _ _ _ (by omega) hoff
      have hin : off + j < (filled cur off n (n - (j + 1)) u).length := by rw [hlen]; omega
      have hcell : wr.cell? ⟨g, off + j, none⟩ = some (bv ((filled cur off n (n - (j + 1)) u)[off + j]'hin)) := by
        rw [cell_of_row wr g _ _ _ _ hrow.out]
        simp [bvs, List.getElem?_eq_getElem hin]
      have hfr : wr.frozen? ⟨g, off + j, none⟩ = false := frozen_of_row wr g _ _ _ hrow.out
      have HX := hid hx
      have HIN := hid hlen
      clear hx hlen
      obtain ⟨old, hold⟩ : ∃ old, old = bv ((filled cur off n (n - (j + 1)) u)[off + j]'hin) := ⟨_, rfl⟩
      rw [← hold] at hcell
      clear hold hin
      go_wp2
      go_roundw
      case rel =>
        refine ⟨j, by omega, rfl, ?_, ?_, ?_⟩
        · rw [show u / 256 ^ (n - j) = x / 256 from by
            rw [HX.out, Nat.div_div_eq_div_mul, ← Nat.pow_succ]
            congr 2
            omega]
          go_num
        · have h1 := heap_setCell_same wr g (off + j) _ 5 (Value.int IntKind.u8 ((x : Int) % 256)) hrow.out
          show _ = _
          rw [h1]
          have h2 := filled_step cur off n (n - (j + 1)) u (by omega) hoff
          rw [show n - 1 - (n - (j + 1)) = j from by omega, show n - (j + 1) + 1 = n - j from by omega, ← HX.out] at h2
          have h3 : Value.int IntKind.u8 ((x : Int) % 256) = bv (UInt8.ofNat (x % 256)) := by
            simp [bv]
          rw [← h2, h3]
          simp [bvs, List.map_set]
        · exact hgr.trans ⟨rfl, rfl, rfl, by simp [World.setCell], fun k _ hk => heap_setCell_other wr _ k _ (fun e => hk (by rw [e]))⟩
      case measure => simp [intOf]
end Go.Proofs.Ytkblpbpmaoofgaa
