/- slices.Grow of nothing and slices.Concat of two lists of bytes, as the landed program calls them, by their contracts. Conditions: the reach of a slice. -/
import Derived.Test.YtkblpbpmaoofgaaVV1
import Derived.Test.YtkblpbpmaoofgaaMem4
import Derived.BigQuiet
import Derived.Lib.AppendZeros
namespace Go.Proofs.Ytkblpbpmaoofgaa
open Go Go.RowKit

set_option maxRecDepth 100000 in
set_option maxHeartbeats 400000 in
theorem grow_any (n : Nat) (w : World) (hn : n ≤ 140737488355328) : Calls Try.prog 54 #[.slice none 0 0, .int .i64 (n : Int)] w fun e w' => ∃ v, e = .returned v ∧ w'.ownsRow w.heap.size 5 1 v 0 [] ∧ Ext w w' := by
  by_cases h0 : n = 0
  · subst h0
    go_enter Try.func54, Try.ntmps54
    go_wp2_with fail
    go_ret
    exact ⟨_, rfl, World.ownsRow_nil _ _ _ _, Ext.refl _⟩
  · obtain ⟨i, hi, hz, hi1, hi2⟩ := info_parts infoByte
    have ha := fun W ty => Go.Lib.run_append_nil_zeros (P := Try.prog) W 25 3 ty 5 i (.int .u8 0) .i64 .i64 Try.underlying25 Try.underlying3 hi hz n (by omega) (by rw [hi1]; decide) (by omega) (by rw [hi2]; omega)
    have hge := grownCap_ge w n 0 5
    have hle := grownCap_le_maxLen w n 0 5 (by unfold maxLen; omega)
    obtain ⟨c, hc⟩ : ∃ c, c = grownCap w n 0 5 := ⟨_, rfl⟩
    have ha0 := ha w 25
    rw [← hc] at ha0 hge hle
    obtain ⟨cs, hcs⟩ : ∃ cs, cs = Builtin.zeroCells (Value.int .u8 0).cells n ++ Builtin.zeroCells (Value.int .u8 0).cells (c - n) := ⟨_, rfl⟩
    rw [← hcs] at ha0
    have hsz : cs.size = c * 1 := by
      rw [hcs]
      rw [Array.size_append, Go.size_zeroCells, Go.size_zeroCells]
      show n * 1 + (c - n) * 1 = c * 1
      omega
    have HS := hid hsz
    have HL := hid hle
    have hc0 : 0 < c := by omega
    have hn1 : (n : Int) ≤ 9223372036854775807 := by omega
    have hnp : (0 : Int) < (n : Int) := by omega
    clear ha hge hle hc hcs hsz hi hz hi1 hi2 hn
    have HA := hid ha0
    clear ha0
    go_enter Try.func54, Try.ntmps54
    go_wp2_with ((with_reducible show wpList _ _ _ (⟨some 22, _, _, _, _, _⟩ :: _) _ _); refine Go.Lib.wpList_append_run w rfl (.tmp 20) (.tmp 21) _ _ rfl _ _ rfl rfl _ _ HA.out ?_)
    go_ret
    refine ⟨_, rfl, ?_, (Ext.drew w).then_alloc _⟩
    exact own_later (World.ownsRow_made w cs c (Nat.le_refl _) HL.out HS.out) (Ext.drew _)

set_option maxHeartbeats 2000000 in
theorem concat_two (g : Nat) (A B : Option Addr) (c d : Nat) (l m : List UInt8) (w : World) (hg : w.heap[g]? = some (.cells #[.slice A l.length c, .slice B m.length d] 25 (0, 0))) (hl : Lies w A (bvs l)) (hm : Lies w B (bvs m)) (hlen : l.length + m.length ≤ 140737488355328) :
    Calls Try.prog 32 #[.slice (some ⟨g, 0, none⟩) 2 2] w (Told1 w (l ++ m)) := by
  have hc0 : w.cell? ⟨g, 0, none⟩ = some (.slice A l.length c) := cell_of_row _ _ 0 _ _ _ hg
  have hc1 : w.cell? ⟨g, 1, none⟩ = some (.slice B m.length d) := cell_of_row _ _ 1 _ _ _ hg
  have HL := hid hl
  have HM := hid hm
  have HG := hid hg
  have HN := hid hlen
  have kg := fun W => grow_any (l.length + m.length) W hlen
  rw [show ((l.length + m.length : Nat) : Int) = (l.length : Int) + (m.length : Int) from by omega] at kg
  have hn1 : (l.length : Int) + (m.length : Int) ≤ 140737488355328 := by omega
  clear hl hm hg hlen
  go_enter Try.func32, Try.ntmps32
  go_wp2_with fail
  go_loopw [11, 3] (fun i x wr => ∃ k : Nat, k ≤ 2 ∧ i = .int .i64 (k : Int) ∧ x = .int .i64 (if k = 0 then 0 else if k = 1 then (l.length : Int) else (l.length : Int) + (m.length : Int)) ∧ w = wr)
    (fun i _ _ => 2 - (intOf i).toNat)
  case atStart => exact ⟨0, by omega, rfl, rfl, rfl⟩
  case round =>
    obtain ⟨k, hk, rfl, rfl, rfl⟩ := hrel
    have : k = 0 ∨ k = 1 ∨ k = 2 := by omega
    rcases this with rfl | rfl | rfl
    · go_wp2_with fail
      exact ⟨⟨1, by omega, rfl, rfl, trivial⟩, by simp [intOf]⟩
    · go_wp2_with fail
      exact ⟨⟨2, by omega, rfl, rfl, trivial⟩, by simp [intOf]⟩
    · go_wp2_with fail
      refine (kg _).mono ?_
      rintro e w1 ⟨v, rfl, ho, hx⟩
      have HO := hid ho
      have HX := hid hx
      clear ho hx kg
      go_wp2_with fail
      go_loopw [27, 6] (fun i x wr => ∃ (k n : Nat) (ys : List Value), k ≤ 2 ∧ i = .int .i64 (k : Int) ∧ Hid (ys = if k = 0 then [] else if k = 1 then bvs l else bvs (l ++ m)) ∧ wr.ownsRow w.heap.size 5 1 x n ys ∧ Ext w wr)
        (fun i _ _ => 2 - (intOf i).toNat)
      case atStart => exact ⟨0, 0, [], by omega, rfl, rfl, HO.out, HX.out⟩
      case round =>
        obtain ⟨k, n, ys, hk, rfl, HY, ho, hx⟩ := hrel
        have HO2 := hid ho
        have HX2 := hid hx
        have hb2 : w.heap.size ≤ wr.heap.size := hx.size
        replace hc0 := hx.cell hc0
        replace hc1 := hx.cell hc1
        have hlen : ys.length = n := by have := ho.1; rwa [Nat.mul_one] at this
        clear ho hx HO HX
        have : k = 0 ∨ k = 1 ∨ k = 2 := by omega
        rcases this with rfl | rfl | rfl
        · have hys : ys = [] := HY.out
          subst hys
          subst hlen
          clear HY
          go_wp2_with ((with_reducible show wpList _ _ _ (⟨some 33, _, _, _, _, _⟩ :: _) _ _); refine wpList_append_lies _ rfl (.tmp 31) (.tmp 32) _ rfl w.heap.size 5 (.int .u8 0) 1 1 Try.underlying25 infoByte rfl (by omega) _ _ _ rfl HO2.out A l.length c (bvs l) rfl (by rw [bvs_length, Nat.mul_one]) (HL.out.ext HX2.out) (bvs_one l) (by simp only [maxLen, List.length_nil]; omega) (by simp only [List.length_nil]; omega) hb2 (fun v1 w2 ho1 hg1 _ => ?_))
          exact ⟨⟨1, _, bvs l, by omega, rfl, rfl, ho1, HX2.out.grown hg1 (own_block_ge HO2.out)⟩, by simp [intOf]⟩
        · have hys : ys = bvs l := HY.out
          subst hys
          rw [bvs_length] at hlen
          subst hlen
          clear HY
          go_wp2_with ((with_reducible show wpList _ _ _ (⟨some 33, _, _, _, _, _⟩ :: _) _ _); refine wpList_append_lies _ rfl (.tmp 31) (.tmp 32) _ rfl w.heap.size 5 (.int .u8 0) 1 1 Try.underlying25 infoByte rfl (by omega) _ _ _ rfl HO2.out B m.length d (bvs m) rfl (by rw [bvs_length, Nat.mul_one]) (HM.out.ext HX2.out) (bvs_one m) (by simp only [maxLen]; omega) (by omega) hb2 (fun v1 w2 ho1 hg1 _ => ?_))
          rw [← bvs_append] at ho1
          exact ⟨⟨2, _, bvs (l ++ m), by omega, rfl, rfl, ho1, HX2.out.grown hg1 (own_block_ge HO2.out)⟩, by simp [intOf]⟩
        · have hys : ys = bvs (l ++ m) := HY.out
          subst hys
          go_wp2_with fail
          go_ret
          exact Told1.mk HO2.out HX2.out
end Go.Proofs.Ytkblpbpmaoofgaa
