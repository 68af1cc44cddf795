/- The landed program's Clone of a text, and OfText, by their contracts. Conditions: the reach of a string. -/
import Derived.Test.YtggafdimbddflaaVV1
import Derived.Test.YtggafdimbddflaaVR5
import Derived.BigQuiet
import Derived.Lib.UnsafeStr
namespace Go.Proofs.Ytggafdimbddflaa
open Go Go.RowKit

set_option maxHeartbeats 1000000 in
theorem lclone_any (s : ByteArray) (w : World) (hs : s.size ≤ 70368744177664) : Calls Try.prog 62 #[.string s] w (Says w (.string s)) := by
  by_cases h0 : s.size = 0
  · have hz : s = ⟨#[]⟩ := (text_none s).2 h0
    subst hz
    go_enter Try.func62, Try.ntmps62
    go_wp2
    go_ret
    exact ⟨rfl, Ext.refl _⟩
  · have hmk := fun W => run_make_row' (P := Try.prog) 76 5 (.int .u8 0) 1 Try.underlying76 infoByte rfl .i64 .i64 s.size (by omega) (by omega) W
    have hrow : (w.alloc (.cells (madeCells #[Value.int .u8 0] s.size) 5)).heap[w.heap.size]? = some (.cells (bvs (List.replicate s.size 0)).toArray 5 (0, 0)) := by
      rw [heap_alloc_new, bvs_zeros]
      congr 2
      rw [← toList_madeCells_one, Array.toArray_toList]
    have hne : s.data.toList ≠ [] := fun e => h0 (by rw [← size_toList, e]; rfl)
    have hz : ((s.size : Int) == 0) = false := beq_eq_false_iff_ne.2 (by omega)
    have HR := hid hrow
    have HN := hid hne
    have hp0 : 0 < s.size := by omega
    clear hrow hne h0
    go_enter Try.func62, Try.ntmps62
    go_wp2_with ((with_reducible show wpList _ _ _ (⟨some 12, _, _, _, _, _⟩ :: _) _ _); refine wpList_copy_str rfl (.tmp 10) (.tmp 11) _ _ rfl 5 Try.underlying76 (by kernel_rfl) _ _ _ _ rfl rfl w.heap.size 0 _ 5 HR.out (Nat.le_refl _) (fun _ => rfl) ?_ ?_)
    · rw [List.length_replicate]; exact Nat.le_of_eq (Nat.zero_add _)
    · intro w1 hg1 hb1
      have hrow1 : w1.heap[w.heap.size]? = some (.cells (bvs s.data.toList).toArray 5 (0, 0)) := by
        rw [hg1.out]
      have HR1 := hid hrow1
      have hx1 : Ext w w1 := (Ext.alloc w _).grown hb1 (fun k hk => by simp only [Option.some.injEq] at hk; omega)
      have HX1 := hid hx1
      have hUS := Go.Lib.run_unsafeString_row (P := Try.prog) w1 99 3 9 5 Try.underlying99 (by kernel_rfl) w.heap.size s.size (by unfold World.shape?; rw [HR1.out]; simp [bvs_length]) s.data.toList HN.out (by rw [size_toList]; exact Nat.le_refl _) (by rw [size_toList]; omega)
        (fun j x hx => by rw [Addr.add_lit, cell_of_row w1 w.heap.size _ _ _ _ HR1.out]; simp [bvs, bv, hx])
      rw [size_toList] at hUS
      clear hg1 hb1 hrow1 hx1
      go_wp2
      go_ret
      exact ⟨rfl, Go.Lib.below_freeze HX1.out (p := ⟨w.heap.size, 0, none⟩) (Nat.le_refl _) _⟩

/-- a struct in a cell is answered -/
theorem ret_cell1 {P : Program} {fn : Func} {p : Tmp} {ty : TypeId} (h : fn.results = #[.cell p ty]) (tmps : Array Value) (w : World) (g : Nat) (t : TypeId) (cs : Array Value) (fr : Nat × Nat) (d : TypeDesc)
    (hp : tmps.getD p undef = .pointer (some ⟨g, 0, none⟩)) (hg : w.heap[g]? = some (.cells cs t fr))
    (hu : P.underlying ty = some d) (hd : (match d with | .struct _ | .array _ _ => true | _ => false) = true) (hi : (P.info? ty).map (·.size) = some cs.size) :
    (results fn tmps).run P w = .ok (.agg cs) w := by
  have hp' : tmps[p]?.getD undef = .pointer (some ⟨g, 0, none⟩) := by simpa using hp
  simp [results, h, hp', asAddr, run_loadVar_row w g t ty cs fr d hg hu hd hi]

theorem clone_any (s : ByteArray) (w : World) (hs : s.size ≤ 70368744177664) : Calls Try.prog 52 #[.string s] w (Says w (.string s)) := by
  have k := fun W => lclone_any s W hs
  go_enter Try.func52, Try.ntmps52
  go_wp2_with fail
  refine (k _).mono ?_
  rintro e w1 ⟨rfl, hx⟩
  go_wp2_with fail
  go_ret
  exact ⟨rfl, hx⟩

set_option maxHeartbeats 400000 in
theorem voftext_any (s : ByteArray) (w : World) (hs : s.size ≤ 9223372036854775807) : Calls Try.prog 32 #[.string s] w (Says w (ofTextV s).v) := by
  have hr : (ofTextV s).v = vv 4 0 0 (s.extract 0 (min s.size 24)) := rfl
  rw [hr]
  clear hr
  have k := fun W => clone_any (s.extract 0 (min s.size 24)) W (by rw [ByteArray.size_extract]; omega)
  rcases Nat.lt_or_ge 24 s.size with h | h
  · rw [show min s.size 24 = 24 by omega] at k ⊢
    go_enter Try.func32, Try.ntmps32
    go_wp2_with fail
    refine (k _).mono ?_
    rintro e w1 ⟨rfl, hx⟩
    have HR := hid (hx.block (heap_alloc_new w _))
    have HX := hid ((Ext.alloc w _).trans hx)
    clear hx k
    obtain ⟨⟨c0, c1, c2, c3⟩, ⟨m0, m1, m2, m3⟩, z0⟩ := box4 HR.out
    go_wp2_with fail
    refine bodyPost_ret (ret_cell1 rfl _ _ w.heap.size 67 _ (0, 0) _ rfl (set4 HR.out) Try.underlying67 rfl (by kernel_rfl)) rfl ⟨rfl, ?_⟩
    repeat (first | (with_reducible exact HX.out) | (with_reducible apply Ext.then_drew) | (with_reducible apply Ext.then_alloc) | (with_reducible refine Ext.setCell ?_ (by simp) _))
  · rw [show min s.size 24 = s.size by omega, show s.extract 0 s.size = s by simp] at k ⊢
    go_enter Try.func32, Try.ntmps32
    go_wp2_with fail
    refine (k _).mono ?_
    rintro e w1 ⟨rfl, hx⟩
    have HR := hid (hx.block (heap_alloc_new w _))
    have HX := hid ((Ext.alloc w _).trans hx)
    clear hx k
    obtain ⟨⟨c0, c1, c2, c3⟩, ⟨m0, m1, m2, m3⟩, z0⟩ := box4 HR.out
    go_wp2_with fail
    refine bodyPost_ret (ret_cell1 rfl _ _ w.heap.size 67 _ (0, 0) _ rfl (set4 HR.out) Try.underlying67 rfl (by kernel_rfl)) rfl ⟨rfl, ?_⟩
    repeat (first | (with_reducible exact HX.out) | (with_reducible apply Ext.then_drew) | (with_reducible apply Ext.then_alloc) | (with_reducible refine Ext.setCell ?_ (by simp) _))
end Go.Proofs.Ytggafdimbddflaa
