/- The landed program's takeText, takeOf and Take, by their contracts. Conditions: the reach of a string. -/
import Derived.Test.YtkblpbpmaoofgaaVV2
import Derived.Test.YtkblpbpmaoofgaaVV3
import Derived.Test.YtkblpbpmaoofgaaVV4
import Derived.Test.YtkblpbpmaoofgaaOct5
import Derived.BigQuiet
namespace Go.Proofs.Ytkblpbpmaoofgaa
open Go Go.RowKit

theorem rest_text (s : ByteArray) (p : Nat) : restV s 4 p =
    if (takeZ s p).2.2 ≠ 0 then failV (takeZ s p).2.2
    else if 24 < (takeZ s p).1 then failV 5
    else if (s.size : Int) - (takeZ s p).2.1 < (takeZ s p).1 then failV 3
    else (⟨4, 0, 0, s.extract (takeZ s p).2.1.toNat ((takeZ s p).2.1.toNat + (takeZ s p).1)⟩, (takeZ s p).2.1 + (takeZ s p).1, 0) := by
  unfold restV
  rw [if_neg (by decide), if_neg (by decide)]
  split
  · rfl
  · rw [if_neg (by decide)]

set_option maxRecDepth 100000 in
set_option maxHeartbeats 1000000 in
theorem taketext_any (s : ByteArray) (p : Nat) (w : World) (hs : s.size ≤ 70368744177664) (hp : p ≤ s.size) : Calls Try.prog 66 #[.string s, .int .i64 (p : Int)] w (SaysV w (restV s 4 p)) := by
  have hr := rest_text s p
  have kz := fun W => ztake_any s (p : Int) W (by omega)
  rcases takeZ_shape s p hp with ⟨E0, hz, hE0⟩ | ⟨U, m, hz, hm1, hm2, hU⟩
  · rw [hz, if_pos hE0] at hr
    rw [hz] at kz
    rw [hr]
    have hE' : (E0 != 0) = true := bne_iff_ne.2 hE0
    clear hr hz hE0
    go_enter Try.func66, Try.ntmps66
    go_wp2_with fail
    refine (kz _).mono ?_
    rintro e w1 ⟨rfl, hx⟩
    have hR := hid (hx.block (heap_alloc_new w _))
    have HX := hid ((Ext.alloc w _).trans hx)
    clear hx kz
    obtain ⟨⟨c0, c1, c2, c3⟩, ⟨m0, m1, m2, m3⟩, z0⟩ := box4 hR.out
    go_wp2_with fail
    refine bodyPost_ret (ret_cell_tmp2 rfl _ _ w.heap.size 31 _ (0, 0) _ rfl (set4 hR.out) Try.underlying31 rfl (by kernel_rfl)) rfl (SaysV.mk rfl rfl ?_)
    repeat (first | (with_reducible exact HX.out) | (with_reducible apply Ext.then_drew) | (with_reducible apply Ext.then_alloc) | (with_reducible refine Ext.setCell ?_ (by simp) _))
  · rw [hz, if_neg (fun h => h rfl)] at hr
    rw [hz] at kz
    by_cases h24 : 24 < U
    · rw [if_pos h24] at hr
      rw [hr]
      have h24' : (24 : Int) < (U : Int) := by omega
      clear hr hz h24
      go_enter Try.func66, Try.ntmps66
      go_wp2_with fail
      refine (kz _).mono ?_
      rintro e w1 ⟨rfl, hx⟩
      have hR := hid (hx.block (heap_alloc_new w _))
      have HX := hid ((Ext.alloc w _).trans hx)
      clear hx kz
      obtain ⟨⟨c0, c1, c2, c3⟩, ⟨m0, m1, m2, m3⟩, z0⟩ := box4 hR.out
      go_wp2_with fail
      refine bodyPost_ret (ret_cell_tmp2 rfl _ _ w.heap.size 31 _ (0, 0) _ rfl (set4 hR.out) Try.underlying31 rfl (by kernel_rfl)) rfl (SaysV.mk rfl rfl ?_)
      repeat (first | (with_reducible exact HX.out) | (with_reducible apply Ext.then_drew) | (with_reducible apply Ext.then_alloc) | (with_reducible refine Ext.setCell ?_ (by simp) _))
    · rw [if_neg h24] at hr
      have h24' : ¬ (24 : Int) < (U : Int) := by omega
      by_cases hl : (s.size : Int) < (m : Int) + (U : Int)
      · rw [if_pos (by show (s.size : Int) - (m : Int) < (U : Int); omega)] at hr
        rw [hr]
        clear hr hz h24
        go_enter Try.func66, Try.ntmps66
        go_wp2_with fail
        refine (kz _).mono ?_
        rintro e w1 ⟨rfl, hx⟩
        have hR := hid (hx.block (heap_alloc_new w _))
        have HX := hid ((Ext.alloc w _).trans hx)
        clear hx kz
        obtain ⟨⟨c0, c1, c2, c3⟩, ⟨m0, m1, m2, m3⟩, z0⟩ := box4 hR.out
        go_wp2_with fail
        refine bodyPost_ret (ret_cell_tmp2 rfl _ _ w.heap.size 31 _ (0, 0) _ rfl (set4 hR.out) Try.underlying31 rfl (by kernel_rfl)) rfl (SaysV.mk rfl rfl ?_)
        repeat (first | (with_reducible exact HX.out) | (with_reducible apply Ext.then_drew) | (with_reducible apply Ext.then_alloc) | (with_reducible refine Ext.setCell ?_ (by simp) _))
      · rw [if_neg (by show ¬ (s.size : Int) - (m : Int) < (U : Int); omega)] at hr
        rw [hr]
        obtain ⟨T, hT⟩ : ∃ T, T = s.extract m (m + U) := ⟨_, rfl⟩
        have hTs : T.size = U := by rw [hT, ByteArray.size_extract]; omega
        have kt := fun W => voftext_any T W (by omega)
        have ho : (ofTextV T).v = vv 4 0 0 T := by
          unfold ofTextV
          rw [show min T.size 24 = T.size by omega]
          simp [VZ.v]
        rw [ho] at kt
        have HT := hid hT
        have hmU : m + U ≤ s.size := by omega
        rw [hT] at kt
        clear hr hz h24 hT hTs ho
        go_enter Try.func66, Try.ntmps66
        go_wp2_with fail
        refine (kz _).mono ?_
        rintro e w1 ⟨rfl, hx⟩
        have hR := hid (hx.block (heap_alloc_new w _))
        have HX := hid ((Ext.alloc w _).trans hx)
        clear hx kz
        obtain ⟨⟨c0, c1, c2, c3⟩, ⟨m0, m1, m2, m3⟩, z0⟩ := box4 hR.out
        go_wp2_with fail
        refine (kt _).mono ?_
        rintro e w2 ⟨rfl, hx⟩
        replace hR := hid (hx.block hR.out)
        replace HX := hid (HX.out.trans hx)
        clear hx kt c0 c1 c2 c3 m0 m1 m2 m3 z0
        obtain ⟨⟨c0, c1, c2, c3⟩, ⟨m0, m1, m2, m3⟩, z0⟩ := box4 hR.out
        unfold vv
        go_wp2_with fail
        refine bodyPost_ret (ret_cell_tmp2 rfl _ _ w.heap.size 31 _ (0, 0) _ rfl (set4 hR.out) Try.underlying31 rfl (by kernel_rfl)) rfl (SaysV.mk rfl rfl ?_)
        repeat (first | (with_reducible exact HX.out) | (with_reducible apply Ext.then_drew) | (with_reducible apply Ext.then_alloc) | (with_reducible refine Ext.setCell ?_ (by simp) _))

/-- what is read behind a kind, whatever the kind -/
def rawV (s : ByteArray) (k p : Nat) : VZ × Int × Int :=
  if k = 1 then (⟨1, backZ (takeZ s p).1, 0, noText⟩, (takeZ s p).2.1, (takeZ s p).2.2)
  else if k = 2 then (⟨2, (numN s p 0 1 : Int), 0, noText⟩, numP s p 0 1, numE s p 0 1)
  else if k = 3 then (⟨3, 0, worth (takeB s p 0 8).data.toList, noText⟩, takeP s p 0 8, takeE s p 0 8)
  else if k = 4 then restV s 4 p
  else (⟨k, 0, 0, noText⟩, 0, 11)

theorem gen_wp {P : Program} {c : Code} {Q : Exit → Act → World → Prop} {a : Act} {X : World} (F : World → Prop) (hF : F X) (h : ∀ W, F W → c.wp P Q a W) : c.wp P Q a X := h X hF

set_option maxRecDepth 100000 in
set_option maxHeartbeats 1000000 in
theorem takeof_whole (s : ByteArray) (p : Nat) (w : World) (hs : s.size ≤ 70368744177664) : Calls Try.prog 43 #[.int .u8 1, .string s, .int .i64 (p : Int)] w (SaysV w (rawV s 1 p)) := by
  have kn := fun W => need_any 1 W
  rw [need_one] at kn
  have a0 := as_whole_whole
  have kz := fun W => takeint_any s (p : Int) W (by omega)
  have hr : rawV s 1 p = (⟨1, (takeI s p).1, 0, noText⟩, (takeI s p).2.1, (takeI s p).2.2) := rfl
  rw [hr]
  obtain ⟨N, M, E, hT⟩ : ∃ N M E, takeI s (p : Int) = (N, M, E) := ⟨_, _, _, rfl⟩
  rw [hT] at kz ⊢
  clear hr hT
  go_enter Try.func43, Try.ntmps43
  go_wp2_with ((with_reducible show Calls _ 28 _ _ _); refine (kn _).mono ?_; rintro e w1 ⟨rfl, rfl⟩)
  refine (kz _).mono ?_
  rintro e w1 ⟨rfl, hx⟩
  have hR := hid (hx.block (heap_alloc2_old w _ _))
  have HX := hid (((Ext.alloc w _).then_alloc _).trans hx)
  clear hx kz
  obtain ⟨⟨c0, c1, c2, c3⟩, ⟨m0, m1, m2, m3⟩, z0⟩ := box4 hR.out
  go_wp2_with fail
  have hR2 : Hid ((w1.setCell ⟨w.heap.size, 1, none⟩ (.int .i64 N)).heap[w.heap.size]? = some (.cells #[.int .u8 1, .int .i64 N, .int .u64 0, .string ⟨#[]⟩] 31 (0, 0))) := heap_setCell_same w1 _ 1 _ _ _ hR.out
  refine bodyPost_ret (ret_cell_tmp2 rfl _ _ w.heap.size 31 _ (0, 0) _ rfl (set4 hR2.out) Try.underlying31 rfl (by kernel_rfl)) rfl (SaysV.mk rfl rfl ?_)
  repeat (first | (with_reducible exact HX.out) | (with_reducible apply Ext.then_drew) | (with_reducible apply Ext.then_alloc) | (with_reducible refine Ext.setCell ?_ (by simp) _))

set_option maxRecDepth 100000 in
set_option maxHeartbeats 1000000 in
theorem takeof_flag (s : ByteArray) (p : Nat) (w : World) (hs : s.size ≤ 70368744177664) : Calls Try.prog 43 #[.int .u8 2, .string s, .int .i64 (p : Int)] w (SaysV w (rawV s 2 p)) := by
  have kn := fun W => need_any 2 W
  rw [need_two] at kn
  have a0 := as_flag_whole
  have a1 := as_flag_flag
  have kz := fun W => rdnum_any s (p : Int) 0 1 W (by omega)
  have hr : rawV s 2 p = (⟨2, (numN s p 0 1 : Int), 0, noText⟩, numP s p 0 1, numE s p 0 1) := rfl
  rw [hr]
  unfold rd at kz
  generalize numN s p 0 1 = N at *
  generalize numP s p 0 1 = M at *
  generalize numE s p 0 1 = E at *
  clear hr
  go_enter Try.func43, Try.ntmps43
  go_wp2_with ((with_reducible show Calls _ 28 _ _ _); refine (kn _).mono ?_; rintro e w1 ⟨rfl, rfl⟩)
  refine (kz _).mono ?_
  rintro e w1 ⟨rfl, hx⟩
  have hR := hid (hx.block (heap_alloc2_old w _ _))
  have hV := hid (hx.block (heap_alloc2_new w _ _))
  have HX := hid (((Ext.alloc w _).then_alloc _).trans hx)
  clear hx kz
  obtain ⟨⟨c0, c1, c2, c3⟩, ⟨m0, m1, m2, m3⟩, z0⟩ := box4 hR.out
  obtain ⟨⟨d0, d1, d2⟩, ⟨g0, g1, g2⟩, z1⟩ := box3 hV.out
  go_wp2_with fail
  clear c0 c1 c2 c3 m0 m1 m2 m3 d0 d1 d2 g0 g1 g2
  refine gen_wp (fun W => W.heap[w.heap.size]? = some (.cells #[.int .u8 2, .int .i64 (N : Int), .int .u64 0, .string ⟨#[]⟩] 31 (0, 0)) ∧ W.heap[w.heap.size + 1]? = some (.cells #[.string s, .int .i64 M, .int .i64 E] 96 (0, 0)) ∧ Ext w W) ⟨?_, ?_, ?_⟩ ?_
  · exact heap_setCell_same _ w.heap.size 1 _ _ _ ((heap_setCell_other _ _ _ _ (by simp)).trans ((heap_setCell_other _ _ _ _ (by simp)).trans ((heap_setCell_other _ _ _ _ (by simp)).trans hR.out)))
  · exact (heap_setCell_other _ _ _ _ (by simp)).trans (set3 hV.out)
  · repeat (first | (with_reducible exact HX.out) | (with_reducible refine Ext.setCell ?_ (by simp) _))
  · rintro W ⟨hR, hV, HX⟩
    have HR := hid hR
    replace HX := hid HX
    obtain ⟨⟨c0, c1, c2, c3⟩, ⟨m0, m1, m2, m3⟩, y0⟩ := box4 hR
    obtain ⟨⟨d0, d1, d2⟩, ⟨g0, g1, g2⟩, y1⟩ := box3 hV
    clear hR hV
    go_quiet (fail)
    go_wp2_with fail
    refine bodyPost_ret (ret_cell_tmp2 rfl _ _ w.heap.size 31 _ (0, 0) _ rfl (set4 HR.out) Try.underlying31 rfl (by kernel_rfl)) rfl (SaysV.mk rfl rfl ?_)
    repeat (first | (with_reducible exact HX.out) | (with_reducible exact HX.out.trans (Ext.drewN _ _)) | (with_reducible apply Ext.then_drew) | (with_reducible apply Ext.then_alloc) | (with_reducible refine Ext.setCell ?_ (by simp) _))

set_option maxRecDepth 100000 in
set_option maxHeartbeats 1000000 in
theorem takeof_double (s : ByteArray) (p : Nat) (w : World) (hs : s.size ≤ 70368744177664) : Calls Try.prog 43 #[.int .u8 3, .string s, .int .i64 (p : Int)] w (SaysV w (rawV s 3 p)) := by
  have kn := fun W => need_any 3 W
  rw [need_three] at kn
  have a0 := as_double_whole
  have a1 := as_double_flag
  have a2 := as_double_double
  have kz := fun W => rdword_any s (p : Int) 0 W (by omega)
  have hr : rawV s 3 p = (⟨3, 0, worth (takeB s p 0 8).data.toList, noText⟩, takeP s p 0 8, takeE s p 0 8) := rfl
  rw [hr]
  unfold rd at kz
  generalize worth (takeB s p 0 8).data.toList = N at *
  generalize takeP s p 0 8 = M at *
  generalize takeE s p 0 8 = E at *
  clear hr
  go_enter Try.func43, Try.ntmps43
  go_wp2_with ((with_reducible show Calls _ 28 _ _ _); refine (kn _).mono ?_; rintro e w1 ⟨rfl, rfl⟩)
  refine (kz _).mono ?_
  rintro e w1 ⟨rfl, hx⟩
  have hR := hid (hx.block (heap_alloc2_old w _ _))
  have hV := hid (hx.block (heap_alloc2_new w _ _))
  have HX := hid (((Ext.alloc w _).then_alloc _).trans hx)
  clear hx kz
  obtain ⟨⟨c0, c1, c2, c3⟩, ⟨m0, m1, m2, m3⟩, z0⟩ := box4 hR.out
  obtain ⟨⟨d0, d1, d2⟩, ⟨g0, g1, g2⟩, z1⟩ := box3 hV.out
  go_wp2_with fail
  clear c0 c1 c2 c3 m0 m1 m2 m3 d0 d1 d2 g0 g1 g2
  refine gen_wp (fun W => W.heap[w.heap.size]? = some (.cells #[.int .u8 3, .int .i64 0, .int .u64 (N : Int), .string ⟨#[]⟩] 31 (0, 0)) ∧ W.heap[w.heap.size + 1]? = some (.cells #[.string s, .int .i64 M, .int .i64 E] 96 (0, 0)) ∧ Ext w W) ⟨?_, ?_, ?_⟩ ?_
  · exact heap_setCell_same _ w.heap.size 2 _ _ _ ((heap_setCell_other _ _ _ _ (by simp)).trans ((heap_setCell_other _ _ _ _ (by simp)).trans ((heap_setCell_other _ _ _ _ (by simp)).trans hR.out)))
  · exact (heap_setCell_other _ _ _ _ (by simp)).trans (set3 hV.out)
  · repeat (first | (with_reducible exact HX.out) | (with_reducible refine Ext.setCell ?_ (by simp) _))
  · rintro W ⟨hR, hV, HX⟩
    have HR := hid hR
    replace HX := hid HX
    obtain ⟨⟨c0, c1, c2, c3⟩, ⟨m0, m1, m2, m3⟩, y0⟩ := box4 hR
    obtain ⟨⟨d0, d1, d2⟩, ⟨g0, g1, g2⟩, y1⟩ := box3 hV
    clear hR hV
    go_quiet (fail)
    go_wp2_with fail
    refine bodyPost_ret (ret_cell_tmp2 rfl _ _ w.heap.size 31 _ (0, 0) _ rfl (set4 HR.out) Try.underlying31 rfl (by kernel_rfl)) rfl (SaysV.mk rfl rfl ?_)
    repeat (first | (with_reducible exact HX.out) | (with_reducible exact HX.out.trans (Ext.drewN _ _)) | (with_reducible apply Ext.then_drew) | (with_reducible apply Ext.then_alloc) | (with_reducible refine Ext.setCell ?_ (by simp) _))

set_option maxRecDepth 100000 in
set_option maxHeartbeats 1000000 in
theorem takeof_text (s : ByteArray) (p : Nat) (w : World) (hs : s.size ≤ 70368744177664) (hp : p ≤ s.size) : Calls Try.prog 43 #[.int .u8 4, .string s, .int .i64 (p : Int)] w (SaysV w (rawV s 4 p)) := by
  have kn := fun W => need_any 4 W
  rw [need_four] at kn
  have a0 := as_text_whole
  have a1 := as_text_flag
  have a2 := as_text_double
  have a3 := as_text_text
  have kz := fun W => taketext_any s p W hs hp
  have hr : rawV s 4 p = restV s 4 p := rfl
  rw [hr]
  obtain ⟨⟨k, n, b, t⟩, M, E, hT⟩ : ∃ X M E, restV s 4 p = (X, M, E) := ⟨_, _, _, rfl⟩
  rw [hT] at kz ⊢
  clear hr hT
  go_enter Try.func43, Try.ntmps43
  go_wp2_with ((with_reducible show Calls _ 28 _ _ _); refine (kn _).mono ?_; rintro e w1 ⟨rfl, rfl⟩)
  refine (kz _).mono ?_
  rintro e w1 ⟨rfl, hx⟩
  have hR := hid (hx.block (heap_alloc2_old w _ _))
  have HX := hid (((Ext.alloc w _).then_alloc _).trans hx)
  clear hx kz
  obtain ⟨⟨c0, c1, c2, c3⟩, ⟨m0, m1, m2, m3⟩, z0⟩ := box4 hR.out
  have hv : (VZ.v ⟨k, n, b, t⟩) = .agg #[.int .u8 (k : Int), .int .i64 n, .int .u64 (b : Int), .string t] := rfl
  unfold VZ.v vv
  go_wp2_with fail
  have hR2 := hid (set4 (a := .int .u8 (k : Int)) (b := .int .i64 n) (c := .int .u64 (b : Int)) (d := .string t) hR.out)
  refine bodyPost_ret (ret_cell_tmp2 rfl _ _ w.heap.size 31 _ (0, 0) _ rfl (set4 hR2.out) Try.underlying31 rfl (by kernel_rfl)) rfl (SaysV.mk rfl rfl ?_)
  repeat (first | (with_reducible exact HX.out) | (with_reducible apply Ext.then_drew) | (with_reducible apply Ext.then_alloc) | (with_reducible refine Ext.setCell ?_ (by simp) _))

set_option maxRecDepth 100000 in
set_option maxHeartbeats 1000000 in
theorem takeof_none (s : ByteArray) (k p : Nat) (w : World) (hk : k < 1 ∨ 4 < k) : Calls Try.prog 43 #[.int .u8 (k : Int), .string s, .int .i64 (p : Int)] w (SaysV w (rawV s k p)) := by
  have kn := fun W => need_any k W
  rw [need_none hk] at kn
  have a0 := as_none_whole
  have a1 := as_none_flag
  have a2 := as_none_double
  have a3 := as_none_text
  have hr : rawV s k p = (⟨k, 0, 0, noText⟩, 0, 11) := by
    unfold rawV
    rw [if_neg (by omega), if_neg (by omega), if_neg (by omega), if_neg (by omega)]
  rw [hr]
  clear hr hk
  go_enter Try.func43, Try.ntmps43
  go_wp2_with ((with_reducible show Calls _ 28 _ _ _); refine (kn _).mono ?_; rintro e w1 ⟨rfl, rfl⟩)
  refine bodyPost_ret (ret_cell_tmp2 rfl _ _ w.heap.size 31 _ (0, 0) _ rfl (heap_alloc2_old w _ _) Try.underlying31 rfl (by kernel_rfl)) rfl (SaysV.mk rfl rfl ((Ext.alloc _ _).then_alloc _))

theorem takeof_any (s : ByteArray) (k p : Nat) (w : World) (hs : s.size ≤ 70368744177664) (hp : p ≤ s.size) : Calls Try.prog 43 #[.int .u8 (k : Int), .string s, .int .i64 (p : Int)] w (SaysV w (rawV s k p)) := by
  by_cases h : k < 1 ∨ 4 < k
  · exact takeof_none s k p w h
  · have : k = 1 ∨ k = 2 ∨ k = 3 ∨ k = 4 := by omega
    rcases this with rfl | rfl | rfl | rfl
    · exact takeof_whole s p w hs
    · exact takeof_flag s p w hs
    · exact takeof_double s p w hs
    · exact takeof_text s p w hs hp
end Go.Proofs.Ytkblpbpmaoofgaa
