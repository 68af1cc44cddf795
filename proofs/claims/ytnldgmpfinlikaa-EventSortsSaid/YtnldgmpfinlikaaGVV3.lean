/- Several texts in one: VV3, VV5, VV6. Conditions: those of each. -/
import Derived.BigQuiet
import Derived.Test.YtnldgmpfinlikaaGVV1
import Derived.Test.YtnldgmpfinlikaaBase
import Derived.Test.YtnldgmpfinlikaaVV2
import Derived.Test.YtnldgmpfinlikaaGOct4
/- The landed program's Rank, by its contract; how its switch over types goes. Conditions: numbers within their kinds. -/
namespace Go.Proofs.Ytnldgmpfinlikaa
open Go Go.RowKit

theorem as_whole_whole (w : World) : (Instr.typeAssert (.iface 112 (.agg #[])) 109 112 true).run Try.prog w = .ok (.tuple #[.agg #[], .bool true]) w := by kernel_rfl
theorem as_flag_whole (w : World) : (Instr.typeAssert (.iface 114 (.agg #[])) 109 112 true).run Try.prog w = .ok (.tuple #[.agg #[], .bool false]) w := by kernel_rfl
theorem as_flag_flag (w : World) : (Instr.typeAssert (.iface 114 (.agg #[])) 109 114 true).run Try.prog w = .ok (.tuple #[.agg #[], .bool true]) w := by kernel_rfl
theorem as_double_whole (w : World) : (Instr.typeAssert (.iface 115 (.agg #[])) 109 112 true).run Try.prog w = .ok (.tuple #[.agg #[], .bool false]) w := by kernel_rfl
theorem as_double_flag (w : World) : (Instr.typeAssert (.iface 115 (.agg #[])) 109 114 true).run Try.prog w = .ok (.tuple #[.agg #[], .bool false]) w := by kernel_rfl
theorem as_double_double (w : World) : (Instr.typeAssert (.iface 115 (.agg #[])) 109 115 true).run Try.prog w = .ok (.tuple #[.agg #[], .bool true]) w := by kernel_rfl
theorem as_text_whole (w : World) : (Instr.typeAssert (.iface 116 (.agg #[])) 109 112 true).run Try.prog w = .ok (.tuple #[.agg #[], .bool false]) w := by kernel_rfl
theorem as_text_flag (w : World) : (Instr.typeAssert (.iface 116 (.agg #[])) 109 114 true).run Try.prog w = .ok (.tuple #[.agg #[], .bool false]) w := by kernel_rfl
theorem as_text_double (w : World) : (Instr.typeAssert (.iface 116 (.agg #[])) 109 115 true).run Try.prog w = .ok (.tuple #[.agg #[], .bool false]) w := by kernel_rfl
theorem as_text_text (w : World) : (Instr.typeAssert (.iface 116 (.agg #[])) 109 116 true).run Try.prog w = .ok (.tuple #[.agg #[], .bool true]) w := by kernel_rfl
theorem as_none_whole (w : World) : (Instr.typeAssert (.iface 127 (.agg #[])) 109 112 true).run Try.prog w = .ok (.tuple #[.agg #[], .bool false]) w := by kernel_rfl
theorem as_none_flag (w : World) : (Instr.typeAssert (.iface 127 (.agg #[])) 109 114 true).run Try.prog w = .ok (.tuple #[.agg #[], .bool false]) w := by kernel_rfl
theorem as_none_double (w : World) : (Instr.typeAssert (.iface 127 (.agg #[])) 109 115 true).run Try.prog w = .ok (.tuple #[.agg #[], .bool false]) w := by kernel_rfl
theorem as_none_text (w : World) : (Instr.typeAssert (.iface 127 (.agg #[])) 109 116 true).run Try.prog w = .ok (.tuple #[.agg #[], .bool false]) w := by kernel_rfl

end Go.Proofs.Ytnldgmpfinlikaa

/- The landed program's takeText, takeOf and Take, by their contracts. Conditions: the reach of a string. -/
namespace Go.Proofs.Ytnldgmpfinlikaa
open Go Go.RowKit

theorem rest_text (s : ByteArray) (p : Nat) : restV s 4 p =
    if (takeZ s p).2.2 ≠ 0 then failV (takeZ s p).2.2
    else if 24 < (takeZ s p).1 then failV 5
    else if (s.size : Int) - (takeZ s p).2.1 < (takeZ s p).1 then failV 3
    else (⟨4, 0, 0, s.extract (takeZ s p).2.1.toNat ((takeZ s p).2.1.toNat + (takeZ s p).1)⟩, (takeZ s p).2.1 + (takeZ s p).1, 0) := by
  unfold restV
  rw [if_neg (by decide), if_neg (by decide)]
  split
  · rfl
  · rw [if_neg (by decide)]

set_option maxRecDepth 100000 in
set_option maxHeartbeats 1000000 in
theorem taketext_any (s : ByteArray) (p : Nat) (w : World) (hs : s.size ≤ 70368744177664) (hp : p ≤ s.size) : Calls Try.prog 82 #[.string s, .int .i64 (p : Int)] w (SaysV w (restV s 4 p)) := by
  have hr := rest_text s p
  have kz := fun W => ztake_any s (p : Int) W (by omega)
  rcases takeZ_shape s p hp with ⟨E0, hz, hE0⟩ | ⟨U, m, hz, hm1, hm2, hU⟩
  · rw [hz, if_pos hE0] at hr
    rw [hz] at kz
    rw [hr]
    have hE' : (E0 != 0) = true := bne_iff_ne.2 hE0
    clear hr hz hE0
    go_enter Try.func82, Try.ntmps82
    go_wp2_with fail
    refine (kz _).mono ?_
    rintro e w1 ⟨rfl, hx⟩
    have hR := hid (hx.block (heap_alloc_new w _))
    have HX := hid ((Ext.alloc w _).trans hx)
    clear hx kz
    obtain ⟨⟨c0, c1, c2, c3⟩, ⟨m0, m1, m2, m3⟩, z0⟩ := box4 hR.out
    go_wp2_with fail
    refine bodyPost_ret (ret_cell_tmp2 rfl _ _ w.heap.size 68 _ (0, 0) _ rfl (set4 hR.out) Try.underlying68 rfl (by kernel_rfl)) rfl (SaysV.mk rfl rfl ?_)
    repeat (first | (with_reducible exact HX.out) | (with_reducible apply Ext.then_drew) | (with_reducible apply Ext.then_alloc) | (with_reducible refine Ext.setCell ?_ (by simp) _))
  · rw [hz, if_neg (fun h => h rfl)] at hr
    rw [hz] at kz
    by_cases h24 : 24 < U
    · rw [if_pos h24] at hr
      rw [hr]
      have h24' : (24 : Int) < (U : Int) := by omega
      clear hr hz h24
      go_enter Try.func82, Try.ntmps82
      go_wp2_with fail
      refine (kz _).mono ?_
      rintro e w1 ⟨rfl, hx⟩
      have hR := hid (hx.block (heap_alloc_new w _))
      have HX := hid ((Ext.alloc w _).trans hx)
      clear hx kz
      obtain ⟨⟨c0, c1, c2, c3⟩, ⟨m0, m1, m2, m3⟩, z0⟩ := box4 hR.out
      go_wp2_with fail
      refine bodyPost_ret (ret_cell_tmp2 rfl _ _ w.heap.size 68 _ (0, 0) _ rfl (set4 hR.out) Try.underlying68 rfl (by kernel_rfl)) rfl (SaysV.mk rfl rfl ?_)
      repeat (first | (with_reducible exact HX.out) | (with_reducible apply Ext.then_drew) | (with_reducible apply Ext.then_alloc) | (with_reducible refine Ext.setCell ?_ (by simp) _))
    · rw [if_neg h24] at hr
      have h24' : ¬ (24 : Int) < (U : Int) := by omega
      by_cases hl : (s.size : Int) < (m : Int) + (U : Int)
      · rw [if_pos (by show (s.size : Int) - (m : Int) < (U : Int); omega)] at hr
        rw [hr]
        clear hr hz h24
        go_enter Try.func82, Try.ntmps82
        go_wp2_with fail
        refine (kz _).mono ?_
        rintro e w1 ⟨rfl, hx⟩
        have hR := hid (hx.block (heap_alloc_new w _))
        have HX := hid ((Ext.alloc w _).trans hx)
        clear hx kz
        obtain ⟨⟨c0, c1, c2, c3⟩, ⟨m0, m1, m2, m3⟩, z0⟩ := box4 hR.out
        go_wp2_with fail
        refine bodyPost_ret (ret_cell_tmp2 rfl _ _ w.heap.size 68 _ (0, 0) _ rfl (set4 hR.out) Try.underlying68 rfl (by kernel_rfl)) rfl (SaysV.mk rfl rfl ?_)
        repeat (first | (with_reducible exact HX.out) | (with_reducible apply Ext.then_drew) | (with_reducible apply Ext.then_alloc) | (with_reducible refine Ext.setCell ?_ (by simp) _))
      · rw [if_neg (by show ¬ (s.size : Int) - (m : Int) < (U : Int); omega)] at hr
        rw [hr]
        obtain ⟨T, hT⟩ : ∃ T, T = s.extract m (m + U) := ⟨_, rfl⟩
        have hTs : T.size = U := by rw [hT, ByteArray.size_extract]; omega
        have kt := fun W => voftext_any T W (by omega)
        have ho : (ofTextV T).v = vv 4 0 0 T := by
          unfold ofTextV
          rw [show min T.size 24 = T.size by omega]
          simp [VZ.v]
        rw [ho] at kt
        have HT := hid hT
        have hmU : m + U ≤ s.size := by omega
        rw [hT] at kt
        clear hr hz h24 hT hTs ho
        go_enter Try.func82, Try.ntmps82
        go_wp2_with fail
        refine (kz _).mono ?_
        rintro e w1 ⟨rfl, hx⟩
        have hR := hid (hx.block (heap_alloc_new w _))
        have HX := hid ((Ext.alloc w _).trans hx)
        clear hx kz
        obtain ⟨⟨c0, c1, c2, c3⟩, ⟨m0, m1, m2, m3⟩, z0⟩ := box4 hR.out
        go_wp2_with fail
        refine (kt _).mono ?_
        rintro e w2 ⟨rfl, hx⟩
        replace hR := hid (hx.block hR.out)
        replace HX := hid (HX.out.trans hx)
        clear hx kt c0 c1 c2 c3 m0 m1 m2 m3 z0
        obtain ⟨⟨c0, c1, c2, c3⟩, ⟨m0, m1, m2, m3⟩, z0⟩ := box4 hR.out
        unfold vv
        go_wp2_with fail
        refine bodyPost_ret (ret_cell_tmp2 rfl _ _ w.heap.size 68 _ (0, 0) _ rfl (set4 hR.out) Try.underlying68 rfl (by kernel_rfl)) rfl (SaysV.mk rfl rfl ?_)
        repeat (first | (with_reducible exact HX.out) | (with_reducible apply Ext.then_drew) | (with_reducible apply Ext.then_alloc) | (with_reducible refine Ext.setCell ?_ (by simp) _))

/-- what is read behind a kind, whatever the kind -/
def rawV (s : ByteArray) (k p : Nat) : VZ × Int × Int :=
  if k = 1 then (⟨1, backZ (takeZ s p).1, 0, noText⟩, (takeZ s p).2.1, (takeZ s p).2.2)
  else if k = 2 then (⟨2, (numN s p 0 1 : Int), 0, noText⟩, numP s p 0 1, numE s p 0 1)
  else if k = 3 then (⟨3, 0, worth (takeB s p 0 8).data.toList, noText⟩, takeP s p 0 8, takeE s p 0 8)
  else if k = 4 then restV s 4 p
  else (⟨k, 0, 0, noText⟩, 0, 11)

theorem gen_wp {P : Program} {c : Code} {Q : Exit → Act → World → Prop} {a : Act} {X : World} (F : World → Prop) (hF : F X) (h : ∀ W, F W → c.wp P Q a W) : c.wp P Q a X := h X hF

set_option maxRecDepth 100000 in
set_option maxHeartbeats 1000000 in
theorem takeof_whole (s : ByteArray) (p : Nat) (w : World) (hs : s.size ≤ 70368744177664) : Calls Try.prog 77 #[.int .u8 1, .string s, .int .i64 (p : Int)] w (SaysV w (rawV s 1 p)) := by
  have kn := fun W => need_any 1 W
  rw [need_one] at kn
  have a0 := as_whole_whole
  have kz := fun W => takeint_any s (p : Int) W (by omega)
  have hr : rawV s 1 p = (⟨1, (takeI s p).1, 0, noText⟩, (takeI s p).2.1, (takeI s p).2.2) := rfl
  rw [hr]
  obtain ⟨N, M, E, hT⟩ : ∃ N M E, takeI s (p : Int) = (N, M, E) := ⟨_, _, _, rfl⟩
  rw [hT] at kz ⊢
  clear hr hT
  go_enter Try.func77, Try.ntmps77
  go_wp2_with ((with_reducible show Calls _ 56 _ _ _); refine (kn _).mono ?_; rintro e w1 ⟨rfl, rfl⟩)
  refine (kz _).mono ?_
  rintro e w1 ⟨rfl, hx⟩
  have hR := hid (hx.block (heap_alloc2_old w _ _))
  have HX := hid (((Ext.alloc w _).then_alloc _).trans hx)
  clear hx kz
  obtain ⟨⟨c0, c1, c2, c3⟩, ⟨m0, m1, m2, m3⟩, z0⟩ := box4 hR.out
  go_wp2_with fail
  have hR2 : Hid ((w1.setCell ⟨w.heap.size, 1, none⟩ (.int .i64 N)).heap[w.heap.size]? = some (.cells #[.int .u8 1, .int .i64 N, .int .u64 0, .string ⟨#[]⟩] 68 (0, 0))) := heap_setCell_same w1 _ 1 _ _ _ hR.out
  refine bodyPost_ret (ret_cell_tmp2 rfl _ _ w.heap.size 68 _ (0, 0) _ rfl (set4 hR2.out) Try.underlying68 rfl (by kernel_rfl)) rfl (SaysV.mk rfl rfl ?_)
  repeat (first | (with_reducible exact HX.out) | (with_reducible apply Ext.then_drew) | (with_reducible apply Ext.then_alloc) | (with_reducible refine Ext.setCell ?_ (by simp) _))

set_option maxRecDepth 100000 in
set_option maxHeartbeats 1000000 in
theorem takeof_flag (s : ByteArray) (p : Nat) (w : World) (hs : s.size ≤ 70368744177664) : Calls Try.prog 77 #[.int .u8 2, .string s, .int .i64 (p : Int)] w (SaysV w (rawV s 2 p)) := by
  have kn := fun W => need_any 2 W
  rw [need_two] at kn
  have a0 := as_flag_whole
  have a1 := as_flag_flag
  have kz := fun W => rdnum_any s (p : Int) 0 1 W (by omega)
  have hr : rawV s 2 p = (⟨2, (numN s p 0 1 : Int), 0, noText⟩, numP s p 0 1, numE s p 0 1) := rfl
  rw [hr]
  unfold rd at kz
  generalize numN s p 0 1 = N at *
  generalize numP s p 0 1 = M at *
  generalize numE s p 0 1 = E at *
  clear hr
  go_enter Try.func77, Try.ntmps77
  go_wp2_with ((with_reducible show Calls _ 56 _ _ _); refine (kn _).mono ?_; rintro e w1 ⟨rfl, rfl⟩)
  refine (kz _).mono ?_
  rintro e w1 ⟨rfl, hx⟩
  have hR := hid (hx.block (heap_alloc2_old w _ _))
  have hV := hid (hx.block (heap_alloc2_new w _ _))
  have HX := hid (((Ext.alloc w _).then_alloc _).trans hx)
  clear hx kz
  obtain ⟨⟨c0, c1, c2, c3⟩, ⟨m0, m1, m2, m3⟩, z0⟩ := box4 hR.out
  obtain ⟨⟨d0, d1, d2⟩, ⟨g0, g1, g2⟩, z1⟩ := box3 hV.out
  go_wp2_with fail
  clear c0 c1 c2 c3 m0 m1 m2 m3 d0 d1 d2 g0 g1 g2
  refine gen_wp (fun W => W.heap[w.heap.size]? = some (.cells #[.int .u8 2, .int .i64 (N : Int), .int .u64 0, .string ⟨#[]⟩] 68 (0, 0)) ∧ W.heap[w.heap.size + 1]? = some (.cells #[.string s, .int .i64 M, .int .i64 E] 134 (0, 0)) ∧ Ext w W) ⟨?_, ?_, ?_⟩ ?_
  · exact heap_setCell_same _ w.heap.size 1 _ _ _ ((heap_setCell_other _ _ _ _ (by simp)).trans ((heap_setCell_other _ _ _ _ (by simp)).trans ((heap_setCell_other _ _ _ _ (by simp)).trans hR.out)))
  · exact (heap_setCell_other _ _ _ _ (by simp)).trans (set3 hV.out)
  · repeat (first | (with_reducible exact HX.out) | (with_reducible refine Ext.setCell ?_ (by simp) _))
  · rintro W ⟨hR, hV, HX⟩
    have HR := hid hR
    replace HX := hid HX
    obtain ⟨⟨c0, c1, c2, c3⟩, ⟨m0, m1, m2, m3⟩, y0⟩ := box4 hR
    obtain ⟨⟨d0, d1, d2⟩, ⟨g0, g1, g2⟩, y1⟩ := box3 hV
    clear hR hV
    go_quiet (fail)
    go_wp2_with fail
    refine bodyPost_ret (ret_cell_tmp2 rfl _ _ w.heap.size 68 _ (0, 0) _ rfl (set4 HR.out) Try.underlying68 rfl (by kernel_rfl)) rfl (SaysV.mk rfl rfl ?_)
    repeat (first | (with_reducible exact HX.out) | (with_reducible exact HX.out.trans (Ext.drewN _ _)) | (with_reducible apply Ext.then_drew) | (with_reducible apply Ext.then_alloc) | (with_reducible refine Ext.setCell ?_ (by simp) _))

set_option maxRecDepth 100000 in
set_option maxHeartbeats 1000000 in
theorem takeof_double (s : ByteArray) (p : Nat) (w : World) (hs : s.size ≤ 70368744177664) : Calls Try.prog 77 #[.int .u8 3, .string s, .int .i64 (p : Int)] w (SaysV w (rawV s 3 p)) := by
  have kn := fun W => need_any 3 W
  rw [need_three] at kn
  have a0 := as_double_whole
  have a1 := as_double_flag
  have a2 := as_double_double
  have kz := fun W => rdword_any s (p : Int) 0 W (by omega)
  have hr : rawV s 3 p = (⟨3, 0, worth (takeB s p 0 8).data.toList, noText⟩, takeP s p 0 8, takeE s p 0 8) := rfl
  rw [hr]
  unfold rd at kz
  generalize worth (takeB s p 0 8).data.toList = N at *
  generalize takeP s p 0 8 = M at *
  generalize takeE s p 0 8 = E at *
  clear hr
  go_enter Try.func77, Try.ntmps77
  go_wp2_with ((with_reducible show Calls _ 56 _ _ _); refine (kn _).mono ?_; rintro e w1 ⟨rfl, rfl⟩)
  refine (kz _).mono ?_
  rintro e w1 ⟨rfl, hx⟩
  have hR := hid (hx.block (heap_alloc2_old w _ _))
  have hV := hid (hx.block (heap_alloc2_new w _ _))
  have HX := hid (((Ext.alloc w _).then_alloc _).trans hx)
  clear hx kz
  obtain ⟨⟨c0, c1, c2, c3⟩, ⟨m0, m1, m2, m3⟩, z0⟩ := box4 hR.out
  obtain ⟨⟨d0, d1, d2⟩, ⟨g0, g1, g2⟩, z1⟩ := box3 hV.out
  go_wp2_with fail
  clear c0 c1 c2 c3 m0 m1 m2 m3 d0 d1 d2 g0 g1 g2
  refine gen_wp (fun W => W.heap[w.heap.size]? = some (.cells #[.int .u8 3, .int .i64 0, .int .u64 (N : Int), .string ⟨#[]⟩] 68 (0, 0)) ∧ W.heap[w.heap.size + 1]? = some (.cells #[.string s, .int .i64 M, .int .i64 E] 134 (0, 0)) ∧ Ext w W) ⟨?_, ?_, ?_⟩ ?_
  · exact heap_setCell_same _ w.heap.size 2 _ _ _ ((heap_setCell_other _ _ _ _ (by simp)).trans ((heap_setCell_other _ _ _ _ (by simp)).trans ((heap_setCell_other _ _ _ _ (by simp)).trans hR.out)))
  · exact (heap_setCell_other _ _ _ _ (by simp)).trans (set3 hV.out)
  · repeat (first | (with_reducible exact HX.out) | (with_reducible refine Ext.setCell ?_ (by simp) _))
  · rintro W ⟨hR, hV, HX⟩
    have HR := hid hR
    replace HX := hid HX
    obtain ⟨⟨c0, c1, c2, c3⟩, ⟨m0, m1, m2, m3⟩, y0⟩ := box4 hR
    obtain ⟨⟨d0, d1, d2⟩, ⟨g0, g1, g2⟩, y1⟩ := box3 hV
    clear hR hV
    go_quiet (fail)
    go_wp2_with fail
    refine bodyPost_ret (ret_cell_tmp2 rfl _ _ w.heap.size 68 _ (0, 0) _ rfl (set4 HR.out) Try.underlying68 rfl (by kernel_rfl)) rfl (SaysV.mk rfl rfl ?_)
    repeat (first | (with_reducible exact HX.out) | (with_reducible exact HX.out.trans (Ext.drewN _ _)) | (with_reducible apply Ext.then_drew) | (with_reducible apply Ext.then_alloc) | (with_reducible refine Ext.setCell ?_ (by simp) _))

set_option maxRecDepth 100000 in
set_option maxHeartbeats 1000000 in
theorem takeof_text (s : ByteArray) (p : Nat) (w : World) (hs : s.size ≤ 70368744177664) (hp : p ≤ s.size) : Calls Try.prog 77 #[.int .u8 4, .string s, .int .i64 (p : Int)] w (SaysV w (rawV s 4 p)) := by
  have kn := fun W => need_any 4 W
  rw [need_four] at kn
  have a0 := as_text_whole
  have a1 := as_text_flag
  have a2 := as_text_double
  have a3 := as_text_text
  have kz := fun W => taketext_any s p W hs hp
  have hr : rawV s 4 p = restV s 4 p := rfl
  rw [hr]
  obtain ⟨⟨k, n, b, t⟩, M, E, hT⟩ : ∃ X M E, restV s 4 p = (X, M, E) := ⟨_, _, _, rfl⟩
  rw [hT] at kz ⊢
  clear hr hT
  go_enter Try.func77, Try.ntmps77
  go_wp2_with ((with_reducible show Calls _ 56 _ _ _); refine (kn _).mono ?_; rintro e w1 ⟨rfl, rfl⟩)
  refine (kz _).mono ?_
  rintro e w1 ⟨rfl, hx⟩
  have hR := hid (hx.block (heap_alloc2_old w _ _))
  have HX := hid (((Ext.alloc w _).then_alloc _).trans hx)
  clear hx kz
  obtain ⟨⟨c0, c1, c2, c3⟩, ⟨m0, m1, m2, m3⟩, z0⟩ := box4 hR.out
  have hv : (VZ.v ⟨k, n, b, t⟩) = .agg #[.int .u8 (k : Int), .int .i64 n, .int .u64 (b : Int), .string t] := rfl
  unfold VZ.v vv
  go_wp2_with fail
  have hR2 := hid (set4 (a := .int .u8 (k : Int)) (b := .int .i64 n) (c := .int .u64 (b : Int)) (d := .string t) hR.out)
  refine bodyPost_ret (ret_cell_tmp2 rfl _ _ w.heap.size 68 _ (0, 0) _ rfl (set4 hR2.out) Try.underlying68 rfl (by kernel_rfl)) rfl (SaysV.mk rfl rfl ?_)
  repeat (first | (with_reducible exact HX.out) | (with_reducible apply Ext.then_drew) | (with_reducible apply Ext.then_alloc) | (with_reducible refine Ext.setCell ?_ (by simp) _))

set_option maxRecDepth 100000 in
set_option maxHeartbeats 1000000 in
theorem takeof_none (s : ByteArray) (k p : Nat) (w : World) (hk : k < 1 ∨ 4 < k) : Calls Try.prog 77 #[.int .u8 (k : Int), .string s, .int .i64 (p : Int)] w (SaysV w (rawV s k p)) := by
  have kn := fun W => need_any k W
  rw [need_none hk] at kn
  have a0 := as_none_whole
  have a1 := as_none_flag
  have a2 := as_none_double
  have a3 := as_none_text
  have hr : rawV s k p = (⟨k, 0, 0, noText⟩, 0, 11) := by
    unfold rawV
    rw [if_neg (by omega), if_neg (by omega), if_neg (by omega), if_neg (by omega)]
  rw [hr]
  clear hr hk
  go_enter Try.func77, Try.ntmps77
  go_wp2_with ((with_reducible show Calls _ 56 _ _ _); refine (kn _).mono ?_; rintro e w1 ⟨rfl, rfl⟩)
  refine bodyPost_ret (ret_cell_tmp2 rfl _ _ w.heap.size 68 _ (0, 0) _ rfl (heap_alloc2_old w _ _) Try.underlying68 rfl (by kernel_rfl)) rfl (SaysV.mk rfl rfl ((Ext.alloc _ _).then_alloc _))

theorem takeof_any (s : ByteArray) (k p : Nat) (w : World) (hs : s.size ≤ 70368744177664) (hp : p ≤ s.size) : Calls Try.prog 77 #[.int .u8 (k : Int), .string s, .int .i64 (p : Int)] w (SaysV w (rawV s k p)) := by
  by_cases h : k < 1 ∨ 4 < k
  · exact takeof_none s k p w h
  · have : k = 1 ∨ k = 2 ∨ k = 3 ∨ k = 4 := by omega
    rcases this with rfl | rfl | rfl | rfl
    · exact takeof_whole s p w hs
    · exact takeof_flag s p w hs
    · exact takeof_double s p w hs
    · exact takeof_text s p w hs hp
end Go.Proofs.Ytnldgmpfinlikaa

/- The landed program's Take of a value, by its contract. Conditions: the reach of a string. -/
namespace Go.Proofs.Ytnldgmpfinlikaa
open Go Go.RowKit

def finishV (x : VZ × Int × Int) : VZ × Int × Int := if x.2.2 ≠ 0 then failV x.2.2 else if checkV x.1.k x.1.n x.1.b x.1.t ≠ 0 then failV (checkV x.1.k x.1.n x.1.b x.1.t) else x
theorem finish_fail {x : VZ × Int × Int} (h : x.2.2 ≠ 0) : finishV x = failV x.2.2 := if_pos h
theorem finish_checked (x : VZ × Int × Int) (h : x.2.2 = 0) : finishV x = checkedV x := by
  unfold finishV checkedV
  rw [if_neg (c := x.2.2 ≠ 0) (fun h2 => h2 h), if_neg (c := x.2.2 ≠ 0) (fun h2 => h2 h)]
theorem finish_failV (e : Int) (h : e ≠ 0) : finishV (failV e) = failV e := if_pos h

theorem raw_flag (s : ByteArray) (q : Nat) (h : q ≤ s.size) : finishV (rawV s 2 q) = checkedV (restV s 2 q) := by
  have hr : rawV s 2 q = (⟨2, (numN s q 0 1 : Int), 0, noText⟩, numP s q 0 1, numE s q 0 1) := rfl
  have hn : numE s q 0 1 = takeE s q 0 1 := if_neg (by omega)
  have hp : numP s q 0 1 = takeP s q 0 1 := if_neg (by omega)
  have hw : numN s q 0 1 = worth (takeB s q 0 1).data.toList := if_neg (by omega)
  rw [hr, hn, hp, hw]
  unfold restV
  rw [if_pos rfl]
  by_cases h1 : q = s.size
  · have hl : leftOf s (q : Int) < 1 := by unfold leftOf; rw [if_neg (by omega)]; omega
    rw [(take_cut hl).2.1, if_pos h1, checked_fail 3 (by decide)]
    exact finish_fail (by show (3 : Int) ≠ 0; decide)
  · have hl : ¬ leftOf s (q : Int) < 1 := by unfold leftOf; rw [if_neg (by omega)]; omega
    have hq : q < s.size := by omega
    have ht := take_fine hl
    rw [ht.1, ht.2.1, ht.2.2, if_neg h1, finish_checked _ rfl]
    have hc : worth (cutOf s (q : Int).toNat (1 : Int).toNat).data.toList = (s.data.toList[q]?.getD 0).toNat := by
      unfold cutOf
      rw [ByteArray.data_extract, Array.toList_extract, List.extract_eq_take_drop, byte_at s q hq]
      show worth (List.take (q + 1 - q) (List.drop q s.data.toList)) = _
      rw [show q + 1 - q = 1 by omega, drop_cons s q hq]
      simp [worth]
    rw [hc]

theorem raw_real (s : ByteArray) (q : Nat) (h : q ≤ s.size) : finishV (rawV s 3 q) = checkedV (restV s 3 q) := by
  have hr : rawV s 3 q = (⟨3, 0, worth (takeB s q 0 8).data.toList, noText⟩, takeP s q 0 8, takeE s q 0 8) := rfl
  rw [hr]
  unfold restV
  rw [if_neg (by decide), if_pos rfl]
  by_cases h1 : s.size - q < 8
  · have hl : leftOf s (q : Int) < 8 := by unfold leftOf; rw [if_neg (by omega)]; omega
    rw [(take_cut hl).2.1, if_pos h1, checked_fail 3 (by decide)]
    exact finish_fail (by show (3 : Int) ≠ 0; decide)
  · have hl : ¬ leftOf s (q : Int) < 8 := by unfold leftOf; rw [if_neg (by omega)]; omega
    have ht := take_fine hl
    rw [ht.1, ht.2.1, ht.2.2, if_neg h1, finish_checked _ rfl]
    have hc : (cutOf s (q : Int).toNat (8 : Int).toNat).data.toList = (s.data.toList.drop q).take 8 := by
      unfold cutOf
      rw [ByteArray.data_extract, Array.toList_extract, List.extract_eq_take_drop]
      show List.take (q + 8 - q) (List.drop q s.data.toList) = _
      rw [show q + 8 - q = 8 by omega]
    rw [hc]

theorem raw_int (s : ByteArray) (q : Nat) (_h : q ≤ s.size) : finishV (rawV s 1 q) = checkedV (restV s 1 q) := by
  have hr : rawV s 1 q = (⟨1, backZ (takeZ s q).1, 0, noText⟩, (takeZ s q).2.1, (takeZ s q).2.2) := rfl
  rw [hr]
  unfold restV
  rw [if_neg (by decide), if_neg (by decide)]
  by_cases h1 : (takeZ s q).2.2 = 0
  · rw [if_neg (fun h2 => h2 h1), if_pos rfl, finish_checked _ h1, h1]
  · rw [if_pos h1, checked_fail _ h1]
    exact finish_fail h1

theorem raw_text (s : ByteArray) (q : Nat) (_h : q ≤ s.size) : finishV (rawV s 4 q) = checkedV (restV s 4 q) := by
  have hr : rawV s 4 q = restV s 4 q := rfl
  rw [hr]
  by_cases h1 : (restV s 4 q).2.2 = 0
  · exact finish_checked _ h1
  · have hf : restV s 4 q = failV (restV s 4 q).2.2 := by
      rw [rest_text] at h1 ⊢
      split
      · rfl
      · split
        · rfl
        · split
          · rfl
          · exact absurd (by rw [if_neg (by assumption), if_neg (by assumption), if_neg (by assumption)]) h1
    rw [hf, checked_fail _ h1]
    exact finish_failV _ h1

theorem take_raw (s : ByteArray) (p k : Nat) (h : p < s.size) (hk : s[p].toNat = k) : takeV s (p : Int) = finishV (rawV s k (p + 1)) := by
  by_cases h1 : k < 1 ∨ 4 < k
  · rw [take_none s p h (by rw [hk]; exact h1)]
    have hr : rawV s k (p + 1) = (⟨k, 0, 0, noText⟩, 0, 11) := by
      unfold rawV
      rw [if_neg (by omega), if_neg (by omega), if_neg (by omega), if_neg (by omega)]
    rw [hr]
    exact (finish_fail (x := (⟨k, 0, 0, noText⟩, 0, 11)) (show (11 : Int) ≠ 0 by decide)).symm
  · rw [take_at s p k h hk (by omega) (by omega)]
    have : k = 1 ∨ k = 2 ∨ k = 3 ∨ k = 4 := by omega
    rcases this with rfl | rfl | rfl | rfl
    · exact (raw_int s (p + 1) (by omega)).symm
    · exact (raw_flag s (p + 1) (by omega)).symm
    · exact (raw_real s (p + 1) (by omega)).symm
    · exact (raw_text s (p + 1) (by omega)).symm

theorem raw_bounds (s : ByteArray) (k p : Nat) (_hk : k ≤ 255) (_hs : s.size ≤ 70368744177664) : (rawV s k p).1.b ≤ 18446744073709551615 ∧ (rawV s k p).1.t.size ≤ 9223372036854775807 := by
  have h0 : noText.size ≤ 9223372036854775807 := by decide
  unfold rawV
  split
  · exact ⟨Nat.zero_le _, h0⟩
  · split
    · exact ⟨Nat.zero_le _, h0⟩
    · split
      · refine ⟨?_, h0⟩
        have h3 := worth_lt (takeB s (p : Int) 0 8).data.toList
        have h5 := takeB_size s (p : Int) 0 8
        have h4 : (256 : Nat) ^ (takeB s (p : Int) 0 8).data.toList.length ≤ 256 ^ 8 := Nat.pow_le_pow_right (by decide) h5
        have h6 : (256 : Nat) ^ 8 = 18446744073709551616 := by decide
        show worth (takeB s (p : Int) 0 8).data.toList ≤ _
        omega
      · split
        · rw [rest_text]
          (repeat' split)
          · exact ⟨Nat.zero_le _, h0⟩
          · exact ⟨Nat.zero_le _, h0⟩
          · exact ⟨Nat.zero_le _, h0⟩
          · refine ⟨Nat.zero_le _, ?_⟩
            show (s.extract _ _).size ≤ _
            rw [ByteArray.size_extract]
            omega
        · exact ⟨Nat.zero_le _, h0⟩

theorem vcheck_free (k : Nat) (n : Int) (b : Nat) (t : ByteArray) (w : World) (hb : b ≤ 18446744073709551615) (ht : t.size ≤ 9223372036854775807) : Calls Try.prog 55 #[vv k n b t] w (Says w (.int .i64 (checkV k n b t))) := by
  by_cases h : k < 1 ∨ 4 < k
  · exact vcheck_none k n b t w h
  · have : k = 1 ∨ k = 2 ∨ k = 3 ∨ k = 4 := by omega
    rcases this with rfl | rfl | rfl | rfl
    · exact vcheck_whole n b t w
    · exact vcheck_flag n b t w
    · exact vcheck_double n b t w hb
    · exact vcheck_text n b t w ht

set_option maxHeartbeats 1000000 in
theorem vtake_out (s : ByteArray) (p : Int) (w : World) (hs : s.size ≤ 70368744177664) (h : p < 0 ∨ s.size ≤ p) : Calls Try.prog 68 #[.string s, .int .i64 p] w (SaysV w (takeV s p)) := by
  by_cases h1 : p < 0 ∨ s.size < p
  · have hr : takeV s p = failV 2 := if_pos h1
    rw [hr]
    rcases h1 with h1 | h1
    · go_enter Try.func68, Try.ntmps68
      go_wp2_with fail
      exact bodyPost_ret (ret_cell_tmp2 rfl _ _ w.heap.size 68 _ (0, 0) _ rfl (heap_alloc_new w _) Try.underlying68 rfl (by kernel_rfl)) rfl (SaysV.mk rfl rfl (Ext.alloc _ _))
    · have h0 : ¬ p < 0 := by omega
      go_enter Try.func68, Try.ntmps68
      go_wp2_with fail
      exact bodyPost_ret (ret_cell_tmp2 rfl _ _ w.heap.size 68 _ (0, 0) _ rfl (heap_alloc_new w _) Try.underlying68 rfl (by kernel_rfl)) rfl (SaysV.mk rfl rfl (Ext.alloc _ _))
  · have hr : takeV s p = failV 3 := by unfold takeV; rw [if_neg h1, if_pos (by omega)]
    have hp : p = (s.size : Int) := by omega
    subst hp
    rw [hr]
    have hb : (s.size : Int) ≤ 9223372036854775807 := by omega
    clear hr h1 h
    go_enter Try.func68, Try.ntmps68
    go_wp2_with fail
    exact bodyPost_ret (ret_cell_tmp2 rfl _ _ w.heap.size 68 _ (0, 0) _ rfl (heap_alloc_new w _) Try.underlying68 rfl (by kernel_rfl)) rfl (SaysV.mk rfl rfl (Ext.alloc _ _))

set_option maxRecDepth 100000 in
set_option maxHeartbeats 1000000 in
theorem vtake_in (s : ByteArray) (p : Nat) (w : World) (hs : s.size ≤ 70368744177664) (hp : p < s.size) : Calls Try.prog 68 #[.string s, .int .i64 (p : Int)] w (SaysV w (takeV s (p : Int))) := by
  obtain ⟨k0, hk0⟩ : ∃ k0, s[p].toNat = k0 := ⟨_, rfl⟩
  have hk255 : k0 ≤ 255 := by have := s[p].toNat_lt; omega
  rw [take_raw s p k0 hp hk0]
  have hk' : (s[p].toNat : Int) = (k0 : Int) := by omega
  have kt := fun W => takeof_any s k0 (p + 1) W hs (by omega)
  have hb := raw_bounds s k0 (p + 1) hk255 hs
  obtain ⟨⟨k, n, b, t⟩, M, E, hT⟩ : ∃ X M E, rawV s k0 (p + 1) = (X, M, E) := ⟨_, _, _, rfl⟩
  rw [hT] at kt hb ⊢
  rw [show ((p + 1 : Nat) : Int) = (p : Int) + 1 from rfl] at kt
  have kc := fun W => vcheck_free k n b t W hb.1 hb.2
  have HF := hid (fun h : E ≠ 0 => finish_fail (x := (⟨k, n, b, t⟩, M, E)) h)
  have HG := hid (fun (h : E = 0) (hc : checkV k n b t = 0) => show finishV (⟨k, n, b, t⟩, M, E) = (⟨k, n, b, t⟩, M, E) by rw [finish_checked _ h, h]; exact checked_good hc)
  have HB := hid (fun (h : E = 0) (hc : checkV k n b t ≠ 0) => show finishV (⟨k, n, b, t⟩, M, E) = failV (checkV k n b t) by rw [finish_checked _ h, h]; exact checked_bad hc)
  generalize checkV k n b t = C at *
  obtain ⟨R, hR⟩ : ∃ R, R = finishV (⟨k, n, b, t⟩, M, E) := ⟨_, rfl⟩
  rw [← hR] at HF HG HB ⊢
  replace kt : ∀ W, Calls Try.prog 77 #[.int .u8 (k0 : Int), .string s, .int .i64 ((p : Int) + 1)] W (fun e w' => e = .returned (.tuple #[.agg #[.int .u8 (k : Int), .int .i64 n, .int .u64 (b : Int), .string t], .int .i64 M, .int .i64 E]) ∧ Ext W w') := kt
  unfold vv at kc
  clear hT hb hk0 hR
  go_enter Try.func68, Try.ntmps68
  go_wp2_with fail
  refine (kt _).mono ?_
  rintro e w1 ⟨rfl, hx⟩
  have hR := hid (hx.block (heap_alloc_new w _))
  have HX := hid ((Ext.alloc w _).trans hx)
  clear hx kt
  obtain ⟨⟨c0, c1, c2, c3⟩, ⟨m0, m1, m2, m3⟩, z0⟩ := box4 hR.out
  by_cases h0 : E = 0
  · subst h0
    go_wp2_with fail
    refine (kc _).mono ?_
    rintro e w2 ⟨rfl, hx⟩
    replace hR := hid (hx.block (set4 hR.out))
    replace HX : Hid (Ext w w2) := by
      refine Ext.trans ?_ hx
      repeat (first | (with_reducible exact HX.out) | (with_reducible refine Ext.setCell ?_ (by simp) _))
    clear hx kc c0 c1 c2 c3 m0 m1 m2 m3 z0
    obtain ⟨⟨c0, c1, c2, c3⟩, ⟨m0, m1, m2, m3⟩, z0⟩ := box4 hR.out
    by_cases hC : C = 0
    · have HR := hid (HG.out trivial hC)
      subst hC
      clear HF HB HG
      go_wp2_with fail
      refine bodyPost_ret (ret_cell_tmp2 rfl _ _ w.heap.size 68 _ (0, 0) _ rfl (set4 hR.out) Try.underlying68 rfl (by kernel_rfl)) rfl (SaysV.mk HR.out rfl ?_)
      repeat (first | (with_reducible exact HX.out) | (with_reducible apply Ext.then_drew) | (with_reducible apply Ext.then_alloc) | (with_reducible refine Ext.setCell ?_ (by simp) _))
    · have HR := hid (HB.out trivial hC)
      have hC' : (C != 0) = true := bne_iff_ne.2 hC
      clear HF HB HG hC
      go_wp2_with fail
      refine bodyPost_ret (ret_cell_tmp2 rfl _ _ w.heap.size 68 _ (0, 0) _ rfl (set4 hR.out) Try.underlying68 rfl (by kernel_rfl)) rfl (SaysV.mk HR.out rfl ?_)
      repeat (first | (with_reducible exact HX.out) | (with_reducible apply Ext.then_drew) | (with_reducible apply Ext.then_alloc) | (with_reducible refine Ext.setCell ?_ (by simp) _))
  · have hE' : (E != 0) = true := bne_iff_ne.2 h0
    have hE2 : (E == 0) = false := beq_eq_false_iff_ne.2 h0
    have HR := hid (HF.out h0)
    go_wp2_with fail
    refine bodyPost_ret (ret_cell_tmp2 rfl _ _ w.heap.size 68 _ (0, 0) _ rfl (set4 (set4 hR.out)) Try.underlying68 rfl (by kernel_rfl)) rfl (SaysV.mk HR.out rfl ?_)
    repeat (first | (with_reducible exact HX.out) | (with_reducible apply Ext.then_drew) | (with_reducible apply Ext.then_alloc) | (with_reducible refine Ext.setCell ?_ (by simp) _))

theorem vtake_any (s : ByteArray) (p : Int) (w : World) (hs : s.size ≤ 70368744177664) (hp0 : -9223372036854775808 ≤ p) (hp1 : p ≤ 9223372036854775807) : Calls Try.prog 68 #[.string s, .int .i64 p] w (SaysV w (takeV s p)) := by
  by_cases h : p < 0 ∨ s.size ≤ p
  · exact vtake_out s p w hs h
  · obtain ⟨q, rfl⟩ := Int.eq_ofNat_of_zero_le (show 0 ≤ p by omega)
    exact vtake_in s q w hs (by omega)
end Go.Proofs.Ytnldgmpfinlikaa

