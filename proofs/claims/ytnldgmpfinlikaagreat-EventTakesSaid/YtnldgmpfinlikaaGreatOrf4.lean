/- telltaleref01.RWord and RStr, by their contracts. Conditions: the reach of a string. -/
import Derived.Test.YtnldgmpfinlikaaGreatBase
import Derived.Test.YtnldgmpfinlikaaGreatOrf3
namespace Go.Proofs.YtnldgmpfinlikaaGreat
open Go Go.RowKit

set_option maxHeartbeats 400000 in
theorem rrword_err (s : ByteArray) (p e : Int) (w : World) (hs : s.size ≤ 9223372036854775807) (he : ¬ e = 0) :
    Calls Tryz.prog 68 #[.agg #[.string s, .int .i64 p, .int .i64 e]] w (Says2 w (rd s (takeP s p e 8) (takeE s p e 8)) (.int .u64 (worth (takeB s p e 8).data.toList))) := by
  have h1 := take_err (s := s) (p := p) (n := 8) he
  have H1 := hid h1
  clear h1
  go_enter Tryz.func68, Tryz.ntmps68
  go_wp2_with fail
  refine (rest_any s p e _ hs).mono ?_
  rintro e1 w1 ⟨rfl, hx⟩
  have hA := hid (hx.block (heap_alloc2_old w _ _))
  have hD := hid (hx.block (heap_alloc2_new w _ _))
  have HX := hid (((Ext.alloc w _).then_alloc _).trans hx)
  clear hx
  obtain ⟨⟨c0, c1, c2⟩, ⟨f0, f1, f2⟩, y1⟩ := box3 hA.out
  obtain ⟨⟨d0, d1, d2⟩, ⟨g0, g1, g2⟩, z1⟩ := box3 hD.out
  have hne : (e != 0) = true := by simp [he]
  go_wp2_with fail
  refine bodyPost_ret (ret_cell_tmp rfl _ _ (w.heap.size + 1) 131 _ (0, 0) _ rfl (set3 hD.out) Tryz.underlying131 rfl (by kernel_rfl)) rfl ⟨?_, ?_⟩
  · rw [H1.out.1, H1.out.2.1, H1.out.2.2]; rfl
  · repeat (first | (with_reducible exact HX.out) | (with_reducible apply Ext.then_drew) | (with_reducible apply Ext.then_alloc) | (with_reducible refine Ext.setCell ?_ (by simp) _))

set_option maxHeartbeats 400000 in
theorem rrword_cut (s : ByteArray) (p : Int) (w : World) (hs : s.size ≤ 9223372036854775807) (hl : leftOf s p < 8) :
    Calls Tryz.prog 68 #[.agg #[.string s, .int .i64 p, .int .i64 0]] w (Says2 w (rd s (takeP s p 0 8) (takeE s p 0 8)) (.int .u64 (worth (takeB s p 0 8).data.toList))) := by
  have h1 := take_cut hl
  have hsz : ((restOf s p).size : Int) < 8 := by rw [restOf_size]; exact hl
  have H1 := hid h1
  clear h1 hl
  go_enter Tryz.func68, Tryz.ntmps68
  go_wp2_with fail
  refine (rest_any s p 0 _ hs).mono ?_
  rintro e1 w1 ⟨rfl, hx⟩
  have hA := hid (hx.block (heap_alloc2_old w _ _))
  have hD := hid (hx.block (heap_alloc2_new w _ _))
  have HX := hid (((Ext.alloc w _).then_alloc _).trans hx)
  clear hx
  obtain ⟨⟨c0, c1, c2⟩, ⟨f0, f1, f2⟩, y1⟩ := box3 hA.out
  obtain ⟨⟨d0, d1, d2⟩, ⟨g0, g1, g2⟩, z1⟩ := box3 hD.out
  go_wp2_with fail
  refine bodyPost_ret (ret_cell_tmp rfl _ _ (w.heap.size + 1) 131 _ (0, 0) _ rfl (set3 ((heap_setCell_other _ _ _ _ (by simp)).trans hD.out)) Tryz.underlying131 rfl (by kernel_rfl)) rfl ⟨?_, ?_⟩
  · rw [H1.out.1, H1.out.2.1, H1.out.2.2]; rfl
  · repeat (first | (with_reducible exact HX.out) | (with_reducible apply Ext.then_drew) | (with_reducible apply Ext.then_alloc) | (with_reducible refine Ext.setCell ?_ (by simp) _))

set_option maxHeartbeats 1000000 in
theorem rrword_fine (s : ByteArray) (p : Int) (w : World) (hs : s.size ≤ 9223372036854775807) (hl : 8 ≤ leftOf s p) :
    Calls Tryz.prog 68 #[.agg #[.string s, .int .i64 p, .int .i64 0]] w (Says2 w (rd s (takeP s p 0 8) (takeE s p 0 8)) (.int .u64 (worth (takeB s p 0 8).data.toList))) := by
  have h1 : takeP s p 0 8 = p + 8 ∧ takeE s p 0 8 = 0 := by
    obtain ⟨a, b, _⟩ := take_fine (s := s) (p := p) (n := 8) (by omega)
    exact ⟨a, b⟩
  have hsz := restOf_size s p
  have h2 : (takeB s p 0 8).data.toList = (restOf s p).data.toList.take 8 := (rest_take s p 8 (by omega) (by omega)).symm
  have hpr : 0 ≤ p ∧ p + 8 ≤ s.size := by
    unfold leftOf at hl
    split at hl <;> omega
  have H1 := hid h1
  have H2 := hid h2
  have hkr : 8 ≤ (restOf s p).size := by omega
  have hszn : (restOf s p).size ≤ 9223372036854775807 := by unfold leftOf at hsz; split at hsz <;> omega
  clear h1 h2 hsz hl
  go_enter Tryz.func68, Tryz.ntmps68
  go_wp2_with fail
  refine (rest_any s p 0 _ hs).mono ?_
  rintro e1 w1 ⟨rfl, hx⟩
  obtain ⟨R, hR⟩ : ∃ R, R = restOf s p := ⟨_, rfl⟩
  rw [← hR] at hkr hszn ⊢
  have HR := hid hR
  have hA := hid (hx.block (heap_alloc2_old w _ _))
  have hD := hid (hx.block (heap_alloc2_new w _ _))
  have HX := hid (((Ext.alloc w _).then_alloc _).trans hx)
  clear hx hR
  obtain ⟨⟨c0, c1, c2⟩, ⟨f0, f1, f2⟩, y1⟩ := box3 hA.out
  obtain ⟨⟨d0, d1, d2⟩, ⟨g0, g1, g2⟩, z1⟩ := box3 hD.out
  go_wp2_with fail
  go_loop [5, 6] (fun x i => ∃ j : Nat, j ≤ 8 ∧ i = .int .i64 (j : Int) ∧ x = .int .u64 (worth (R.data.toList.take j) : Int)) (fun _ i => 8 - (intOf i).toNat)
  case atStart => exact ⟨0, Nat.zero_le _, rfl, rfl⟩
  case round =>
    obtain ⟨j, hj, rfl, rfl⟩ := hrel
    have hxl0 := worth_lt (R.data.toList.take j)
    obtain ⟨x, hx⟩ : ∃ x, x = worth (R.data.toList.take j) := ⟨_, rfl⟩
    rw [← hx] at hxl0 ⊢
    have HXX := hid hx
    clear hx
    by_cases hjk : j < 8
    · have hxl : x ≤ 72057594037927935 := by
        rw [List.length_take, size_toList] at hxl0
        have h2 : 256 ^ (min j R.size) ≤ 256 ^ 7 := Nat.pow_le_pow_right (by omega) (by omega)
        omega
      have hjr : j < R.size := by omega
      have hbyte : (R[j]'hjr).toNat < 256 := UInt8.toNat_lt _
      clear hxl0
      go_wp2_with fail
      go_round
      case rel =>
        refine ⟨j + 1, by omega, by go_num, ?_⟩
        rw [worth_take R j hjr, ← HXX.out]
        first
          | go_num
          | (congr 1; rw [IntKind.wrap_u64]; omega)
      case measure => simp [intOf]; omega
    · have hjk' : j = 8 := by omega
      have hge : (8 : Int) ≤ (j : Int) := by omega
      have HJ := hid hjk'
      clear hjk hjk' hxl0
      go_wp2_with fail
      refine bodyPost_ret (ret_cell_tmp rfl _ _ (w.heap.size + 1) 131 _ (0, 0) _ rfl (set3 ((heap_setCell_other _ _ _ _ (by simp)).trans hD.out)) Tryz.underlying131 rfl (by kernel_rfl)) rfl ⟨?_, ?_⟩
      · rw [H1.out.1, H1.out.2, H2.out, ← HR.out, ← HJ.out, ← HXX.out]; rfl
      · repeat (first | (with_reducible exact HX.out) | (with_reducible apply Ext.then_drew) | (with_reducible apply Ext.then_alloc) | (with_reducible refine Ext.setCell ?_ (by simp) _))

/-- telltaleref01.RWord -/
theorem rrword_any (s : ByteArray) (p e : Int) (w : World) (hs : s.size ≤ 9223372036854775807) :
    Calls Tryz.prog 68 #[.agg #[.string s, .int .i64 p, .int .i64 e]] w (Says2 w (rd s (takeP s p e 8) (takeE s p e 8)) (.int .u64 (worth (takeB s p e 8).data.toList))) := by
  by_cases he : e = 0
  · subst he
    by_cases hl : leftOf s p < 8
    · exact rrword_cut s p w hs hl
    · exact rrword_fine s p w hs (by omega)
  · exact rrword_err s p e w hs he

end Go.Proofs.YtnldgmpfinlikaaGreat
