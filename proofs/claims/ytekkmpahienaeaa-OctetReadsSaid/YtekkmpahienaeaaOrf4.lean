/- telltaleref01.RWord and RStr, by their contracts. Conditions: the reach of a string. -/
import Derived.Test.YtekkmpahienaeaaOrf3
namespace Go.Proofs.Ytekkmpahienaeaa
open Go Go.RowKit

set_option maxHeartbeats 400000 in
theorem rrword_err (s : ByteArray) (p e : Int) (w : World) (hs : s.size ≤ 9223372036854775807) (he : ¬ e = 0) :
    Calls Try.prog 18 #[.agg #[.string s, .int .i64 p, .int .i64 e]] w (Says2 w (rd s (takeP s p e 8) (takeE s p e 8)) (.int .u64 (worth (takeB s p e 8).data.toList))) := by
  have h1 := take_err (s := s) (p := p) (n := 8) he
  have H1 := hid h1
  clear h1
  go_enter Try.func18, Try.ntmps18
  go_wp2_with fail
  refine (rest_any s p e _ hs).mono ?_
  rintro e1 w1 ⟨rfl, hx⟩
  have hA := hid (hx.block (heap_alloc2_old w _ _))
  have hD := hid (hx.block (heap_alloc2_new w _ _))
  have HX := hid (((Ext.alloc w _).then_alloc _).trans hx)
  clear hx
  obtain ⟨⟨c0, c1, c2⟩, ⟨f0, f1, f2⟩, y1⟩ := box3 hA.out
  obtain ⟨⟨d0, d1, d2⟩, ⟨g0, g1, g2⟩, z1⟩ := box3 hD.out
  have hne : (e != 0) = true := by simp [he]
  go_wp2_with fail
  refine bodyPost_ret (ret_cell_tmp rfl _ _ (w.heap.size + 1) 36 _ (0, 0) _ rfl (set3 hD.out) Try.underlying36 rfl (by kernel_rfl)) rfl ⟨?_, ?_⟩
  · rw [H1.out.1, H1.out.2.1, H1.out.2.2]; rfl
  · repeat (first | (with_reducible exact HX.out) | (with_reducible apply Ext.then_drew) | (with_reducible apply Ext.then_alloc) | (with_reducible refine Ext.setCell ?_ (by simp) _))

set_option maxHeartbeats 400000 in
theorem rrword_cut (s : ByteArray) (p : Int) (w : World) (hs : s.size ≤ 9223372036854775807) (hl : leftOf s p < 8) :
    Calls Try.prog 18 #[.agg #[.string s, .int .i64 p, .int .i64 0]] w (Says2 w (rd s (takeP s p 0 8) (takeE s p 0 8)) (.int .u64 (worth (takeB s p 0 8).data.toList))) := by
  have h1 := take_cut hl
  have hsz : ((restOf s p).size : Int) < 8 := by rw [restOf_size]; exact hl
  have H1 := hid h1
  clear h1 hl
  go_enter Try.func18, Try.ntmps18
  go_wp2_with fail
  refine (rest_any s p 0 _ hs).mono ?_
  rintro e1 w1 ⟨rfl, hx⟩
  have hA := hid (hx.block (heap_alloc2_old w _ _))
  have hD := hid (hx.block (heap_alloc2_new w _ _))
  have HX := hid (((Ext.alloc w _).then_alloc _).trans hx)
  clear hx
  obtain ⟨⟨c0, c1, c2⟩, ⟨f0, f1, f2⟩, y1⟩ := box3 hA.out
  obtain ⟨⟨d0, d1, d2⟩, ⟨g0, g1, g2⟩, z1⟩ := box3 hD.out
  go_wp2_with fail
  refine bodyPost_ret (ret_cell_tmp rfl _ _ (w.heap.size + 1) 36 _ (0, 0) _ rfl (set3 ((heap_setCell_other _ _ _ _ (by simp)).trans hD.out)) Try.underlying36 rfl (by kernel_rfl)) rfl ⟨?_, ?_⟩
  · rw [H1.out.1, H1.out.2.1, H1.out.2.2]; rfl
  · repeat (first | (with_reducible exact HX.out) | (with_reducible apply Ext.then_drew) | (with_reducible apply Ext.then_alloc) | (with_reducible refine Ext.setCell ?_ (by simp) _))

set_option maxHeartbeats 1000000 in
theorem rrword_fine (s : ByteArray) (p : Int) (w : World) (hs : s.size ≤ 9223372036854775807) (hl : 8 ≤ leftOf s p) :
    Calls Try.prog 18 #[.agg #[.string s, .int .i64 p, .int .i64 0]] w (Says2 w (rd s (takeP s p 0 8) (takeE s p 0 8)) (.int .u64 (worth (takeB s p 0 8).data.toList))) := by
  have h1 : takeP s p 0 8 = p + 8 ∧ takeE s p 0 8 = 0 := by
    obtain ⟨a, b, _⟩ := take_fine (s := s) (p := p) (n := 8) (by omega)
    exact ⟨a, b⟩
  have hsz := restOf_size s p
  have h2 : (takeB s p 0 8).data.toList = (restOf s p).data.toList.take 8 := (rest_take s p 8 (by omega) (by omega)).symm
  have hpr : 0 ≤ p ∧ p + 8 ≤ s.size := by
    unfold leftOf at hl
    split at hl <;> omega
  have H1 := hid h1
  have H2 := hid h2
  have hkr : 8 ≤ (restOf s p).size := by omega
  have hszn : (restOf s p).size ≤ 9223372036854775807 := by unfold leftOf at hsz; split at hsz <;> omega
  clear h1 h2 hsz hl
  go_enter Try.func18, Try.ntmps18
  go_wp2_with fail
  refine (rest_any s p 0 _ hs).mono ?_
  rintro e1 w1 ⟨rfl, hx⟩
  obtain ⟨R, hR⟩ : ∃ R, R = restOf s p := ⟨_, rfl⟩
  rw [← hR] at hkr hszn ⊢
  have HR := hid hR
  have hA := hid (hx.block (heap_alloc2_old w _ _))
  have hD := hid (hx.block (heap_alloc2_new w _ _))
  have HX := hid (((Ext.alloc w _).then_alloc _).trans hx)
  clear hx hR
  obtain ⟨⟨c0, c1, c2⟩, ⟨f0, f1, f2⟩, y1⟩ := box3 hA.out
  obtain ⟨⟨d0, d1, d2⟩, ⟨g0, g1, g2⟩, z1⟩ := box3 hD.out
  go_wp2_with fail
  go_loop [5, 6] (fun x i => ∃ j : Nat, j ≤ 8 ∧ i = .int .i64 (j : Int) ∧ x = .int .u64 (worth (R.data.toList.take j) : Int)) (fun _ i => 8 - (intOf i).toNat)
  case atStart => exact ⟨0, Nat.zero_le _, rfl, rfl⟩
  case round =>
    obtain ⟨j, hj, rfl, rfl⟩ := hrel
    have hxl0 := worth_lt (R.data.toList.take j)
    obtain ⟨x, hx⟩ : ∃ x, x = worth (R.data.toList.take j) := ⟨_, rfl⟩
    rw [← hx] at hxl0 ⊢
    have HXX := hid hx
    clear hx
    by_cases hjk : j < 8
    · have hxl : x ≤ 72057594037927935 := by
        rw [List.length_take, size_toList] at hxl0
        have h2 : 256 ^ (min j R.size) ≤ 256 ^ 7 := Nat.pow_le_pow_right (by omega) (by omega)
        omega
      have hjr : j < R.size := by omega
      have hbyte : (R[j]'hjr).toNat < 256 := UInt8.toNat_lt _
      clear hxl0
      go_wp2_with fail
      go_round
      case rel =>
        refine ⟨j + 1, by omega, by go_num, ?_⟩
        rw [worth_take R j hjr, ← HXX.out]
        first
          | go_num
          | (congr 1; rw [IntKind.wrap_u64]; omega)
      case measure => simp [intOf]; omega
    · have hjk' : j = 8 := by omega
      have hge : (8 : Int) ≤ (j : Int) := by omega
      have HJ := hid hjk'
      clear hjk hjk' hxl0
      go_wp2_with fail
      refine bodyPost_ret (ret_cell_tmp rfl _ _ (w.heap.size + 1) 36 _ (0, 0) _ rfl (set3 ((heap_setCell_other _ _ _ _ (by simp)).trans hD.out)) Try.underlying36 rfl (by kernel_rfl)) rfl ⟨?_, ?_⟩
      · rw [H1.out.1, H1.out.2, H2.out, ← HR.out, ← HJ.out, ← HXX.out]; rfl
      · repeat (first | (with_reducible exact HX.out) | (with_reducible apply Ext.then_drew) | (with_reducible apply Ext.then_alloc) | (with_reducible refine Ext.setCell ?_ (by simp) _))

/-- telltaleref01.RWord -/
theorem rrword_any (s : ByteArray) (p e : Int) (w : World) (hs : s.size ≤ 9223372036854775807) :
    Calls Try.prog 18 #[.agg #[.string s, .int .i64 p, .int .i64 e]] w (Says2 w (rd s (takeP s p e 8) (takeE s p e 8)) (.int .u64 (worth (takeB s p e 8).data.toList))) := by
  by_cases he : e = 0
  · subst he
    by_cases hl : leftOf s p < 8
    · exact rrword_cut s p w hs hl
    · exact rrword_fine s p w hs (by omega)
  · exact rrword_err s p e w hs he

theorem str_err {s : ByteArray} {p e : Int} (h : ¬ numE s p e 2 = 0) : strP s p e = numP s p e 2 ∧ strE s p e = numE s p e 2 ∧ strB s p e = ⟨#[]⟩ := by
  have ht : strT s p e = numE s p e 2 := by
    unfold strT
    exact (take_err h).2.1
  have hp : numP s p e 2 = p := by
    by_cases he : e = 0
    · subst he
      by_cases hl : leftOf s p < 2
      · exact (if_neg (by omega)).trans (take_cut hl).1
      · exact absurd ((if_neg (by omega)).trans (take_fine hl).2.1) h
    · exact (if_neg (by omega)).trans (take_err he).1
  have hne : strE s p e = numE s p e 2 := by
    unfold strE
    rw [ht, if_neg h]
    by_cases he : e = 0
    · rw [if_pos he]
    · rw [if_neg he]
      exact ((if_neg (by omega)).trans (take_err he).2.1).symm
  exact ⟨by unfold strP; rw [ht, if_neg h, hp], hne, by unfold strB; rw [ht, if_neg h]⟩

theorem num_zero {s : ByteArray} {p e : Int} (h : numE s p e 2 = 0) : e = 0 := by
  refine Classical.byContradiction fun he => he ?_
  have h1 : numE s p e 2 = e := (if_neg (by omega)).trans (take_err he).2.1
  rw [← h1, h]

theorem str_short {s : ByteArray} {p : Int} (h : numE s p 0 2 = 0) (hl : leftOf s (numP s p 0 2) < (strN s p 0 : Int)) : strP s p 0 = p ∧ strE s p 0 = 3 ∧ strB s p 0 = ⟨#[]⟩ := by
  have ht : strT s p 0 = 3 := by
    unfold strT
    rw [h]
    exact (take_cut hl).2.1
  exact ⟨by unfold strP; rw [ht, if_neg (by omega)], by unfold strE; rw [ht, if_neg (by omega), if_pos rfl], by unfold strB; rw [ht, if_neg (by omega)]⟩

theorem str_whole {s : ByteArray} {p : Int} (h : numE s p 0 2 = 0) (hl : ¬ leftOf s (numP s p 0 2) < (strN s p 0 : Int)) :
    strP s p 0 = numP s p 0 2 + strN s p 0 ∧ strE s p 0 = 0 ∧ strB s p 0 = (restOf s (numP s p 0 2)).extract 0 (strN s p 0) := by
  have ht : strT s p 0 = 0 := by
    unfold strT
    rw [h]
    exact (take_fine hl).2.1
  obtain ⟨a, _, c⟩ := take_fine hl
  refine ⟨by unfold strP; rw [ht, if_pos rfl, h, a], by unfold strE; rw [ht, if_pos rfl], ?_⟩
  unfold strB
  rw [ht, if_pos rfl, h, c, Int.toNat_natCast]
  have hp := num2_in s p 0 h
  have hlo : leftOf s (numP s p 0 2) = s.size - numP s p 0 2 := if_neg (by omega)
  refine ba_eq ?_
  unfold restOf cutOf
  rw [if_neg (by omega), ByteArray.data_extract, ByteArray.data_extract, ByteArray.data_extract, Array.toList_extract, Array.toList_extract, Array.toList_extract, List.extract_eq_take_drop, List.extract_eq_take_drop, List.extract_eq_take_drop,
    List.drop_zero, List.take_take]
  congr 1
  omega

set_option maxHeartbeats 1000000 in
/-- telltaleref01.RStr -/
theorem rrstr_any (s : ByteArray) (p e : Int) (w : World) (hs : s.size ≤ 9223372036854775807) :
    Calls Try.prog 16 #[.agg #[.string s, .int .i64 p, .int .i64 e]] w (Says2 w (rd s (strP s p e) (strE s p e)) (.string (strB s p e))) := by
  have hn := strN_lt s p e
  obtain ⟨P1, hP1⟩ : ∃ x, x = numP s p e 2 := ⟨_, rfl⟩
  obtain ⟨E1, hE1⟩ : ∃ x, x = numE s p e 2 := ⟨_, rfl⟩
  obtain ⟨n, hn1⟩ : ∃ x, x = strN s p e := ⟨_, rfl⟩
  rw [← hn1] at hn
  have HP1 := hid hP1
  have HE1 := hid hE1
  have HN1 := hid hn1
  clear hP1 hE1 hn1
  go_enter Try.func16, Try.ntmps16
  go_wp2_with fail
  refine (rrnum_any s p e 2 _ hs).mono ?_
  rintro e1 w1 ⟨rfl, hx⟩
  rw [← HP1.out, ← HE1.out, show ((numN s p e 2 : Nat) : Int) = (n : Int) from by rw [HN1.out]; rfl]
  have hA := hid (hx.block (heap_alloc2_old w _ _))
  have hD := hid (hx.block (heap_alloc2_new w _ _))
  have HX := hid (((Ext.alloc w _).then_alloc _).trans hx)
  clear hx
  by_cases hE : E1 = 0
  · have he : e = 0 := num_zero (by rw [← HE1.out]; exact hE)
    subst he
    have hin := num2_in s p 0 (by rw [← HE1.out]; exact hE)
    rw [← HP1.out] at hin
    have hEq : E1 = 0 := hE
    subst hEq
    clear hE
    obtain ⟨⟨d0, d1, d2⟩, ⟨g0, g1, g2⟩, z1⟩ := box3 hD.out
    have hz : w.heap.size + 1 < w1.heap.size := z1
    go_wp2_with fail
    refine (rest_any s P1 0 _ hs).mono ?_
    rintro e2 w2 ⟨rfl, hx⟩
    obtain ⟨R, hR⟩ : ∃ R, R = restOf s P1 := ⟨_, rfl⟩
    rw [← hR]
    have hRs : (R.size : Int) = leftOf s P1 := by rw [hR]; exact restOf_size s P1
    have hlo : leftOf s P1 = s.size - P1 := if_neg (by omega)
    have hF := hid (hx.block (heap_alloc_new w1 _))
    replace hA := hid (hx.block ((Ext.alloc _ _).block hA.out))
    replace hD := hid (hx.block ((Ext.alloc _ _).block hD.out))
    replace HX := hid ((HX.out.then_alloc _).trans hx)
    have HR := hid hR
    clear hx hR d0 d1 d2 g0 g1 g2 z1
    obtain ⟨⟨b0, b1, b2⟩, ⟨m0, m1, m2⟩, x1⟩ := box3 hF.out
    obtain ⟨⟨c0, c1, c2⟩, ⟨f0, f1, f2⟩, y1⟩ := box3 hA.out
    obtain ⟨⟨d0, d1, d2⟩, ⟨g0, g1, g2⟩, z1⟩ := box3 hD.out
    have hRb : R.size ≤ 9223372036854775807 := by omega
    by_cases hl : R.size < n
    · have h1 := str_short (s := s) (p := p) HE1.out.symm (by rw [← HP1.out, ← HN1.out, ← hRs]; omega)
      have H1 := hid h1
      clear h1 hlo hRs
      go_wp2_with fail
      refine bodyPost_ret (ret_cell_tmp rfl _ _ (w.heap.size + 1) 36 _ (0, 0) _ rfl (set3 ((heap_setCell_other _ _ _ _ (by simp)).trans hD.out)) Try.underlying36 rfl (by kernel_rfl)) rfl ⟨?_, ?_⟩
      · rw [H1.out.1, H1.out.2.1, H1.out.2.2]; rfl
      · repeat (first | (with_reducible exact HX.out) | (with_reducible apply Ext.then_drew) | (with_reducible apply Ext.then_alloc) | (with_reducible refine Ext.setCell ?_ (by simp) _))
    · have h1 := str_whole (s := s) (p := p) HE1.out.symm (by rw [← HP1.out, ← HN1.out, ← hRs]; omega)
      rw [← HP1.out, ← HN1.out, ← HR.out] at h1
      have H1 := hid h1
      have hPn : P1 + (n : Int) ≤ 9223372036854775807 := by omega
      have hP0 : 0 ≤ P1 := hin.1
      clear h1 hlo hRs hin
      go_wp2_with fail
      go_region
      go_wp2_with fail
      refine bodyPost_ret (ret_cell_tmp rfl _ _ (w.heap.size + 1) 36 _ (0, 0) _ rfl (set3 ((heap_setCell_other _ _ _ _ (by simp; omega)).trans hD.out)) Try.underlying36 rfl (by kernel_rfl)) rfl ⟨?_, ?_⟩
      · rw [H1.out.1, H1.out.2.1, H1.out.2.2]; rfl
      · repeat (first | (with_reducible exact HX.out) | (with_reducible apply Ext.then_drew) | (with_reducible apply Ext.then_alloc) | (with_reducible refine Ext.setCell ?_ (by simp; omega) _) | (with_reducible refine Ext.setCell ?_ (by simp) _))
  · have hne : (E1 != 0) = true := by simp [hE]
    have h1 := str_err (s := s) (p := p) (e := e) (by rw [← HE1.out]; exact hE)
    have H1 := hid h1
    clear h1
    obtain ⟨⟨d0, d1, d2⟩, ⟨g0, g1, g2⟩, z1⟩ := box3 hD.out
    go_wp2_with fail
    refine bodyPost_ret (ret_cell_tmp rfl _ _ (w.heap.size + 1) 36 _ (0, 0) _ rfl ((heap_alloc_old _ _ (by simpa using z1)).trans (set3 hD.out)) Try.underlying36 rfl (by kernel_rfl)) rfl ⟨?_, ?_⟩
    · rw [H1.out.1, H1.out.2.1, H1.out.2.2, ← HP1.out, ← HE1.out]; rfl
    · repeat (first | (with_reducible exact HX.out) | (with_reducible apply Ext.then_drew) | (with_reducible apply Ext.then_alloc) | (with_reducible refine Ext.setCell ?_ (by simp) _))

end Go.Proofs.Ytekkmpahienaeaa
