/- telltaleref01's readers, by their contracts. Conditions: the reach of a string. -/
import Derived.Test.YtekkmpahienaeaaAwk
import Derived.Test.YtekkmpahienaeaaBackM
import Derived.Test.YtekkmpahienaeaaReg2
namespace Go.Proofs.Ytekkmpahienaeaa
open Go Go.RowKit

/-- what is behind p -/
def restOf (s : ByteArray) (p : Int) : ByteArray := if p < 0 ∨ s.size < p then ⟨#[]⟩ else s.extract p.toNat s.size

theorem restOf_size (s : ByteArray) (p : Int) : ((restOf s p).size : Int) = leftOf s p := by
  unfold restOf leftOf
  by_cases h : p < 0 ∨ s.size < p
  · rw [if_pos h, if_pos h]; rfl
  · rw [if_neg h, if_neg h, ByteArray.size_extract]; omega

set_option maxHeartbeats 400000 in
theorem rest_any (s : ByteArray) (p e : Int) (w : World) (_hs : s.size ≤ 9223372036854775807) :
    Calls Try.prog 32 #[.agg #[.string s, .int .i64 p, .int .i64 e]] w (Says w (.string (restOf s p))) := by
  by_cases he : p < 0
  · have hl : restOf s p = ⟨#[]⟩ := if_pos (Or.inl he)
    have HL := hid hl
    clear hl
    go_enter Try.func32, Try.ntmps32
    go_wp2
    go_ret
    exact ⟨by rw [HL.out]; rfl, (by repeat (first | exact Ext.refl _ | apply Ext.then_drew | apply Ext.then_alloc | (refine Ext.setCell ?_ (by simp) _)))⟩
  · by_cases hf : s.size < p
    · have hl : restOf s p = ⟨#[]⟩ := if_pos (Or.inr hf)
      have HL := hid hl
      clear hl
      go_enter Try.func32, Try.ntmps32
      go_wp2
      go_ret
      exact ⟨by rw [HL.out]; rfl, (by repeat (first | exact Ext.refl _ | apply Ext.then_drew | apply Ext.then_alloc | (refine Ext.setCell ?_ (by simp) _)))⟩
    · have hl : restOf s p = s.extract p.toNat s.size := if_neg (by omega)
      have HL := hid hl
      clear hl
      obtain ⟨q, rfl⟩ := Int.eq_ofNat_of_zero_le (show 0 ≤ p by omega)
      rw [Int.toNat_natCast] at HL
      go_enter Try.func32, Try.ntmps32
      go_wp2
      go_ret
      exact ⟨by rw [HL.out]; rfl, (by repeat (first | exact Ext.refl _ | apply Ext.then_drew | apply Ext.then_alloc | (refine Ext.setCell ?_ (by simp) _)))⟩

set_option maxHeartbeats 400000 in
theorem rleft_any (s : ByteArray) (p e : Int) (w : World) (hs : s.size ≤ 9223372036854775807) :
    Calls Try.prog 23 #[.agg #[.string s, .int .i64 p, .int .i64 e]] w (Says w (.int .i64 (leftOf s p))) := by
  have hr := restOf_size s p
  have HR := hid hr
  clear hr
  go_enter Try.func23, Try.ntmps23
  go_wp2_with fail
  refine (rest_any s p e _ hs).mono ?_
  rintro e1 w1 ⟨rfl, hx⟩
  have HX := hid ((Ext.alloc w _).trans hx)
  clear hx
  go_wp2_with fail
  go_ret
  exact ⟨by rw [← HR.out]; rfl, HX.out⟩

set_option maxHeartbeats 400000 in
theorem ropen_any (s : ByteArray) (w : World) :
    Calls Try.prog 27 #[.string s] w (Says w (rd s 0 0)) := by
  go_enter Try.func27, Try.ntmps27
  go_wp2
  exact bodyPost_ret (v := rd s 0 0) (by simp [results, rd, Try.results27, go_sem]) rfl ⟨rfl, (by repeat (first | exact Ext.refl _ | apply Ext.then_drew | apply Ext.then_alloc | (refine Ext.setCell ?_ (by simp) _)))⟩

set_option maxHeartbeats 400000 in
theorem own_any (s : ByteArray) (p e : Int) (w : World) :
    Calls Try.prog 14 #[.agg #[.string s, .int .i64 p, .int .i64 e]] w (Says w (rd s p e)) := by
  go_enter Try.func14, Try.ntmps14
  go_wp2
  exact bodyPost_ret (v := rd s p e) (by simp [results, rd, Try.results14, go_sem]) rfl ⟨rfl, (by repeat (first | exact Ext.refl _ | apply Ext.then_drew | apply Ext.then_alloc | (refine Ext.setCell ?_ (by simp) _)))⟩

set_option maxHeartbeats 400000 in
theorem back2_any (s : ByteArray) (p e : Int) (w : World) :
    Calls Try.prog 21 #[.agg #[.string s, .int .i64 p, .int .i64 e]] w (Says w (rd s p e)) := by
  go_enter Try.func21, Try.ntmps21
  go_wp2
  exact bodyPost_ret (v := rd s p e) (by simp [results, rd, Try.results21, go_sem]) rfl ⟨rfl, (by repeat (first | exact Ext.refl _ | apply Ext.then_drew | apply Ext.then_alloc | (refine Ext.setCell ?_ (by simp) _)))⟩

theorem ne_empty (b : ByteArray) : (b.toList == ([] : List UInt8)) = decide (b.size = 0) := by
  rw [ByteArray.toList_eq, Bool.eq_iff_iff, decide_eq_true_eq, beq_iff_eq]
  constructor
  · intro h
    have := congrArg List.length h
    simpa [size_toList] using this
  · intro h
    exact List.eq_nil_of_length_eq_zero (by rw [size_toList]; exact h)

set_option maxHeartbeats 400000 in
theorem rend_any (s : ByteArray) (p e : Int) (w : World) (hs : s.size ≤ 9223372036854775807) :
    Calls Try.prog 25 #[.agg #[.string s, .int .i64 p, .int .i64 e]] w (Says w (.int .i64 (endOf s p e))) := by
  by_cases he : e = 0
  · subst he
    have hl : endOf s p 0 = if 0 < leftOf s p then 5 else 0 := if_neg (by omega)
    rw [← restOf_size] at hl
    have HL := hid hl
    clear hl
    go_enter Try.func25, Try.ntmps25
    go_wp2_with fail
    refine (rest_any s p 0 _ hs).mono ?_
    rintro e w1 ⟨rfl, hx⟩
    have HX := hid ((Ext.alloc w _).trans hx)
    clear hx
    by_cases hz : (restOf s p).size = 0
    · have hb : ((restOf s p).toList == ([] : List UInt8)) = true := by rw [ne_empty]; simp [hz]
      have HZ := hid hz
      clear hz
      go_wp2_with fail
      go_ret
      exact ⟨by rw [HL.out, if_neg (by rw [HZ.out]; omega)]; rfl, HX.out⟩
    · have hb : ((restOf s p).toList == ([] : List UInt8)) = false := by rw [ne_empty]; simp [hz]
      have HZ := hid hz
      clear hz
      go_wp2_with fail
      go_ret
      exact ⟨by rw [HL.out, if_pos (by have := HZ.out; omega)]; rfl, HX.out⟩
  · have hl : endOf s p e = e := if_pos he
    have HL := hid hl
    clear hl
    go_enter Try.func25, Try.ntmps25
    go_wp2_with fail
    go_ret
    exact ⟨by rw [HL.out]; rfl, (by repeat (first | exact Ext.refl _ | apply Ext.then_drew | apply Ext.then_alloc | (refine Ext.setCell ?_ (by simp) _)))⟩


theorem rest_take (s : ByteArray) (p : Int) (k : Nat) (hk : k ≤ (restOf s p).size) (hk0 : 0 < k) : (restOf s p).data.toList.take k = (takeB s p 0 k).data.toList := by
  have hsz := restOf_size s p
  have hl : ¬ leftOf s p < (k : Int) := by omega
  obtain ⟨_, _, h3⟩ := take_fine hl
  rw [h3]
  have hp : ¬ (p < 0 ∨ s.size < p) := by
    intro h
    have : leftOf s p = 0 := if_pos h
    omega
  have hlo : leftOf s p = s.size - p := if_neg hp
  unfold restOf cutOf
  rw [if_neg hp, ByteArray.data_extract, ByteArray.data_extract, Int.toNat_natCast, Array.toList_extract, Array.toList_extract, List.extract_eq_take_drop, List.extract_eq_take_drop, List.take_take]
  congr 1
  omega

theorem worth_rest (s : ByteArray) (p : Int) (k : Nat) (h : k < (restOf s p).size) : worth ((restOf s p).data.toList.take (k + 1)) = worth ((restOf s p).data.toList.take k) * 256 + ((restOf s p)[k]'h).toNat := worth_take _ _ h

set_option maxHeartbeats 1000000 in
theorem rrnum_fine (s : ByteArray) (p : Int) (k : Nat) (w : World) (hs : s.size ≤ 9223372036854775807) (hk1 : 1 ≤ k) (hk : k ≤ 6) (hl : (k : Int) ≤ leftOf s p) :
    Calls Try.prog 20 #[.agg #[.string s, .int .i64 p, .int .i64 0], .int .i64 (k : Int)] w (Says2 w (rd s (numP s p 0 k) (numE s p 0 k)) (.int .i64 (numN s p 0 k))) := by
  have h1 : numP s p 0 k = p + k ∧ numE s p 0 k = 0 := by
    obtain ⟨a, b, _⟩ := take_fine (s := s) (p := p) (n := (k : Int)) (by omega)
    exact ⟨(if_neg (by omega)).trans a, (if_neg (by omega)).trans b⟩
  have hsz := restOf_size s p
  have h2 : numN s p 0 k = worth ((restOf s p).data.toList.take k) := by
    rw [rest_take s p k (by omega) (by omega)]
    exact if_neg (by omega)
  have hpr : 0 ≤ p ∧ p + k ≤ s.size := by
    unfold leftOf at hl
    split at hl <;> omega
  have H1 := hid h1
  have H2 := hid h2
  have hkr : k ≤ (restOf s p).size := by omega
  have hszn : (restOf s p).size ≤ 9223372036854775807 := by unfold leftOf at hsz; split at hsz <;> omega
  clear h1 h2 hsz hl
  go_enter Try.func20, Try.ntmps20
  go_wp2_with fail
  refine (rest_any s p 0 _ hs).mono ?_
  rintro e1 w1 ⟨rfl, hx⟩
  obtain ⟨R, hR⟩ : ∃ R, R = restOf s p := ⟨_, rfl⟩
  rw [← hR] at hkr hszn ⊢
  have HR := hid hR
  have hA := hid (hx.block (heap_alloc2_old w _ _))
  have hD := hid (hx.block (heap_alloc2_new w _ _))
  have HX := hid (((Ext.alloc w _).then_alloc _).trans hx)
  clear hx hR
  obtain ⟨⟨c0, c1, c2⟩, ⟨f0, f1, f2⟩, y1⟩ := box3 hA.out
  obtain ⟨⟨d0, d1, d2⟩, ⟨g0, g1, g2⟩, z1⟩ := box3 hD.out
  go_wp2_with fail
  go_loop [7, 8] (fun x i => ∃ j : Nat, j ≤ k ∧ i = .int .i64 (j : Int) ∧ x = .int .i64 (worth (R.data.toList.take j) : Int)) (fun _ i => k - (intOf i).toNat)
  case atStart => exact ⟨0, Nat.zero_le _, rfl, rfl⟩
  case round =>
    obtain ⟨j, hj, rfl, rfl⟩ := hrel
    have hxl0 := worth_lt (R.data.toList.take j)
    obtain ⟨x, hx⟩ : ∃ x, x = worth (R.data.toList.take j) := ⟨_, rfl⟩
    rw [← hx] at hxl0 ⊢
    have HXX := hid hx
    clear hx
    by_cases hjk : j < k
    · have hxl : x ≤ 1099511627775 := by
        rw [List.length_take, size_toList] at hxl0
        have h2 : 256 ^ (min j R.size) ≤ 256 ^ 5 := Nat.pow_le_pow_right (by omega) (by omega)
        omega
      have hjr : j < R.size := by omega
      have hbyte : (R[j]'hjr).toNat < 256 := UInt8.toNat_lt _
      clear hxl0
      go_wp2_with fail
      go_round
      case rel =>
        refine ⟨j + 1, by omega, by go_num, ?_⟩
        rw [worth_take R j hjr, ← HXX.out]
        go_num
      case measure => simp [intOf]; omega
    · have hjk' : j = k := by omega
      have hge : (k : Int) ≤ (j : Int) := by omega
      have HJ := hid hjk'
      clear hjk hjk' hxl0
      go_wp2_with fail
      refine bodyPost_ret (ret_cell_tmp rfl _ _ (w.heap.size + 1) 36 _ (0, 0) _ rfl (set3 ((heap_setCell_other _ _ _ _ (by simp)).trans hD.out)) Try.underlying36 rfl (by kernel_rfl)) rfl ⟨?_, ?_⟩
      · rw [H1.out.1, H1.out.2, H2.out, ← HR.out, ← HJ.out, ← HXX.out]; rfl
      · repeat (first | (with_reducible exact HX.out) | (with_reducible apply Ext.then_drew) | (with_reducible apply Ext.then_alloc) | (with_reducible refine Ext.setCell ?_ (by simp) _))


set_option maxHeartbeats 400000 in
theorem rrnum_err (s : ByteArray) (p e k : Int) (w : World) (hs : s.size ≤ 9223372036854775807) (he : ¬ e = 0) :
    Calls Try.prog 20 #[.agg #[.string s, .int .i64 p, .int .i64 e], .int .i64 k] w (Says2 w (rd s (numP s p e k) (numE s p e k)) (.int .i64 (numN s p e k))) := by
  have h1 : numP s p e k = p ∧ numE s p e k = e ∧ numN s p e k = 0 := by
    obtain ⟨a, b, c⟩ := take_err (s := s) (p := p) (n := k) he
    unfold numP numE numN
    by_cases hk : k < 1 ∨ 6 < k
    · rw [if_pos hk, if_pos hk, if_pos hk, if_neg he]; exact ⟨rfl, rfl, rfl⟩
    · rw [if_neg hk, if_neg hk, if_neg hk, a, b, c]; exact ⟨rfl, rfl, rfl⟩
  have H1 := hid h1
  clear h1
  go_enter Try.func20, Try.ntmps20
  go_wp2_with fail
  refine (rest_any s p e _ hs).mono ?_
  rintro e1 w1 ⟨rfl, hx⟩
  have hA := hid (hx.block (heap_alloc2_old w _ _))
  have hD := hid (hx.block (heap_alloc2_new w _ _))
  have HX := hid (((Ext.alloc w _).then_alloc _).trans hx)
  clear hx
  obtain ⟨⟨c0, c1, c2⟩, ⟨f0, f1, f2⟩, y1⟩ := box3 hA.out
  obtain ⟨⟨d0, d1, d2⟩, ⟨g0, g1, g2⟩, z1⟩ := box3 hD.out
  have hne : (e != 0) = true := by simp [he]
  go_wp2_with fail
  refine bodyPost_ret (ret_cell_tmp rfl _ _ (w.heap.size + 1) 36 _ (0, 0) _ rfl (set3 hD.out) Try.underlying36 rfl (by kernel_rfl)) rfl ⟨?_, ?_⟩
  · rw [H1.out.1, H1.out.2.1, H1.out.2.2]; rfl
  · repeat (first | (with_reducible exact HX.out) | (with_reducible apply Ext.then_drew) | (with_reducible apply Ext.then_alloc) | (with_reducible refine Ext.setCell ?_ (by simp) _))

set_option maxHeartbeats 400000 in
theorem rrnum_arg (s : ByteArray) (p k : Int) (w : World) (hs : s.size ≤ 9223372036854775807) (hk : k < 1 ∨ 6 < k) :
    Calls Try.prog 20 #[.agg #[.string s, .int .i64 p, .int .i64 0], .int .i64 k] w (Says2 w (rd s (numP s p 0 k) (numE s p 0 k)) (.int .i64 (numN s p 0 k))) := by
  obtain ⟨e, he⟩ : ∃ e : Int, e = 0 := ⟨_, rfl⟩
  have h1 : numP s p 0 k = p ∧ numE s p 0 k = 2 ∧ numN s p 0 k = 0 := ⟨if_pos hk, (if_pos hk).trans (if_pos rfl), if_pos hk⟩
  have H1 := hid h1
  clear h1
  subst he
  rcases hk with hk | hk
  all_goals
    go_enter Try.func20, Try.ntmps20
    go_wp2_with fail
    refine (rest_any s p 0 _ hs).mono ?_
    rintro e1 w1 ⟨rfl, hx⟩
    have hA := hid (hx.block (heap_alloc2_old w _ _))
    have hD := hid (hx.block (heap_alloc2_new w _ _))
    have HX := hid (((Ext.alloc w _).then_alloc _).trans hx)
    clear hx
    obtain ⟨⟨c0, c1, c2⟩, ⟨f0, f1, f2⟩, y1⟩ := box3 hA.out
    obtain ⟨⟨d0, d1, d2⟩, ⟨g0, g1, g2⟩, z1⟩ := box3 hD.out
    go_wp2_with fail
    refine bodyPost_ret (ret_cell_tmp rfl _ _ (w.heap.size + 1) 36 _ (0, 0) _ rfl (set3 ((heap_setCell_other _ _ _ _ (by simp)).trans hD.out)) Try.underlying36 rfl (by kernel_rfl)) rfl ⟨?_, ?_⟩
    · rw [H1.out.1, H1.out.2.1, H1.out.2.2]; rfl
    · repeat (first | (with_reducible exact HX.out) | (with_reducible apply Ext.then_drew) | (with_reducible apply Ext.then_alloc) | (with_reducible refine Ext.setCell ?_ (by simp) _))

set_option maxHeartbeats 400000 in
theorem rrnum_cut (s : ByteArray) (p k : Int) (w : World) (hs : s.size ≤ 9223372036854775807) (hk1 : 1 ≤ k) (hk : k ≤ 6) (hl : leftOf s p < k) :
    Calls Try.prog 20 #[.agg #[.string s, .int .i64 p, .int .i64 0], .int .i64 k] w (Says2 w (rd s (numP s p 0 k) (numE s p 0 k)) (.int .i64 (numN s p 0 k))) := by
  have h1 : numP s p 0 k = p ∧ numE s p 0 k = 3 ∧ numN s p 0 k = 0 := by
    obtain ⟨a, b, c⟩ := take_cut hl
    unfold numP numE numN
    rw [if_neg (by omega), if_neg (by omega), if_neg (by omega), a, b, c]
    exact ⟨rfl, rfl, rfl⟩
  have hsz : ((restOf s p).size : Int) < k := by rw [restOf_size]; exact hl
  have H1 := hid h1
  clear h1 hl
  go_enter Try.func20, Try.ntmps20
  go_wp2_with fail
  refine (rest_any s p 0 _ hs).mono ?_
  rintro e1 w1 ⟨rfl, hx⟩
  have hA := hid (hx.block (heap_alloc2_old w _ _))
  have hD := hid (hx.block (heap_alloc2_new w _ _))
  have HX := hid (((Ext.alloc w _).then_alloc _).trans hx)
  clear hx
  obtain ⟨⟨c0, c1, c2⟩, ⟨f0, f1, f2⟩, y1⟩ := box3 hA.out
  obtain ⟨⟨d0, d1, d2⟩, ⟨g0, g1, g2⟩, z1⟩ := box3 hD.out
  go_wp2_with fail
  refine bodyPost_ret (ret_cell_tmp rfl _ _ (w.heap.size + 1) 36 _ (0, 0) _ rfl (set3 ((heap_setCell_other _ _ _ _ (by simp)).trans hD.out)) Try.underlying36 rfl (by kernel_rfl)) rfl ⟨?_, ?_⟩
  · rw [H1.out.1, H1.out.2.1, H1.out.2.2]; rfl
  · repeat (first | (with_reducible exact HX.out) | (with_reducible apply Ext.then_drew) | (with_reducible apply Ext.then_alloc) | (with_reducible refine Ext.setCell ?_ (by simp) _))

/-- telltaleref01.RNum -/
theorem rrnum_any (s : ByteArray) (p e k : Int) (w : World) (hs : s.size ≤ 9223372036854775807) :
    Calls Try.prog 20 #[.agg #[.string s, .int .i64 p, .int .i64 e], .int .i64 k] w (Says2 w (rd s (numP s p e k) (numE s p e k)) (.int .i64 (numN s p e k))) := by
  by_cases he : e = 0
  · subst he
    by_cases hk : k < 1 ∨ 6 < k
    · exact rrnum_arg s p k w hs hk
    · by_cases hl : leftOf s p < k
      · exact rrnum_cut s p k w hs (by omega) (by omega) hl
      · obtain ⟨k, rfl⟩ := Int.eq_ofNat_of_zero_le (show 0 ≤ k by omega)
        exact rrnum_fine s p k w hs (by omega) (by omega) (by omega)
  · exact rrnum_err s p e k w hs he

end Go.Proofs.Ytekkmpahienaeaa
