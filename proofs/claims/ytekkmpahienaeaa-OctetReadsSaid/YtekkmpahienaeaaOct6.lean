/- octet's Str of a reader, by its contract. Conditions: the reach of a string. -/
import Derived.Test.YtekkmpahienaeaaOct5
namespace Go.Proofs.Ytekkmpahienaeaa
open Go Go.RowKit

/-- what Str of a reader answers -/
def strN (s : ByteArray) (p e : Int) : Nat := numN s p e 2
def strT (s : ByteArray) (p e : Int) : Int := takeE s (numP s p e 2) (numE s p e 2) (strN s p e)
def strE (s : ByteArray) (p e : Int) : Int := if strT s p e = 0 then 0 else if e = 0 then strT s p e else e
def strP (s : ByteArray) (p e : Int) : Int := if strT s p e = 0 then takeP s (numP s p e 2) (numE s p e 2) (strN s p e) else p
def strB (s : ByteArray) (p e : Int) : ByteArray := if strT s p e = 0 then takeB s (numP s p e 2) (numE s p e 2) (strN s p e) else ⟨#[]⟩

theorem strN_lt (s : ByteArray) (p e : Int) : strN s p e ≤ 65535 := by
  show numN s p e 2 ≤ 65535
  unfold numN
  rw [if_neg (by omega)]
  have h1 := worth_lt (takeB s p e (2 : Nat)).data.toList
  have h2 := takeB_size s p e 2
  rw [size_toList] at h1
  have h3 : 256 ^ (takeB s p e (2 : Nat)).size ≤ 256 ^ 2 := Nat.pow_le_pow_right (by omega) (by omega)
  have h4 : worth (takeB s p e (2 : Nat)).data.toList ≤ 65535 := by omega
  exact h4

theorem num2_in (s : ByteArray) (p e : Int) (h : numE s p e 2 = 0) : 0 ≤ numP s p e 2 ∧ numP s p e 2 ≤ s.size := by
  unfold numE at h
  unfold numP
  rw [if_neg (by omega)] at h ⊢
  unfold takeE at h
  unfold takeP
  by_cases he : e = 0
  · rw [if_neg (by omega)] at h ⊢
    by_cases hl : leftOf s p < 2
    · rw [if_pos hl] at h; omega
    · rw [if_neg hl]
      unfold leftOf at hl
      split at hl <;> omega
  · rw [if_pos he] at h; exact absurd h he

set_option maxHeartbeats 400000 in
theorem rdstr_any (s : ByteArray) (p e : Int) (w : World) (hs : s.size ≤ 9223372036854775807) :
    Calls Try.prog 15 #[.agg #[.string s, .int .i64 p, .int .i64 e]] w (Says2 w (rd s (strP s p e) (strE s p e)) (.string (strB s p e))) := by
  have hn := strN_lt s p e
  have hi := num2_in s p e
  have HI := hid hi
  clear hi
  obtain ⟨P1, hP1⟩ : ∃ x, x = numP s p e 2 := ⟨_, rfl⟩
  obtain ⟨E1, hE1⟩ : ∃ x, x = numE s p e 2 := ⟨_, rfl⟩
  obtain ⟨n, hn1⟩ : ∃ x, x = strN s p e := ⟨_, rfl⟩
  obtain ⟨T, hT⟩ : ∃ x, x = strT s p e := ⟨_, rfl⟩
  rw [← hn1] at hn
  rw [← hP1, ← hE1] at HI
  have HP1 := hid hP1
  have HE1 := hid hE1
  have HN1 := hid hn1
  have hT' : T = takeE s P1 E1 n := by rw [hT, hP1, hE1, hn1]; rfl
  have HT := hid hT
  have HT' := hid hT'
  clear hP1 hE1 hn1 hT hT'
  go_enter Try.func15, Try.ntmps15
  go_wp2_with fail
  refine (rdnum_any s p e 2 _ hs).mono ?_
  rintro e1 w1 ⟨rfl, hx⟩
  rw [← HP1.out, ← HE1.out, show ((numN s p e 2 : Nat) : Int) = (n : Int) from by rw [HN1.out]; rfl]
  have hA := hid (hx.block (heap_alloc2_old w _ _))
  have hD := hid (hx.block (heap_alloc2_new w _ _))
  have HX := hid (((Ext.alloc w _).then_alloc _).trans hx)
  clear hx
  go_wp2_with fail
  refine (take_any s P1 E1 n _ hs hn (fun h _ => HI.out h)).mono ?_
  rintro e2 w2 ⟨rfl, hx⟩
  rw [← HT'.out]
  replace hA := hid (hx.block ((heap_alloc_old _ _ (Array.getElem?_eq_some_iff.1 hA.out).1).trans hA.out))
  replace hD := hid (hx.block ((heap_alloc_old _ _ (Array.getElem?_eq_some_iff.1 hD.out).1).trans hD.out))
  replace HX := hid ((HX.out.then_alloc _).trans hx)
  clear hx
  obtain ⟨⟨c0, c1, c2⟩, ⟨f0, f1, f2⟩, y1⟩ := box3 hA.out
  obtain ⟨⟨d0, d1, d2⟩, ⟨g0, g1, g2⟩, z1⟩ := box3 hD.out
  go_wp2_with fail
  · have ht : ¬ T = 0 := by
      have h : (T != 0) = true := by assumption
      simpa using h
    refine (failed_any s p e T _).mono ?_
    rintro e3 w3 ⟨rfl, hx⟩
    obtain ⟨f, hf⟩ : ∃ f, f = (if e = 0 then T else e) := ⟨_, rfl⟩
    rw [← hf]
    have HF := hid hf
    clear hf
    clear d0 d1 d2 g0 g1 g2
    replace hD := hid (hx.block ((heap_alloc_old _ _ z1).trans hD.out))
    replace HX := hid ((HX.out.then_alloc _).trans hx)
    clear hx
    obtain ⟨⟨d0, d1, d2⟩, ⟨g0, g1, g2⟩, z1⟩ := box3 hD.out
    go_wp2_with fail
    refine bodyPost_ret (ret_cell_tmp rfl _ _ (w.heap.size + 1) 39 _ (0, 0) _ rfl (set3 hD.out) Try.underlying39 rfl (by kernel_rfl)) rfl ⟨?_, ?_⟩
    · unfold strP strE strB
      rw [← HT.out, if_neg ht, if_neg ht, if_neg ht, ← HF.out]
      rfl
    · repeat (first | (with_reducible exact HX.out) | (with_reducible apply Ext.then_drew) | (with_reducible apply Ext.then_alloc) | (with_reducible refine Ext.setCell ?_ (by simp) _))
  · have ht : T = 0 := by
      have h : (T != 0) = false := by assumption
      simpa using h
    have HT0 := hid ht
    clear ht
    refine bodyPost_ret (ret_cell_tmp rfl _ _ (w.heap.size + 1) 39 _ (0, 0) _ rfl ((heap_alloc_old _ _ (by simpa using z1)).trans (set3 hD.out)) Try.underlying39 rfl (by kernel_rfl)) rfl ⟨?_, ?_⟩
    · unfold strP strE strB
      rw [← HT.out, if_pos HT0.out, if_pos HT0.out, if_pos HT0.out, ← HP1.out, ← HE1.out, ← HN1.out, HT0.out]
      rfl
    · repeat (first | (with_reducible exact HX.out) | (with_reducible apply Ext.then_drew) | (with_reducible apply Ext.then_alloc) | (with_reducible refine Ext.setCell ?_ (by simp) _))

end Go.Proofs.Ytekkmpahienaeaa
