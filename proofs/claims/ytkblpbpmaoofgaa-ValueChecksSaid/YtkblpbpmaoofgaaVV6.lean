/- The landed program's Take of a value, by its contract. Conditions: the reach of a string. -/
import Derived.Test.YtkblpbpmaoofgaaVV5
import Derived.BigQuiet
namespace Go.Proofs.Ytkblpbpmaoofgaa
open Go Go.RowKit

def finishV (x : VZ × Int × Int) : VZ × Int × Int := if x.2.2 ≠ 0 then failV x.2.2 else if checkV x.1.k x.1.n x.1.b x.1.t ≠ 0 then failV (checkV x.1.k x.1.n x.1.b x.1.t) else x
theorem finish_fail {x : VZ × Int × Int} (h : x.2.2 ≠ 0) : finishV x = failV x.2.2 := if_pos h
theorem finish_checked (x : VZ × Int × Int) (h : x.2.2 = 0) : finishV x = checkedV x := by
  unfold finishV checkedV
  rw [if_neg (c := x.2.2 ≠ 0) (fun h2 => h2 h), if_neg (c := x.2.2 ≠ 0) (fun h2 => h2 h)]
theorem finish_failV (e : Int) (h : e ≠ 0) : finishV (failV e) = failV e := if_pos h

theorem raw_flag (s : ByteArray) (q : Nat) (h : q ≤ s.size) : finishV (rawV s 2 q) = checkedV (restV s 2 q) := by
  have hr : rawV s 2 q = (⟨2, (numN s q 0 1 : Int), 0, noText⟩, numP s q 0 1, numE s q 0 1) := rfl
  have hn : numE s q 0 1 = takeE s q 0 1 := if_neg (by omega)
  have hp : numP s q 0 1 = takeP s q 0 1 := if_neg (by omega)
  have hw : numN s q 0 1 = worth (takeB s q 0 1).data.toList := if_neg (by omega)
  rw [hr, hn, hp, hw]
  unfold restV
  rw [if_pos rfl]
  by_cases h1 : q = s.size
  · have hl : leftOf s (q : Int) < 1 := by unfold leftOf; rw [if_neg (by omega)]; omega
    rw [(take_cut hl).2.1, if_pos h1, checked_fail 3 (by decide)]
    exact finish_fail (by show (3 : Int) ≠ 0; decide)
  · have hl : ¬ leftOf s (q : Int) < 1 := by unfold leftOf; rw [if_neg (by omega)]; omega
    have hq : q < s.size := by omega
    have ht := take_fine hl
    rw [ht.1, ht.2.1, ht.2.2, if_neg h1, finish_checked _ rfl]
    have hc : worth (cutOf s (q : Int).toNat (1 : Int).toNat).data.toList = (s.data.toList[q]?.getD 0).toNat := by
      unfold cutOf
      rw [ByteArray.data_extract, Array.toList_extract, List.extract_eq_take_drop, byte_at s q hq]
      show worth (List.take (q + 1 - q) (List.drop q s.data.toList)) = _
      rw [show q + 1 - q = 1 by omega, drop_cons s q hq]
      simp [worth]
    rw [hc]

theorem raw_real (s : ByteArray) (q : Nat) (h : q ≤ s.size) : finishV (rawV s 3 q) = checkedV (restV s 3 q) := by
  have hr : rawV s 3 q = (⟨3, 0, worth (takeB s q 0 8).data.toList, noText⟩, takeP s q 0 8, takeE s q 0 8) := rfl
  rw [hr]
  unfold restV
  rw [if_neg (by decide), if_pos rfl]
  by_cases h1 : s.size - q < 8
  · have hl : leftOf s (q : Int) < 8 := by unfold leftOf; rw [if_neg (by omega)]; omega
    rw [(take_cut hl).2.1, if_pos h1, checked_fail 3 (by decide)]
    exact finish_fail (by show (3 : Int) ≠ 0; decide)
  · have hl : ¬ leftOf s (q : Int) < 8 := by unfold leftOf; rw [if_neg (by omega)]; omega
    have ht := take_fine hl
    rw [ht.1, ht.2.1, ht.2.2, if_neg h1, finish_checked _ rfl]
    have hc : (cutOf s (q : Int).toNat (8 : Int).toNat).data.toList = (s.data.toList.drop q).take 8 := by
      unfold cutOf
      rw [ByteArray.data_extract, Array.toList_extract, List.extract_eq_take_drop]
      show List.take (q + 8 - q) (List.drop q s.data.toList) = _
      rw [show q + 8 - q = 8 by omega]
    rw [hc]

theorem raw_int (s : ByteArray) (q : Nat) (h : q ≤ s.size) : finishV (rawV s 1 q) = checkedV (restV s 1 q) := by
  have hr : rawV s 1 q = (⟨1, backZ (takeZ s q).1, 0, noText⟩, (takeZ s q).2.1, (takeZ s q).2.2) := rfl
  rw [hr]
  unfold restV
  rw [if_neg (by decide), if_neg (by decide)]
  by_cases h1 : (takeZ s q).2.2 = 0
  · rw [if_neg (fun h2 => h2 h1), if_pos rfl, finish_checked _ h1, h1]
  · rw [if_pos h1, checked_fail _ h1]
    exact finish_fail h1

theorem raw_text (s : ByteArray) (q : Nat) (h : q ≤ s.size) : finishV (rawV s 4 q) = checkedV (restV s 4 q) := by
  have hr : rawV s 4 q = restV s 4 q := rfl
  rw [hr]
  by_cases h1 : (restV s 4 q).2.2 = 0
  · exact finish_checked _ h1
  · have hf : restV s 4 q = failV (restV s 4 q).2.2 := by
      rw [rest_text] at h1 ⊢
      split
      · rfl
      · split
        · rfl
        · split
          · rfl
          · exact absurd (by rw [if_neg (by assumption), if_neg (by assumption), if_neg (by assumption)]) h1
    rw [hf, checked_fail _ h1]
    exact finish_failV _ h1

theorem take_raw (s : ByteArray) (p k : Nat) (h : p < s.size) (hk : s[p].toNat = k) : takeV s (p : Int) = finishV (rawV s k (p + 1)) := by
  by_cases h1 : k < 1 ∨ 4 < k
  · rw [take_none s p h (by rw [hk]; exact h1)]
    have hr : rawV s k (p + 1) = (⟨k, 0, 0, noText⟩, 0, 11) := by
      unfold rawV
      rw [if_neg (by omega), if_neg (by omega), if_neg (by omega), if_neg (by omega)]
    rw [hr]
    exact (finish_fail (x := (⟨k, 0, 0, noText⟩, 0, 11)) (show (11 : Int) ≠ 0 by decide)).symm
  · rw [take_at s p k h hk (by omega) (by omega)]
    have : k = 1 ∨ k = 2 ∨ k = 3 ∨ k = 4 := by omega
    rcases this with rfl | rfl | rfl | rfl
    · exact (raw_int s (p + 1) (by omega)).symm
    · exact (raw_flag s (p + 1) (by omega)).symm
    · exact (raw_real s (p + 1) (by omega)).symm
    · exact (raw_text s (p + 1) (by omega)).symm

theorem raw_bounds (s : ByteArray) (k p : Nat) (hk : k ≤ 255) (hs : s.size ≤ 70368744177664) : (rawV s k p).1.b ≤ 18446744073709551615 ∧ (rawV s k p).1.t.size ≤ 9223372036854775807 := by
  have h0 : noText.size ≤ 9223372036854775807 := by decide
  unfold rawV
  split
  · exact ⟨Nat.zero_le _, h0⟩
  · split
    · exact ⟨Nat.zero_le _, h0⟩
    · split
      · refine ⟨?_, h0⟩
        have h3 := worth_lt (takeB s (p : Int) 0 8).data.toList
        have h5 := takeB_size s (p : Int) 0 8
        have h4 : (256 : Nat) ^ (takeB s (p : Int) 0 8).data.toList.length ≤ 256 ^ 8 := Nat.pow_le_pow_right (by decide) h5
        have h6 : (256 : Nat) ^ 8 = 18446744073709551616 := by decide
        show worth (takeB s (p : Int) 0 8).data.toList ≤ _
        omega
      · split
        · rw [rest_text]
          (repeat' split)
          · exact ⟨Nat.zero_le _, h0⟩
          · exact ⟨Nat.zero_le _, h0⟩
          · exact ⟨Nat.zero_le _, h0⟩
          · refine ⟨Nat.zero_le _, ?_⟩
            show (s.extract _ _).size ≤ _
            rw [ByteArray.size_extract]
            omega
        · exact ⟨Nat.zero_le _, h0⟩

theorem vcheck_free (k : Nat) (n : Int) (b : Nat) (t : ByteArray) (w : World) (hb : b ≤ 18446744073709551615) (ht : t.size ≤ 9223372036854775807) : Calls Try.prog 12 #[vv k n b t] w (Says w (.int .i64 (checkV k n b t))) := by
  by_cases h : k < 1 ∨ 4 < k
  · exact vcheck_none k n b t w h
  · have : k = 1 ∨ k = 2 ∨ k = 3 ∨ k = 4 := by omega
    rcases this with rfl | rfl | rfl | rfl
    · exact vcheck_whole n b t w
    · exact vcheck_flag n b t w
    · exact vcheck_double n b t w hb
    · exact vcheck_text n b t w ht

set_option maxHeartbeats 1000000 in
theorem vtake_out (s : ByteArray) (p : Int) (w : World) (hs : s.size ≤ 70368744177664) (h : p < 0 ∨ s.size ≤ p) : Calls Try.prog 16 #[.string s, .int .i64 p] w (SaysV w (takeV s p)) := by
  by_cases h1 : p < 0 ∨ s.size < p
  · have hr : takeV s p = failV 2 := if_pos h1
    rw [hr]
    rcases h1 with h1 | h1
    · go_enter Try.func16, Try.ntmps16
      go_wp2_with fail
      exact bodyPost_ret (ret_cell_tmp2 rfl _ _ w.heap.size 31 _ (0, 0) _ rfl (heap_alloc_new w _) Try.underlying31 rfl (by kernel_rfl)) rfl (SaysV.mk rfl rfl (Ext.alloc _ _))
    · have h0 : ¬ p < 0 := by omega
      go_enter Try.func16, Try.ntmps16
      go_wp2_with fail
      exact bodyPost_ret (ret_cell_tmp2 rfl _ _ w.heap.size 31 _ (0, 0) _ rfl (heap_alloc_new w _) Try.underlying31 rfl (by kernel_rfl)) rfl (SaysV.mk rfl rfl (Ext.alloc _ _))
  · have hr : takeV s p = failV 3 := by unfold takeV; rw [if_neg h1, if_pos (by omega)]
    have hp : p = (s.size : Int) := by omega
    subst hp
    rw [hr]
    have hb : (s.size : Int) ≤ 9223372036854775807 := by omega
    clear hr h1 h
    go_enter Try.func16, Try.ntmps16
    go_wp2_with fail
    exact bodyPost_ret (ret_cell_tmp2 rfl _ _ w.heap.size 31 _ (0, 0) _ rfl (heap_alloc_new w _) Try.underlying31 rfl (by kernel_rfl)) rfl (SaysV.mk rfl rfl (Ext.alloc _ _))

set_option maxRecDepth 100000 in
set_option maxHeartbeats 1000000 in
theorem vtake_in (s : ByteArray) (p : Nat) (w : World) (hs : s.size ≤ 70368744177664) (hp : p < s.size) : Calls Try.prog 16 #[.string s, .int .i64 (p : Int)] w (SaysV w (takeV s (p : Int))) := by
  obtain ⟨k0, hk0⟩ : ∃ k0, s[p].toNat = k0 := ⟨_, rfl⟩
  have hk255 : k0 ≤ 255 := by have := s[p].toNat_lt; omega
  rw [take_raw s p k0 hp hk0]
  have hk' : (s[p].toNat : Int) = (k0 : Int) := by omega
  have kt := fun W => takeof_any s k0 (p + 1) W hs (by omega)
  have hb := raw_bounds s k0 (p + 1) hk255 hs
  obtain ⟨⟨k, n, b, t⟩, M, E, hT⟩ : ∃ X M E, rawV s k0 (p + 1) = (X, M, E) := ⟨_, _, _, rfl⟩
  rw [hT] at kt hb ⊢
  rw [show ((p + 1 : Nat) : Int) = (p : Int) + 1 from rfl] at kt
  have kc := fun W => vcheck_free k n b t W hb.1 hb.2
  have HF := hid (fun h : E ≠ 0 => finish_fail (x := (⟨k, n, b, t⟩, M, E)) h)
  have HG := hid (fun (h : E = 0) (hc : checkV k n b t = 0) => show finishV (⟨k, n, b, t⟩, M, E) = (⟨k, n, b, t⟩, M, E) by rw [finish_checked _ h, h]; exact checked_good hc)
  have HB := hid (fun (h : E = 0) (hc : checkV k n b t ≠ 0) => show finishV (⟨k, n, b, t⟩, M, E) = failV (checkV k n b t) by rw [finish_checked _ h, h]; exact checked_bad hc)
  generalize checkV k n b t = C at *
  obtain ⟨R, hR⟩ : ∃ R, R = finishV (⟨k, n, b, t⟩, M, E) := ⟨_, rfl⟩
  rw [← hR] at HF HG HB ⊢
  replace kt : ∀ W, Calls Try.prog 43 #[.int .u8 (k0 : Int), .string s, .int .i64 ((p : Int) + 1)] W (fun e w' => e = .returned (.tuple #[.agg #[.int .u8 (k : Int), .int .i64 n, .int .u64 (b : Int), .string t], .int .i64 M, .int .i64 E]) ∧ Ext W w') := kt
  unfold vv at kc
  clear hT hb hk0 hR
  go_enter Try.func16, Try.ntmps16
  go_wp2_with fail
  refine (kt _).mono ?_
  rintro e w1 ⟨rfl, hx⟩
  have hR := hid (hx.block (heap_alloc_new w _))
  have HX := hid ((Ext.alloc w _).trans hx)
  clear hx kt
  obtain ⟨⟨c0, c1, c2, c3⟩, ⟨m0, m1, m2, m3⟩, z0⟩ := box4 hR.out
  by_cases h0 : E = 0
  · subst h0
    go_wp2_with fail
    refine (kc _).mono ?_
    rintro e w2 ⟨rfl, hx⟩
    replace hR := hid (hx.block (set4 hR.out))
    replace HX : Hid (Ext w w2) := by
      refine Ext.trans ?_ hx
      repeat (first | (with_reducible exact HX.out) | (with_reducible refine Ext.setCell ?_ (by simp) _))
    clear hx kc c0 c1 c2 c3 m0 m1 m2 m3 z0
    obtain ⟨⟨c0, c1, c2, c3⟩, ⟨m0, m1, m2, m3⟩, z0⟩ := box4 hR.out
    by_cases hC : C = 0
    · have HR := hid (HG.out trivial hC)
      subst hC
      clear HF HB HG
      go_wp2_with fail
      refine bodyPost_ret (ret_cell_tmp2 rfl _ _ w.heap.size 31 _ (0, 0) _ rfl (set4 hR.out) Try.underlying31 rfl (by kernel_rfl)) rfl (SaysV.mk HR.out rfl ?_)
      repeat (first | (with_reducible exact HX.out) | (with_reducible apply Ext.then_drew) | (with_reducible apply Ext.then_alloc) | (with_reducible refine Ext.setCell ?_ (by simp) _))
    · have HR := hid (HB.out trivial hC)
      have hC' : (C != 0) = true := bne_iff_ne.2 hC
      clear HF HB HG hC
      go_wp2_with fail
      refine bodyPost_ret (ret_cell_tmp2 rfl _ _ w.heap.size 31 _ (0, 0) _ rfl (set4 hR.out) Try.underlying31 rfl (by kernel_rfl)) rfl (SaysV.mk HR.out rfl ?_)
      repeat (first | (with_reducible exact HX.out) | (with_reducible apply Ext.then_drew) | (with_reducible apply Ext.then_alloc) | (with_reducible refine Ext.setCell ?_ (by simp) _))
  · have hE' : (E != 0) = true := bne_iff_ne.2 h0
    have hE2 : (E == 0) = false := beq_eq_false_iff_ne.2 h0
    have HR := hid (HF.out h0)
    go_wp2_with fail
    refine bodyPost_ret (ret_cell_tmp2 rfl _ _ w.heap.size 31 _ (0, 0) _ rfl (set4 (set4 hR.out)) Try.underlying31 rfl (by kernel_rfl)) rfl (SaysV.mk HR.out rfl ?_)
    repeat (first | (with_reducible exact HX.out) | (with_reducible apply Ext.then_drew) | (with_reducible apply Ext.then_alloc) | (with_reducible refine Ext.setCell ?_ (by simp) _))

theorem vtake_any (s : ByteArray) (p : Int) (w : World) (hs : s.size ≤ 70368744177664) (hp0 : -9223372036854775808 ≤ p) (hp1 : p ≤ 9223372036854775807) : Calls Try.prog 16 #[.string s, .int .i64 p] w (SaysV w (takeV s p)) := by
  by_cases h : p < 0 ∨ s.size ≤ p
  · exact vtake_out s p w hs h
  · obtain ⟨q, rfl⟩ := Int.eq_ofNat_of_zero_le (show 0 ≤ p by omega)
    exact vtake_in s q w hs (by omega)
end Go.Proofs.Ytkblpbpmaoofgaa
