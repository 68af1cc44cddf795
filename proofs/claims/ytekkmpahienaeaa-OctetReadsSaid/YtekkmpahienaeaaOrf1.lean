/- telltaleref01.Num, Word, Text, by their contracts. Conditions: the reach of a slice. -/
import Derived.Test.YtekkmpahienaeaaOct3
namespace Go.Proofs.Ytekkmpahienaeaa
open Go Go.RowKit

set_option maxHeartbeats 400000 in
theorem rnum_arg (A : Option Addr) (l : List UInt8) (c : Nat) (k n : Int) (w : World) (hk : k < 1 ∨ 6 < k) :
    Calls Try.prog 9 #[.slice A l.length c, .int .i64 k, .int .i64 n] w (Told2 w (numSpec l k n)) := by
  have hp : numSpec l k n = ([], 2) := by unfold numSpec; rw [if_pos hk]
  have HP := hid hp
  clear hp
  rcases hk with hk | hk
  all_goals
    go_enter Try.func9, Try.ntmps9
    go_wp2_with fail
    go_ret2
    exact Told2.none_ _ _ _ HP.out

set_option maxHeartbeats 400000 in
theorem rnum_neg (A : Option Addr) (l : List UInt8) (c : Nat) (k n : Int) (w : World) (hk1 : 1 ≤ k) (hk : k ≤ 6) (hn : n < 0) :
    Calls Try.prog 9 #[.slice A l.length c, .int .i64 k, .int .i64 n] w (Told2 w (numSpec l k n)) := by
  have hp : numSpec l k n = ([], 8) := by unfold numSpec; rw [if_neg (by omega), if_pos (by omega)]
  have HP := hid hp
  clear hp
  go_enter Try.func9, Try.ntmps9
  go_wp2_with fail
  go_ret2
  exact Told2.none_ _ _ _ HP.out

set_option maxHeartbeats 400000 in
theorem rnum_ok (A : Option Addr) (l : List UInt8) (c k n : Nat) (w : World) (hl : Lies w A (bvs l)) (_hlc : l.length ≤ c) (hlen : l.length ≤ 70368744177664) (hk1 : 1 ≤ k) (hk : k ≤ 6) (h63 : n ≤ 9223372036854775807) :
    Calls Try.prog 9 #[.slice A l.length c, .int .i64 (k : Int), .int .i64 (n : Int)] w (Told2 w (numSpec l k n)) := by
  have HL := hid hl
  clear hl
  go_enter Try.func9, Try.ntmps9
  go_wp2_with fail
  go_loopw [8, 9, 2] (fun d i x wr => ∃ j : Nat, j ≤ k ∧ i = .int .i64 (j : Int) ∧ x = .int .i64 ((n / 256 ^ j : Nat) : Int) ∧ (∃ D C, d = .slice D j C ∧ Hid (Lies wr D (bvs (be j n)))) ∧ Ext w wr)
    (fun _ i _ _ => k - (intOf i).toNat)
  case atStart => exact ⟨0, by omega, rfl, by simp, ⟨none, 0, rfl, Lies.nil _ _⟩, Ext.refl w⟩
  case round =>
    obtain ⟨j, hj, rfl, rfl, ⟨D, C, rfl, hD⟩, hext⟩ := hrel
    obtain ⟨x, hx⟩ : ∃ x : Nat, x = n / 256 ^ j := ⟨_, rfl⟩
    rw [← hx]
    have hxl : x ≤ 9223372036854775807 := by rw [hx]; exact Nat.le_trans (Nat.div_le_self _ _) h63
    have HX := hid hx
    clear hx
    by_cases hjk : j < k
    · go_wp2_with ((with_reducible show wpList _ _ _ (⟨some 28, _, _, _, _, _⟩ :: _) _ _); (refine wpList_append_lies _ rfl (.tmp 26) (.tmp 27) _ rfl w.heap.size 5 (.int .u8 0) 1 1 Try.underlying22 infoByte rfl (by omega) _ 1 _ rfl (own_build wr w.heap.size 5 1 1 _ hext.size (by simp [maxLen]) rfl) D j C (bvs (be j n)) rfl (by simp [bvs_length, be_length]) (hD.out.ext (Ext.alloc _ _)) (bvs_one _) (by simp only [maxLen]; omega) (by omega) (by have := hext.size; simp; omega) (fun v1 w1 ho1 hg1 hb1 => ?_)); have HO1 := hid ho1; have HE1 := hid (lit_ext hg1); clear ho1 hg1 hb1)
      go_roundw
      case rel =>
        obtain ⟨D', C', rfl, _, _, hD'⟩ := own_shape HO1.out
        refine ⟨j + 1, by omega, by go_num, ?_, ⟨D', C', by rw [Nat.add_comm], ?_⟩, hext.trans HE1.out⟩
        · rw [show n / 256 ^ (j + 1) = x / 256 from by rw [HX.out, Nat.div_div_eq_div_mul, ← Nat.pow_succ]]
          go_num
        · show Lies _ _ _
          rw [be_left, ← HX.out]
          have e : (bvs (UInt8.ofNat (x % 256) :: be j n)) = [Value.int IntKind.u8 ((x : Int) % 256)] ++ bvs (be j n) := by simp [bvs, bv]
          rw [e]
          exact hD'
      case measure => simp [intOf]; omega
    · have hjk' : j = k := by omega
      have HJ := hid hjk'
      have hps : x = 0 → numSpec l k n = (l ++ be k n, 0) := by
        intro h0
        have h1 : n < 256 ^ k := by
          rw [HX.out, hjk'] at h0
          exact (Nat.div_eq_zero_iff_lt (Nat.pow_pos (by omega))).1 h0
        unfold numSpec
        rw [if_neg (by omega), Int.toNat_natCast, Int.toNat_natCast, if_neg]
        rintro (h | h)
        · omega
        · have : ((256 ^ k : Nat) : Int) ≤ (n : Int) := by simpa using h
          omega
      have hpr : 0 < x → numSpec l k n = ([], 8) := by
        intro h0
        have h1 : ((256 ^ k : Nat) : Int) ≤ (n : Int) := by
          rcases Nat.lt_or_ge n (256 ^ k) with h2 | h2
          · rw [HX.out, hjk', Nat.div_eq_of_lt h2] at h0
            omega
          · omega
        unfold numSpec
        rw [if_neg (by omega), Int.toNat_natCast, if_pos]
        exact Or.inr (by simpa using h1)
      have HPS := hid hps
      have HPR := hid hpr
      clear hps hpr hjk'
      go_wp2_with (first
        | ((with_reducible show wpList _ _ _ (⟨some 35, _, _, _, _, _⟩ :: _) _ _); (refine wpList_append_lies _ rfl (.tmp 33) (.tmp 34) _ rfl w.heap.size 5 (.int .u8 0) 1 1 Try.underlying22 infoByte rfl (by omega) _ 0 _ rfl (own_build wr w.heap.size 5 1 0 _ hext.size (by simp [maxLen]) rfl) A l.length c (bvs l) rfl (by simp [bvs_length]) (HL.out.ext (hext.trans (Ext.alloc _ _))) (bvs_one _) (by simp only [maxLen]; omega) (by omega) (by have := hext.size; simp; omega) (fun v1 w1 ho1 hg1 hb1 => ?_)); have HO1 := hid ho1; have HE1 := hid (lit_ext hg1); have HB1 := hid (lit_block hb1); clear ho1 hg1 hb1)
        | ((with_reducible show wpList _ _ _ (⟨some 37, _, _, _, _, _⟩ :: _) _ _); (refine wpList_append_lies _ rfl (.tmp 35) (.tmp 36) _ rfl w.heap.size 5 (.int .u8 0) 1 1 Try.underlying22 infoByte rfl (by omega) _ _ _ rfl HO1.out D j C (bvs (be j n)) rfl (by simp [bvs_length, be_length]) (hD.out.ext HE1.out) (bvs_one _) (by simp only [maxLen]; omega) (by omega) (by have := hext.size; have := HE1.out.size; omega) (fun v2 w2 ho2 hg2 hb2 => ?_)); have HO2 := hid ho2; have HE2 := hid (HE1.out.grown hg2 HB1.out); clear ho2 hg2 hb2))
      · have h0 : 0 < x := by assumption
        go_ret2
        exact Told2.none' _ _ _ _ (HPR.out h0) hext
      · have h0 : ¬ 0 < x := by assumption
        go_ret2
        have h2 := HO2.out
        rw [HJ.out] at h2
        have h3 : (bvs (l ++ be k n)) = [] ++ bvs l ++ bvs (be k n) := by rw [bvs_append]; rfl
        exact Told2.mk (HPS.out (by omega)) (by rw [h3]; exact h2) (hext.trans HE2.out)

/-- telltaleref01.Num -/
theorem rnum_any (A : Option Addr) (l : List UInt8) (c : Nat) (k n : Int) (w : World) (hl : Lies w A (bvs l)) (hlc : l.length ≤ c) (hlen : l.length ≤ 70368744177664) (h63 : n ≤ 9223372036854775807) :
    Calls Try.prog 9 #[.slice A l.length c, .int .i64 k, .int .i64 n] w (Told2 w (numSpec l k n)) := by
  by_cases hk : k < 1 ∨ 6 < k
  · exact rnum_arg A l c k n w hk
  · obtain ⟨k, rfl⟩ := Int.eq_ofNat_of_zero_le (show 0 ≤ k by omega)
    by_cases hn : n < 0
    · exact rnum_neg A l c k n w (by omega) (by omega) hn
    · obtain ⟨n, rfl⟩ := Int.eq_ofNat_of_zero_le (show 0 ≤ n by omega)
      exact rnum_ok A l c k n w hl hlc hlen (by omega) (by omega) (by omega)

end Go.Proofs.Ytekkmpahienaeaa
