/- telltaleref01.Word and Text, by their contracts. Conditions: the reach of a slice. -/
import Derived.Test.YtbgapkhcaideiaaBase
namespace Go.Proofs.Ytbgapkhcaideiaa
open Go Go.RowKit

set_option maxHeartbeats 400000 in
theorem rword_any (A : Option Addr) (l : List UInt8) (c n : Nat) (w : World) (hl : Lies w A (bvs l)) (hlen : l.length ≤ 70368744177664) (h63 : n ≤ 18446744073709551615) :
    Calls Try.prog 34 #[.slice A l.length c, .int .u64 (n : Int)] w (Told1 w (l ++ be 8 n)) := by
  have HL := hid hl
  clear hl
  go_enter Try.func34, Try.ntmps34
  go_wp2_with fail
  go_loopw [5, 6, 1] (fun d i x wr => ∃ j : Nat, j ≤ 8 ∧ i = .int .i64 (j : Int) ∧ x = .int .u64 ((n / 256 ^ j : Nat) : Int) ∧ (∃ D C, d = .slice D j C ∧ Hid (Lies wr D (bvs (be j n)))) ∧ Ext w wr)
    (fun _ i _ _ => 8 - (intOf i).toNat)
  case atStart => exact ⟨0, by omega, rfl, by simp, ⟨none, 0, rfl, Lies.nil _ _⟩, Ext.refl w⟩
  case round =>
    obtain ⟨j, hj, rfl, rfl, ⟨D, C, rfl, hD⟩, hext⟩ := hrel
    obtain ⟨x, hx⟩ : ∃ x : Nat, x = n / 256 ^ j := ⟨_, rfl⟩
    rw [← hx]
    have hxl : x ≤ 18446744073709551615 := by rw [hx]; exact Nat.le_trans (Nat.div_le_self _ _) h63
    have HX := hid hx
    clear hx
    by_cases hjk : j < 8
    · go_wp2_with ((with_reducible show wpList _ _ _ (⟨some 16, _, _, _, _, _⟩ :: _) _ _); (refine wpList_append_lies _ rfl (.tmp 14) (.tmp 15) _ rfl w.heap.size 5 (.int .u8 0) 1 1 Try.underlying39 infoByte rfl (by omega) _ 1 _ rfl (own_build wr w.heap.size 5 1 1 _ hext.size (by simp [maxLen]) rfl) D j C (bvs (be j n)) rfl (by simp [bvs_length, be_length]) (hD.out.ext (Ext.alloc _ _)) (bvs_one _) (by simp only [maxLen]; omega) (by omega) (by have := hext.size; simp; omega) (fun v1 w1 ho1 hg1 hb1 => ?_)); have HO1 := hid ho1; have HE1 := hid (lit_ext hg1); clear ho1 hg1 hb1)
      go_roundw
      case rel =>
        obtain ⟨D', C', rfl, _, _, hD'⟩ := own_shape HO1.out
        refine ⟨j + 1, by omega, by go_num, ?_, ⟨D', C', by rw [Nat.add_comm], ?_⟩, hext.trans HE1.out⟩
        · rw [show n / 256 ^ (j + 1) = x / 256 from by rw [HX.out, Nat.div_div_eq_div_mul, ← Nat.pow_succ]]
          go_num
        · show Lies _ _ _
          rw [be_left, ← HX.out]
          have e : (bvs (UInt8.ofNat (x % 256) :: be j n)) = [Value.int IntKind.u8 ((x : Int) % 256)] ++ bvs (be j n) := by simp [bvs, bv]
          rw [e]
          exact hD'
      case measure => simp [intOf]; omega
    · have hjk' : j = 8 := by omega
      have HJ := hid hjk'
      clear hjk'
      go_wp2_with (first
        | ((with_reducible show wpList _ _ _ (⟨some 21, _, _, _, _, _⟩ :: _) _ _); (refine wpList_append_lies _ rfl (.tmp 19) (.tmp 20) _ rfl w.heap.size 5 (.int .u8 0) 1 1 Try.underlying39 infoByte rfl (by omega) _ 0 _ rfl (own_build wr w.heap.size 5 1 0 _ hext.size (by simp [maxLen]) rfl) A l.length c (bvs l) rfl (by simp [bvs_length]) (HL.out.ext (hext.trans (Ext.alloc _ _))) (bvs_one _) (by simp only [maxLen]; omega) (by omega) (by have := hext.size; simp; omega) (fun v1 w1 ho1 hg1 hb1 => ?_)); have HO1 := hid ho1; have HE1 := hid (lit_ext hg1); have HB1 := hid (lit_block hb1); clear ho1 hg1 hb1)
        | ((with_reducible show wpList _ _ _ (⟨some 23, _, _, _, _, _⟩ :: _) _ _); (refine wpList_append_lies _ rfl (.tmp 21) (.tmp 22) _ rfl w.heap.size 5 (.int .u8 0) 1 1 Try.underlying39 infoByte rfl (by omega) _ _ _ rfl HO1.out D j C (bvs (be j n)) rfl (by simp [bvs_length, be_length]) (hD.out.ext HE1.out) (bvs_one _) (by simp only [maxLen]; omega) (by omega) (by have := hext.size; have := HE1.out.size; omega) (fun v2 w2 ho2 hg2 hb2 => ?_)); have HO2 := hid ho2; have HE2 := hid (HE1.out.grown hg2 HB1.out); clear ho2 hg2 hb2))
      go_ret
      have h2 := HO2.out
      rw [HJ.out] at h2
      have h3 : (bvs (l ++ be 8 n)) = [] ++ bvs l ++ bvs (be 8 n) := by rw [bvs_append]; rfl
      exact Told1.mk (by rw [h3]; exact h2) (hext.trans HE2.out)

theorem rword_at (v : Value) (l q : List UInt8) (u : Nat) (w : World) (hq : l ++ be 8 u = q) (hv : Bytes w v l) (hlen : l.length ≤ 70368744177664) (hu : u ≤ 18446744073709551615) :
    Calls Try.prog 34 #[v, .int .u64 (u : Int)] w (Told1 w q) := by
  obtain ⟨A, c, rfl, hc, _, hl⟩ := hv
  subst hq
  exact rword_any A l c u w hl hlen hu
end Go.Proofs.Ytbgapkhcaideiaa
