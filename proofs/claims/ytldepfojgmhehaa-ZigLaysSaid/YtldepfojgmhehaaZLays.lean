/- ZigLays: the walk. -/
import Derived.Test.YtldepfojgmhehaaZAwk
namespace Go.Proofs.Ytldepfojgmhehaa
open Go Go.RowKit

/-- what the slots of the region hold -/
def zlaysG (r0 r7 : Value) (n : Int) (u F : Nat) (K : Int) (B : List UInt8) : Nat → Value → World → Prop
  | 0, v, _ => v = r7
  | 1, v, _ => v = .int .u64 (u : Int)
  | 2, v, w => Bytes w v (B ++ zb u)
  | 3, v, _ => v = .string ⟨(B ++ zb u).toArray⟩
  | 4, v, _ => v = r0
  | 5, v, _ => v = .int .u64 (u : Int)
  | 6, v, w => Bytes w v (B ++ zb u)
  | 7, v, _ => v = .string ⟨(B ++ zb u).toArray⟩
  | 8, v, _ => v = .bool true
  | 9, v, _ => v = .bool true
  | 10, v, _ => v = .int .u64 (u : Int)
  | 11, v, _ => v = .int .i64 (zs u : Int)
  | 12, v, _ => v = .int .u64 (u : Int)
  | 13, v, _ => v = .int .i64 (zs u : Int)
  | 14, v, _ => v = .bool true
  | 15, v, _ => v = .bool true
  | 16, v, _ => v = .bool true
  | 17, v, _ => v = r7
  | 18, v, _ => v = .int .i64 n
  | 19, v, w => Bytes w v (B ++ zb F)
  | 20, v, _ => v = .string ⟨(B ++ zb F).toArray⟩
  | 21, v, _ => v = r0
  | 22, v, _ => v = .int .i64 n
  | 23, v, _ => v = .int .u64 (F : Int)
  | 24, v, w => Bytes w v (B ++ zb F)
  | 25, v, _ => v = .string ⟨(B ++ zb F).toArray⟩
  | 26, v, _ => v = .bool true
  | 27, v, _ => v = .bool true
  | 28, v, _ => v = .bool true
  | 29, v, _ => v = .int .i64 n
  | 30, v, _ => v = .int .u64 (F : Int)
  | 31, v, _ => v = .int .i64 n
  | 32, v, _ => v = .int .u64 (F : Int)
  | 33, v, _ => v = .bool true
  | 34, v, _ => v = .bool true
  | 35, v, _ => v = .bool true
  | 36, v, _ => v = .int .u64 (u : Int)
  | 37, v, _ => v = .int .i64 K
  | 38, v, _ => v = .int .u64 (u : Int)
  | 39, v, _ => v = .int .i64 K
  | 40, v, _ => v = .bool true
  | 41, v, _ => v = .bool true
  | 42, v, _ => v = .bool true
  | 43, v, _ => v = r7
  | 44, v, _ => v = .string ⟨(B).toArray⟩
  | 45, v, _ => v = r0
  | 46, v, _ => v = .string ⟨(B).toArray⟩
  | 47, v, _ => v = .bool true
  | 48, v, _ => v = .bool true
  | 49, v, _ => v = .bool true
  | 50, v, _ => v = .bool true
  | 51, v, _ => v = .bool true
  | 52, v, _ => v = .bool true
  | _, _, _ => True
theorem zlaysG_st (r0 r7 : Value) (n : Int) (u F : Nat) (K : Int) (B : List UInt8) : ∀ i9 z9 x9 y9, zlaysG r0 r7 n u F K B i9 z9 x9 → Ext x9 y9 → zlaysG r0 r7 n u F K B i9 z9 y9 := by
  intro i9 z9 x9 y9 h e
  unfold zlaysG at *
  split at h <;> first | exact h | exact Bytes.ext h e

set_option maxHeartbeats 400000 in
theorem zlays_out (A : Option Addr) (l : List UInt8) (c : Nat) (u : Nat) (n : Int) (w : World) (hlm : l.length ≤ maxLen) (h : 100 < l.length) :
    Calls Try.prog 3 #[.slice A l.length c, .int .u64 (u : Int), .int .i64 n] w (Says w (.bool true)) := by
  unfold maxLen at hlm
  go_enter Try.func3, Try.ntmps3
  go_wp2_with fail
  refine (awake_any _).mono ?_
  rintro e w4 ⟨rfl, hx⟩
  go_wp2_with fail
  go_ret
  exact ⟨rfl, hx⟩

set_option maxHeartbeats 4000000 in
theorem zlays_in (A : Option Addr) (B : List UInt8) (c : Nat) (u : Nat) (n : Int) (w : World) (hl : Lies w A (bvs B)) (hlc : B.length ≤ c) (hcm : c ≤ maxLen) (hl1 : B.length ≤ 100)
    (hul : u ≤ 18446744073709551615) (hn0 : -9223372036854775808 ≤ n) (hn1 : n ≤ 9223372036854775807) :
    Calls Try.prog 3 #[.slice A B.length c, .int .u64 (u : Int), .int .i64 n] w (Says w (.bool true)) := by
  have hr0 : Bytes w (.slice A B.length c) B := ⟨A, c, rfl, hlc, hcm, hl⟩
  obtain ⟨F, hF, hFl⟩ : ∃ F : Nat, foldZ n = (F : Int) ∧ F ≤ 18446744073709551615 := by
    have := fold_bounds hn0 hn1
    exact ⟨(foldZ n).toNat, by omega, by omega⟩
  have hzf : zf n = zb F := by unfold zf; rw [hF, Int.toNat_natCast]
  obtain ⟨K, hK⟩ : ∃ K, backZ (u : Int) = K := ⟨_, rfl⟩
  have HF := hid hF
  have HZF := hid hzf
  have HK := hid hK
  have H0 := hid hr0
  have HL := hid hl
  clear hF hzf hK hr0 hl
  go_enter Try.func3, Try.ntmps3
  go_wp2_with ((with_reducible show wpList _ _ _ (⟨some 14, _, _, _, _, _⟩ :: _) _ _); (refine wpList_append_lies _ rfl (.tmp 12) (.tmp 13) _ rfl w.heap.size 5 (.int .u8 0) 1 1 Try.underlying22 infoByte rfl (by omega) _ 0 _ rfl (own_build w w.heap.size 5 1 0 _ (Nat.le_refl _) (by simp [maxLen]) rfl) A B.length c (bvs B) rfl (by simp [bvs_length]) (HL.out.ext (Ext.alloc _ _)) (bvs_one _) (by simp only [maxLen]; omega) (by omega) (by simp) (fun r7 w1 ho1 hg1 hb1 => ?_)); have H7 := hid (Bytes.of_own (l := B) ho1); have HX := hid (lit_ext hg1); clear ho1 hg1 hb1)
  replace H0 := hid (H0.out.ext HX.out)
  obtain ⟨r0, hr0⟩ : ∃ r0, r0 = Value.slice A B.length c := ⟨_, rfl⟩
  rw [← hr0] at H0 ⊢
  clear hr0 HL
  refine wp_region_slots Ext (zlaysG r0 r7 n u F K B) (by kernel_rfl) Ext.trans Ext.refl (Ext.drew _) (zlaysG_st _ _ _ _ _ _ _) (by kernel_rfl) ?_ ?_
  · intro tmps wr hle hfr j o ho hty
    have h0 : tmps[0]?.getD undef = r0 := hfr 0 (by kernel_rfl)
    have h1 : tmps[1]?.getD undef = .int .u64 (u : Int) := hfr 1 (by kernel_rfl)
    have h2 : tmps[2]?.getD undef = .int .i64 n := hfr 2 (by kernel_rfl)
    have h7 : tmps[7]?.getD undef = r7 := hfr 7 (by kernel_rfl)
    clear hfr
    match j, ho with
    | 0, ho =>
      obtain rfl := (Option.some.inj ho)
      clear hty ho
      refine step_pure (r7) (wanted_free rfl) ?_ (Ext.refl _) rfl
      simp [execOp, Act.eval, h7, go_sem]
    | 1, ho =>
      obtain rfl := (Option.some.inj ho)
      clear hty ho
      refine step_pure (.int .u64 (u : Int)) (wanted_free rfl) ?_ (Ext.refl _) rfl
      simp [execOp, Act.eval, h1, go_sem]
    | 2, ho =>
      have h15 : tmps[15]?.getD undef = r7 := hty 0 15 rfl (by obtain rfl := (Option.some.inj ho); rfl)
      have h16 : tmps[16]?.getD undef = .int .u64 (u : Int) := hty 1 16 rfl (by obtain rfl := (Option.some.inj ho); rfl)
      obtain rfl := (Option.some.inj ho)
      clear hty ho
      refine step_call 8 #[r7, .int .u64 (u : Int)] (wanted_free rfl) ?_ ?_
      · simp [execOp, Act.eval, h15, h16, go_sem]
      · exact (put_at _ B u _ (H7.out.ext hle) (by omega) hul).mono fun e w' ⟨r, h1, h2, h3⟩ => ⟨r, h1, h3, Bytes.of_own h2⟩
    | 3, ho =>
      have h17 : Bytes wr (tmps[17]?.getD undef) (B ++ zb u) := hty 2 17 rfl (by obtain rfl := (Option.some.inj ho); rfl)
      obtain rfl := (Option.some.inj ho)
      clear hty ho
      refine step_pure (.string ⟨(B ++ zb u).toArray⟩) (wanted_free rfl) ?_ (Ext.refl _) rfl
      have hcv := run_string_bytes Try.underlying22 Try.underlying5 Try.underlying9 h17
      simp [execOp, Act.eval, hcv, go_sem]
    | 4, ho =>
      obtain rfl := (Option.some.inj ho)
      clear hty ho
      refine step_pure (r0) (wanted_free rfl) ?_ (Ext.refl _) rfl
      simp [execOp, Act.eval, h0, go_sem]
    | 5, ho =>
      obtain rfl := (Option.some.inj ho)
      clear hty ho
      refine step_pure (.int .u64 (u : Int)) (wanted_free rfl) ?_ (Ext.refl _) rfl
      simp [execOp, Act.eval, h1, go_sem]
    | 6, ho =>
      have h19 : tmps[19]?.getD undef = r0 := hty 4 19 rfl (by obtain rfl := (Option.some.inj ho); rfl)
      have h20 : tmps[20]?.getD undef = .int .u64 (u : Int) := hty 5 20 rfl (by obtain rfl := (Option.some.inj ho); rfl)
      obtain rfl := (Option.some.inj ho)
      clear hty ho
      refine step_call 9 #[r0, .int .u64 (u : Int)] (wanted_free rfl) ?_ ?_
      · simp [execOp, Act.eval, h19, h20, go_sem]
      · exact (rput_at _ B u _ (H0.out.ext hle) (by omega) hul).mono fun e w' ⟨r, h1, h2, h3⟩ => ⟨r, h1, h3, Bytes.of_own h2⟩
    | 7, ho =>
      have h21 : Bytes wr (tmps[21]?.getD undef) (B ++ zb u) := hty 6 21 rfl (by obtain rfl := (Option.some.inj ho); rfl)
      obtain rfl := (Option.some.inj ho)
      clear hty ho
      refine step_pure (.string ⟨(B ++ zb u).toArray⟩) (wanted_free rfl) ?_ (Ext.refl _) rfl
      have hcv := run_string_bytes Try.underlying22 Try.underlying5 Try.underlying9 h21
      simp [execOp, Act.eval, hcv, go_sem]
    | 8, ho =>
      have h18 : tmps[18]?.getD undef = .string ⟨(B ++ zb u).toArray⟩ := hty 3 18 rfl (by obtain rfl := (Option.some.inj ho); rfl)
      have h22 : tmps[22]?.getD undef = .string ⟨(B ++ zb u).toArray⟩ := hty 7 22 rfl (by obtain rfl := (Option.some.inj ho); rfl)
      obtain rfl := (Option.some.inj ho)
      clear hty ho
      refine step_pure (.bool true) (wanted_free rfl) ?_ (Ext.refl _) rfl
      simp [execOp, Act.eval, h18, h22, go_sem]
    | 9, ho =>
      have h23 : tmps[23]?.getD undef = .bool true := hty 8 23 rfl (by obtain rfl := (Option.some.inj ho); rfl)
      obtain rfl := (Option.some.inj ho)
      clear hty ho
      refine step_pure (.bool true) (wanted_free rfl) ?_ (Ext.refl _) rfl
      simp [execOp, Act.eval, h23, go_sem]
    | 10, ho =>
      have h24 : tmps[24]?.getD undef = .bool true := hty 9 24 rfl (by obtain rfl := (Option.some.inj ho); rfl)
      obtain rfl := (Option.some.inj ho)
      clear hty ho
      refine step_pure (.int .u64 (u : Int)) (wanted_guard rfl rfl h24) ?_ (Ext.refl _) rfl
      simp [execOp, Act.eval, h1, go_sem]
    | 11, ho =>
      have h25 : tmps[25]?.getD undef = .int .u64 (u : Int) := hty 10 25 rfl (by obtain rfl := (Option.some.inj ho); rfl)
      have h24 : tmps[24]?.getD undef = .bool true := hty 9 24 rfl (by obtain rfl := (Option.some.inj ho); rfl)
      obtain rfl := (Option.some.inj ho)
      clear hty ho
      refine step_call 10 #[.int .u64 (u : Int)] (wanted_guard rfl rfl h24) ?_ ?_
      · simp [execOp, Act.eval, h25, go_sem]
      · exact (size_any u _ hul).mono fun e w' ⟨h1, h2⟩ => ⟨_, h1, h2, rfl⟩
    | 12, ho =>
      have h24 : tmps[24]?.getD undef = .bool true := hty 9 24 rfl (by obtain rfl := (Option.some.inj ho); rfl)
      obtain rfl := (Option.some.inj ho)
      clear hty ho
      refine step_pure (.int .u64 (u : Int)) (wanted_guard rfl rfl h24) ?_ (Ext.refl _) rfl
      simp [execOp, Act.eval, h1, go_sem]
    | 13, ho =>
      have h27 : tmps[27]?.getD undef = .int .u64 (u : Int) := hty 12 27 rfl (by obtain rfl := (Option.some.inj ho); rfl)
      have h24 : tmps[24]?.getD undef = .bool true := hty 9 24 rfl (by obtain rfl := (Option.some.inj ho); rfl)
      obtain rfl := (Option.some.inj ho)
      clear hty ho
      refine step_call 11 #[.int .u64 (u : Int)] (wanted_guard rfl rfl h24) ?_ ?_
      · simp [execOp, Act.eval, h27, go_sem]
      · exact (rsize_any u _ hul).mono fun e w' ⟨h1, h2⟩ => ⟨_, h1, h2, rfl⟩
    | 14, ho =>
      have h26 : tmps[26]?.getD undef = .int .i64 (zs u : Int) := hty 11 26 rfl (by obtain rfl := (Option.some.inj ho); rfl)
      have h28 : tmps[28]?.getD undef = .int .i64 (zs u : Int) := hty 13 28 rfl (by obtain rfl := (Option.some.inj ho); rfl)
      have h24 : tmps[24]?.getD undef = .bool true := hty 9 24 rfl (by obtain rfl := (Option.some.inj ho); rfl)
      obtain rfl := (Option.some.inj ho)
      clear hty ho
      refine step_pure (.bool true) (wanted_guard rfl rfl h24) ?_ (Ext.refl _) rfl
      simp [execOp, Act.eval, h26, h28, go_sem]
    | 15, ho =>
      have h24 : tmps[24]?.getD undef = .bool true := hty 9 24 rfl (by obtain rfl := (Option.some.inj ho); rfl)
      have h29 : tmps[29]?.getD undef = .bool true := hty 14 29 rfl (by obtain rfl := (Option.some.inj ho); rfl)
      obtain rfl := (Option.some.inj ho)
      clear hty ho
      refine step_pure (.bool true) (wanted_free rfl) ?_ (Ext.refl _) rfl
      simp [execOp, Act.eval, h24, h29, go_sem]
    | 16, ho =>
      have h30 : tmps[30]?.getD undef = .bool true := hty 15 30 rfl (by obtain rfl := (Option.some.inj ho); rfl)
      obtain rfl := (Option.some.inj ho)
      clear hty ho
      refine step_pure (.bool true) (wanted_free rfl) ?_ (Ext.refl _) rfl
      simp [execOp, Act.eval, h30, go_sem]
    | 17, ho =>
      have h31 : tmps[31]?.getD undef = .bool true := hty 16 31 rfl (by obtain rfl := (Option.some.inj ho); rfl)
      obtain rfl := (Option.some.inj ho)
      clear hty ho
      refine step_pure (r7) (wanted_guard rfl rfl h31) ?_ (Ext.refl _) rfl
      simp [execOp, Act.eval, h7, go_sem]
    | 18, ho =>
      have h31 : tmps[31]?.getD undef = .bool true := hty 16 31 rfl (by obtain rfl := (Option.some.inj ho); rfl)
      obtain rfl := (Option.some.inj ho)
      clear hty ho
      refine step_pure (.int .i64 n) (wanted_guard rfl rfl h31) ?_ (Ext.refl _) rfl
      simp [execOp, Act.eval, h2, go_sem]
    | 19, ho =>
      have h32 : tmps[32]?.getD undef = r7 := hty 17 32 rfl (by obtain rfl := (Option.some.inj ho); rfl)
      have h33 : tmps[33]?.getD undef = .int .i64 n := hty 18 33 rfl (by obtain rfl := (Option.some.inj ho); rfl)
      have h31 : tmps[31]?.getD undef = .bool true := hty 16 31 rfl (by obtain rfl := (Option.some.inj ho); rfl)
      obtain rfl := (Option.some.inj ho)
      clear hty ho
      refine step_call 12 #[r7, .int .i64 n] (wanted_guard rfl rfl h31) ?_ ?_
      · simp [execOp, Act.eval, h32, h33, go_sem]
      · exact (putint_at _ B n _ (H7.out.ext hle) (by omega) hn0 hn1).mono fun e w' ⟨r, h1, h2, h3⟩ => ⟨r, h1, h3, by have h4 := Bytes.of_own h2; rwa [HZF.out] at h4⟩
    | 20, ho =>
      have h34 : Bytes wr (tmps[34]?.getD undef) (B ++ zb F) := hty 19 34 rfl (by obtain rfl := (Option.some.inj ho); rfl)
      have h31 : tmps[31]?.getD undef = .bool true := hty 16 31 rfl (by obtain rfl := (Option.some.inj ho); rfl)
      obtain rfl := (Option.some.inj ho)
      clear hty ho
      refine step_pure (.string ⟨(B ++ zb F).toArray⟩) (wanted_guard rfl rfl h31) ?_ (Ext.refl _) rfl
      have hcv := run_string_bytes Try.underlying22 Try.underlying5 Try.underlying9 h34
      simp [execOp, Act.eval, hcv, go_sem]
    | 21, ho =>
      have h31 : tmps[31]?.getD undef = .bool true := hty 16 31 rfl (by obtain rfl := (Option.some.inj ho); rfl)
      obtain rfl := (Option.some.inj ho)
      clear hty ho
      refine step_pure (r0) (wanted_guard rfl rfl h31) ?_ (Ext.refl _) rfl
      simp [execOp, Act.eval, h0, go_sem]
    | 22, ho =>
      have h31 : tmps[31]?.getD undef = .bool true := hty 16 31 rfl (by obtain rfl := (Option.some.inj ho); rfl)
      obtain rfl := (Option.some.inj ho)
      clear hty ho
      refine step_pure (.int .i64 n) (wanted_guard rfl rfl h31) ?_ (Ext.refl _) rfl
      simp [execOp, Act.eval, h2, go_sem]
    | 23, ho =>
      have h37 : tmps[37]?.getD undef = .int .i64 n := hty 22 37 rfl (by obtain rfl := (Option.some.inj ho); rfl)
      have h31 : tmps[31]?.getD undef = .bool true := hty 16 31 rfl (by obtain rfl := (Option.some.inj ho); rfl)
      obtain rfl := (Option.some.inj ho)
      clear hty ho
      refine step_call 13 #[.int .i64 n] (wanted_guard rfl rfl h31) ?_ ?_
      · simp [execOp, Act.eval, h37, go_sem]
      · exact (rfold_any n _ hn0 hn1).mono fun e w' ⟨h1, h2⟩ => ⟨_, h1, h2, congrArg _ HF.out⟩
    | 24, ho =>
      have h36 : tmps[36]?.getD undef = r0 := hty 21 36 rfl (by obtain rfl := (Option.some.inj ho); rfl)
      have h38 : tmps[38]?.getD undef = .int .u64 (F : Int) := hty 23 38 rfl (by obtain rfl := (Option.some.inj ho); rfl)
      have h31 : tmps[31]?.getD undef = .bool true := hty 16 31 rfl (by obtain rfl := (Option.some.inj ho); rfl)
      obtain rfl := (Option.some.inj ho)
      clear hty ho
      refine step_call 9 #[r0, .int .u64 (F : Int)] (wanted_guard rfl rfl h31) ?_ ?_
      · simp [execOp, Act.eval, h36, h38, go_sem]
      · exact (rput_at _ B F _ (H0.out.ext hle) (by omega) hFl).mono fun e w' ⟨r, h1, h2, h3⟩ => ⟨r, h1, h3, Bytes.of_own h2⟩
    | 25, ho =>
      have h39 : Bytes wr (tmps[39]?.getD undef) (B ++ zb F) := hty 24 39 rfl (by obtain rfl := (Option.some.inj ho); rfl)
      have h31 : tmps[31]?.getD undef = .bool true := hty 16 31 rfl (by obtain rfl := (Option.some.inj ho); rfl)
      obtain rfl := (Option.some.inj ho)
      clear hty ho
      refine step_pure (.string ⟨(B ++ zb F).toArray⟩) (wanted_guard rfl rfl h31) ?_ (Ext.refl _) rfl
      have hcv := run_string_bytes Try.underlying22 Try.underlying5 Try.underlying9 h39
      simp [execOp, Act.eval, hcv, go_sem]
    | 26, ho =>
      have h35 : tmps[35]?.getD undef = .string ⟨(B ++ zb F).toArray⟩ := hty 20 35 rfl (by obtain rfl := (Option.some.inj ho); rfl)
      have h40 : tmps[40]?.getD undef = .string ⟨(B ++ zb F).toArray⟩ := hty 25 40 rfl (by obtain rfl := (Option.some.inj ho); rfl)
      have h31 : tmps[31]?.getD undef = .bool true := hty 16 31 rfl (by obtain rfl := (Option.some.inj ho); rfl)
      obtain rfl := (Option.some.inj ho)
      clear hty ho
      refine step_pure (.bool true) (wanted_guard rfl rfl h31) ?_ (Ext.refl _) rfl
      simp [execOp, Act.eval, h35, h40, go_sem]
    | 27, ho =>
      have h31 : tmps[31]?.getD undef = .bool true := hty 16 31 rfl (by obtain rfl := (Option.some.inj ho); rfl)
      have h41 : tmps[41]?.getD undef = .bool true := hty 26 41 rfl (by obtain rfl := (Option.some.inj ho); rfl)
      obtain rfl := (Option.some.inj ho)
      clear hty ho
      refine step_pure (.bool true) (wanted_free rfl) ?_ (Ext.refl _) rfl
      simp [execOp, Act.eval, h31, h41, go_sem]
    | 28, ho =>
      have h42 : tmps[42]?.getD undef = .bool true := hty 27 42 rfl (by obtain rfl := (Option.some.inj ho); rfl)
      obtain rfl := (Option.some.inj ho)
      clear hty ho
      refine step_pure (.bool true) (wanted_free rfl) ?_ (Ext.refl _) rfl
      simp [execOp, Act.eval, h42, go_sem]
    | 29, ho =>
      have h43 : tmps[43]?.getD undef = .bool true := hty 28 43 rfl (by obtain rfl := (Option.some.inj ho); rfl)
      obtain rfl := (Option.some.inj ho)
      clear hty ho
      refine step_pure (.int .i64 n) (wanted_guard rfl rfl h43) ?_ (Ext.refl _) rfl
      simp [execOp, Act.eval, h2, go_sem]
    | 30, ho =>
      have h44 : tmps[44]?.getD undef = .int .i64 n := hty 29 44 rfl (by obtain rfl := (Option.some.inj ho); rfl)
      have h43 : tmps[43]?.getD undef = .bool true := hty 28 43 rfl (by obtain rfl := (Option.some.inj ho); rfl)
      obtain rfl := (Option.some.inj ho)
      clear hty ho
      refine step_call 14 #[.int .i64 n] (wanted_guard rfl rfl h43) ?_ ?_
      · simp [execOp, Act.eval, h44, go_sem]
      · exact (fold_any n _ hn0 hn1).mono fun e w' ⟨h1, h2⟩ => ⟨_, h1, h2, congrArg _ HF.out⟩
    | 31, ho =>
      have h43 : tmps[43]?.getD undef = .bool true := hty 28 43 rfl (by obtain rfl := (Option.some.inj ho); rfl)
      obtain rfl := (Option.some.inj ho)
      clear hty ho
      refine step_pure (.int .i64 n) (wanted_guard rfl rfl h43) ?_ (Ext.refl _) rfl
      simp [execOp, Act.eval, h2, go_sem]
    | 32, ho =>
      have h46 : tmps[46]?.getD undef = .int .i64 n := hty 31 46 rfl (by obtain rfl := (Option.some.inj ho); rfl)
      have h43 : tmps[43]?.getD undef = .bool true := hty 28 43 rfl (by obtain rfl := (Option.some.inj ho); rfl)
      obtain rfl := (Option.some.inj ho)
      clear hty ho
      refine step_call 13 #[.int .i64 n] (wanted_guard rfl rfl h43) ?_ ?_
      · simp [execOp, Act.eval, h46, go_sem]
      · exact (rfold_any n _ hn0 hn1).mono fun e w' ⟨h1, h2⟩ => ⟨_, h1, h2, congrArg _ HF.out⟩
    | 33, ho =>
      have h45 : tmps[45]?.getD undef = .int .u64 (F : Int) := hty 30 45 rfl (by obtain rfl := (Option.some.inj ho); rfl)
      have h47 : tmps[47]?.getD undef = .int .u64 (F : Int) := hty 32 47 rfl (by obtain rfl := (Option.some.inj ho); rfl)
      have h43 : tmps[43]?.getD undef = .bool true := hty 28 43 rfl (by obtain rfl := (Option.some.inj ho); rfl)
      obtain rfl := (Option.some.inj ho)
      clear hty ho
      refine step_pure (.bool true) (wanted_guard rfl rfl h43) ?_ (Ext.refl _) rfl
      simp [execOp, Act.eval, h45, h47, go_sem]
    | 34, ho =>
      have h43 : tmps[43]?.getD undef = .bool true := hty 28 43 rfl (by obtain rfl := (Option.some.inj ho); rfl)
      have h48 : tmps[48]?.getD undef = .bool true := hty 33 48 rfl (by obtain rfl := (Option.some.inj ho); rfl)
      obtain rfl := (Option.some.inj ho)
      clear hty ho
      refine step_pure (.bool true) (wanted_free rfl) ?_ (Ext.refl _) rfl
      simp [execOp, Act.eval, h43, h48, go_sem]
    | 35, ho =>
      have h49 : tmps[49]?.getD undef = .bool true := hty 34 49 rfl (by obtain rfl := (Option.some.inj ho); rfl)
      obtain rfl := (Option.some.inj ho)
      clear hty ho
      refine step_pure (.bool true) (wanted_free rfl) ?_ (Ext.refl _) rfl
      simp [execOp, Act.eval, h49, go_sem]
    | 36, ho =>
      have h50 : tmps[50]?.getD undef = .bool true := hty 35 50 rfl (by obtain rfl := (Option.some.inj ho); rfl)
      obtain rfl := (Option.some.inj ho)
      clear hty ho
      refine step_pure (.int .u64 (u : Int)) (wanted_guard rfl rfl h50) ?_ (Ext.refl _) rfl
      simp [execOp, Act.eval, h1, go_sem]
    | 37, ho =>
      have h51 : tmps[51]?.getD undef = .int .u64 (u : Int) := hty 36 51 rfl (by obtain rfl := (Option.some.inj ho); rfl)
      have h50 : tmps[50]?.getD undef = .bool true := hty 35 50 rfl (by obtain rfl := (Option.some.inj ho); rfl)
      obtain rfl := (Option.some.inj ho)
      clear hty ho
      refine step_call 15 #[.int .u64 (u : Int)] (wanted_guard rfl rfl h50) ?_ ?_
      · simp [execOp, Act.eval, h51, go_sem]
      · exact (back_any u _ (by omega) (by omega)).mono fun e w' ⟨h1, h2⟩ => ⟨_, h1, h2, congrArg _ HK.out⟩
    | 38, ho =>
      have h50 : tmps[50]?.getD undef = .bool true := hty 35 50 rfl (by obtain rfl := (Option.some.inj ho); rfl)
      obtain rfl := (Option.some.inj ho)
      clear hty ho
      refine step_pure (.int .u64 (u : Int)) (wanted_guard rfl rfl h50) ?_ (Ext.refl _) rfl
      simp [execOp, Act.eval, h1, go_sem]
    | 39, ho =>
      have h53 : tmps[53]?.getD undef = .int .u64 (u : Int) := hty 38 53 rfl (by obtain rfl := (Option.some.inj ho); rfl)
      have h50 : tmps[50]?.getD undef = .bool true := hty 35 50 rfl (by obtain rfl := (Option.some.inj ho); rfl)
      obtain rfl := (Option.some.inj ho)
      clear hty ho
      refine step_call 16 #[.int .u64 (u : Int)] (wanted_guard rfl rfl h50) ?_ ?_
      · simp [execOp, Act.eval, h53, go_sem]
      · exact (rback_any u _ (by omega) (by omega)).mono fun e w' ⟨h1, h2⟩ => ⟨_, h1, h2, congrArg _ HK.out⟩
    | 40, ho =>
      have h52 : tmps[52]?.getD undef = .int .i64 K := hty 37 52 rfl (by obtain rfl := (Option.some.inj ho); rfl)
      have h54 : tmps[54]?.getD undef = .int .i64 K := hty 39 54 rfl (by obtain rfl := (Option.some.inj ho); rfl)
      have h50 : tmps[50]?.getD undef = .bool true := hty 35 50 rfl (by obtain rfl := (Option.some.inj ho); rfl)
      obtain rfl := (Option.some.inj ho)
      clear hty ho
      refine step_pure (.bool true) (wanted_guard rfl rfl h50) ?_ (Ext.refl _) rfl
      simp [execOp, Act.eval, h52, h54, go_sem]
    | 41, ho =>
      have h50 : tmps[50]?.getD undef = .bool true := hty 35 50 rfl (by obtain rfl := (Option.some.inj ho); rfl)
      have h55 : tmps[55]?.getD undef = .bool true := hty 40 55 rfl (by obtain rfl := (Option.some.inj ho); rfl)
      obtain rfl := (Option.some.inj ho)
      clear hty ho
      refine step_pure (.bool true) (wanted_free rfl) ?_ (Ext.refl _) rfl
      simp [execOp, Act.eval, h50, h55, go_sem]
    | 42, ho =>
      have h56 : tmps[56]?.getD undef = .bool true := hty 41 56 rfl (by obtain rfl := (Option.some.inj ho); rfl)
      obtain rfl := (Option.some.inj ho)
      clear hty ho
      refine step_pure (.bool true) (wanted_free rfl) ?_ (Ext.refl _) rfl
      simp [execOp, Act.eval, h56, go_sem]
    | 43, ho =>
      have h57 : tmps[57]?.getD undef = .bool true := hty 42 57 rfl (by obtain rfl := (Option.some.inj ho); rfl)
      obtain rfl := (Option.some.inj ho)
      clear hty ho
      refine step_pure (r7) (wanted_guard rfl rfl h57) ?_ (Ext.refl _) rfl
      simp [execOp, Act.eval, h7, go_sem]
    | 44, ho =>
      have h58 : tmps[58]?.getD undef = r7 := hty 43 58 rfl (by obtain rfl := (Option.some.inj ho); rfl)
      have h57 : tmps[57]?.getD undef = .bool true := hty 42 57 rfl (by obtain rfl := (Option.some.inj ho); rfl)
      obtain rfl := (Option.some.inj ho)
      clear hty ho
      refine step_pure (.string ⟨(B).toArray⟩) (wanted_guard rfl rfl h57) ?_ (Ext.refl _) rfl
      have hcv := run_string_bytes Try.underlying22 Try.underlying5 Try.underlying9 (H7.out.ext hle)
      simp [execOp, Act.eval, h58, hcv, go_sem]
    | 45, ho =>
      have h57 : tmps[57]?.getD undef = .bool true := hty 42 57 rfl (by obtain rfl := (Option.some.inj ho); rfl)
      obtain rfl := (Option.some.inj ho)
      clear hty ho
      refine step_pure (r0) (wanted_guard rfl rfl h57) ?_ (Ext.refl _) rfl
      simp [execOp, Act.eval, h0, go_sem]
    | 46, ho =>
      have h60 : tmps[60]?.getD undef = r0 := hty 45 60 rfl (by obtain rfl := (Option.some.inj ho); rfl)
      have h57 : tmps[57]?.getD undef = .bool true := hty 42 57 rfl (by obtain rfl := (Option.some.inj ho); rfl)
      obtain rfl := (Option.some.inj ho)
      clear hty ho
      refine step_pure (.string ⟨(B).toArray⟩) (wanted_guard rfl rfl h57) ?_ (Ext.refl _) rfl
      have hcv := run_string_bytes Try.underlying22 Try.underlying5 Try.underlying9 (H0.out.ext hle)
      simp [execOp, Act.eval, h60, hcv, go_sem]
    | 47, ho =>
      have h59 : tmps[59]?.getD undef = .string ⟨(B).toArray⟩ := hty 44 59 rfl (by obtain rfl := (Option.some.inj ho); rfl)
      have h61 : tmps[61]?.getD undef = .string ⟨(B).toArray⟩ := hty 46 61 rfl (by obtain rfl := (Option.some.inj ho); rfl)
      have h57 : tmps[57]?.getD undef = .bool true := hty 42 57 rfl (by obtain rfl := (Option.some.inj ho); rfl)
      obtain rfl := (Option.some.inj ho)
      clear hty ho
      refine step_pure (.bool true) (wanted_guard rfl rfl h57) ?_ (Ext.refl _) rfl
      simp [execOp, Act.eval, h59, h61, go_sem]
    | 48, ho =>
      have h57 : tmps[57]?.getD undef = .bool true := hty 42 57 rfl (by obtain rfl := (Option.some.inj ho); rfl)
      have h62 : tmps[62]?.getD undef = .bool true := hty 47 62 rfl (by obtain rfl := (Option.some.inj ho); rfl)
      obtain rfl := (Option.some.inj ho)
      clear hty ho
      refine step_pure (.bool true) (wanted_free rfl) ?_ (Ext.refl _) rfl
      simp [execOp, Act.eval, h57, h62, go_sem]
    | 49, ho =>
      have h63 : tmps[63]?.getD undef = .bool true := hty 48 63 rfl (by obtain rfl := (Option.some.inj ho); rfl)
      obtain rfl := (Option.some.inj ho)
      clear hty ho
      refine step_pure (.bool true) (wanted_free rfl) ?_ (Ext.refl _) rfl
      simp [execOp, Act.eval, h63, go_sem]
    | 50, ho =>
      have h64 : tmps[64]?.getD undef = .bool true := hty 49 64 rfl (by obtain rfl := (Option.some.inj ho); rfl)
      obtain rfl := (Option.some.inj ho)
      clear hty ho
      refine step_call 7 #[] (wanted_guard rfl rfl h64) ?_ ?_
      · simp [execOp, Act.eval, go_sem]
      · exact (awake_any _).mono fun e w' ⟨h1, h2⟩ => ⟨_, h1, h2, rfl⟩
    | 51, ho =>
      have h64 : tmps[64]?.getD undef = .bool true := hty 49 64 rfl (by obtain rfl := (Option.some.inj ho); rfl)
      have h65 : tmps[65]?.getD undef = .bool true := hty 50 65 rfl (by obtain rfl := (Option.some.inj ho); rfl)
      obtain rfl := (Option.some.inj ho)
      clear hty ho
      refine step_pure (.bool true) (wanted_free rfl) ?_ (Ext.refl _) rfl
      simp [execOp, Act.eval, h64, h65, go_sem]
    | 52, ho =>
      have h66 : tmps[66]?.getD undef = .bool true := hty 51 66 rfl (by obtain rfl := (Option.some.inj ho); rfl)
      obtain rfl := (Option.some.inj ho)
      clear hty ho
      refine step_pure (.bool true) (wanted_free rfl) ?_ (Ext.refl _) rfl
      simp [execOp, Act.eval, h66, go_sem]
    | (j + 53), ho => exact absurd ho (by simp)

  · intro tmps w5 hle hs hfr hty
    have h6 : tmps[6]?.getD undef = .bool true := hty 52 6 rfl
    have hfe := frame_eq [15, 16, 17, 18, 19, 20, 21, 22, 23, 24, 25, 26, 27, 28, 29, 30, 31, 32, 33, 34, 35, 36, 37, 38, 39, 40, 41, 42, 43, 44, 45, 46, 47, 48, 49, 50, 51, 52, 53, 54, 55, 56, 57, 58, 59, 60, 61, 62, 63, 64, 65, 66, 6] hs hfr (by kernel_rfl)
    rw [hfe]
    clear hfe hfr hs hty
    simp only [List.foldl_cons, List.foldl_nil]
    generalize tmps[15]?.getD undef = x15
    generalize tmps[16]?.getD undef = x16
    generalize tmps[17]?.getD undef = x17
    generalize tmps[18]?.getD undef = x18
    generalize tmps[19]?.getD undef = x19
    generalize tmps[20]?.getD undef = x20
    generalize tmps[21]?.getD undef = x21
    generalize tmps[22]?.getD undef = x22
    generalize tmps[23]?.getD undef = x23
    generalize tmps[24]?.getD undef = x24
    generalize tmps[25]?.getD undef = x25
    generalize tmps[26]?.getD undef = x26
    generalize tmps[27]?.getD undef = x27
    generalize tmps[28]?.getD undef = x28
    generalize tmps[29]?.getD undef = x29
    generalize tmps[30]?.getD undef = x30
    generalize tmps[31]?.getD undef = x31
    generalize tmps[32]?.getD undef = x32
    generalize tmps[33]?.getD undef = x33
    generalize tmps[34]?.getD undef = x34
    generalize tmps[35]?.getD undef = x35
    generalize tmps[36]?.getD undef = x36
    generalize tmps[37]?.getD undef = x37
    generalize tmps[38]?.getD undef = x38
    generalize tmps[39]?.getD undef = x39
    generalize tmps[40]?.getD undef = x40
    generalize tmps[41]?.getD undef = x41
    generalize tmps[42]?.getD undef = x42
    generalize tmps[43]?.getD undef = x43
    generalize tmps[44]?.getD undef = x44
    generalize tmps[45]?.getD undef = x45
    generalize tmps[46]?.getD undef = x46
    generalize tmps[47]?.getD undef = x47
    generalize tmps[48]?.getD undef = x48
    generalize tmps[49]?.getD undef = x49
    generalize tmps[50]?.getD undef = x50
    generalize tmps[51]?.getD undef = x51
    generalize tmps[52]?.getD undef = x52
    generalize tmps[53]?.getD undef = x53
    generalize tmps[54]?.getD undef = x54
    generalize tmps[55]?.getD undef = x55
    generalize tmps[56]?.getD undef = x56
    generalize tmps[57]?.getD undef = x57
    generalize tmps[58]?.getD undef = x58
    generalize tmps[59]?.getD undef = x59
    generalize tmps[60]?.getD undef = x60
    generalize tmps[61]?.getD undef = x61
    generalize tmps[62]?.getD undef = x62
    generalize tmps[63]?.getD undef = x63
    generalize tmps[64]?.getD undef = x64
    generalize tmps[65]?.getD undef = x65
    generalize tmps[66]?.getD undef = x66
    rw [h6]
    clear h6
    simp only [List.setIfInBounds_toArray, List.set_cons_succ, List.set_cons_zero]
    have HX5 := hid (HX.out.trans hle)
    clear hle
    go_wp2_with fail
    go_ret
    exact ⟨rfl, HX5.out⟩

theorem zlays_any (A : Option Addr) (l : List UInt8) (c : Nat) (u n : Int) (w : World) (hl : Lies w A (bvs l)) (hlc : l.length ≤ c) (hcm : c ≤ maxLen)
    (hu0 : 0 ≤ u) (hu1 : u ≤ 18446744073709551615) (hn0 : -9223372036854775808 ≤ n) (hn1 : n ≤ 9223372036854775807) :
    Calls Try.prog 3 #[.slice A l.length c, .int .u64 u, .int .i64 n] w (Says w (.bool true)) := by
  obtain ⟨u, rfl⟩ := Int.eq_ofNat_of_zero_le hu0
  by_cases h : 100 < l.length
  · exact zlays_out A l c u n w (Nat.le_trans hlc hcm) h
  · exact zlays_in A l c u n w hl hlc hcm (by omega) (by omega) hn0 hn1
end Go.Proofs.Ytldepfojgmhehaa
