/- ValueChecks: the walk. -/
import Derived.Test.YtkblpbpmaoofgaaVSmall
namespace Go.Proofs.Ytkblpbpmaoofgaa
open Go Go.RowKit

/-- what the slots of the region hold -/
def vchecksG (k : Nat) (n : Int) (b : Nat) (t : ByteArray) (l : Nat) (m : Int) (c : Nat) (u : ByteArray) (r2 r7 r8 r10 : Value) (E R E2 : Int) (P B : List UInt8) : Nat → Value → World → Prop
  | 0, v, _ => v = vv k n b t
  | 1, v, _ => v = .int .i64 E
  | 2, v, _ => v = vv k n b t
  | 3, v, _ => v = .int .i64 E
  | 4, v, _ => v = .bool true
  | 5, v, _ => v = .bool true
  | 6, v, _ => v = vv k n b t
  | 7, v, _ => v = vv l m c u
  | 8, v, _ => v = .int .i64 R
  | 9, v, _ => v = vv k n b t
  | 10, v, _ => v = vv l m c u
  | 11, v, _ => v = .int .i64 R
  | 12, v, _ => v = .bool true
  | 13, v, _ => v = .bool true
  | 14, v, _ => v = .bool true
  | 15, v, _ => v = r8
  | 16, v, _ => v = .string ⟨(P).toArray⟩
  | 17, v, _ => v = r10
  | 18, v, _ => v = .string ⟨(P).toArray⟩
  | 19, v, _ => v = .bool true
  | 20, v, _ => v = .bool true
  | 21, v, _ => v = .bool true
  | 22, v, _ => v = .int .i64 E2
  | 23, v, _ => v = .int .i64 E2
  | 24, v, _ => v = .bool true
  | 25, v, _ => v = .bool true
  | 26, v, _ => v = .bool true
  | 27, v, _ => v = r7
  | 28, v, _ => v = .string ⟨(B).toArray⟩
  | 29, v, _ => v = r2
  | 30, v, _ => v = .string ⟨(B).toArray⟩
  | 31, v, _ => v = .bool true
  | 32, v, _ => v = .bool true
  | 33, v, _ => v = .bool true
  | 34, v, _ => v = .bool true
  | 35, v, _ => v = .bool true
  | 36, v, _ => v = .bool true
  | _, _, _ => True
theorem vchecksG_st (k : Nat) (n : Int) (b : Nat) (t : ByteArray) (l : Nat) (m : Int) (c : Nat) (u : ByteArray) (r2 r7 r8 r10 : Value) (E R E2 : Int) (P B : List UInt8) : ∀ i9 z9 x9 y9, vchecksG k n b t l m c u r2 r7 r8 r10 E R E2 P B i9 z9 x9 → Ext x9 y9 → vchecksG k n b t l m c u r2 r7 r8 r10 E R E2 P B i9 z9 y9 := by
  intro i9 z9 x9 y9 h e
  unfold vchecksG at *
  split at h <;> first | exact h | exact Bytes.ext h e
set_option maxRecDepth 100000 in
set_option maxHeartbeats 4000000 in
theorem vchecks_any (k : Nat) (n : Int) (b : Nat) (t : ByteArray) (l : Nat) (m : Int) (c : Nat) (u : ByteArray) (A : Option Addr) (B : List UInt8) (cc : Nat) (w : World) (hl : Lies w A (bvs B)) (hlc : B.length ≤ cc) (hcm : cc ≤ maxLen)
    (hk : k ≤ 255) (hkl : l ≤ 255) (hn0 : -9223372036854775808 ≤ n) (hn1 : n ≤ 9223372036854775807) (hm0 : -9223372036854775808 ≤ m) (hm1 : m ≤ 9223372036854775807) (hb : b ≤ 18446744073709551615) (hc : c ≤ 18446744073709551615) (ht : t.size ≤ 9223372036854775807) (hu : u.size ≤ 9223372036854775807) :
    Calls Try.prog 3 #[.agg #[.int .u8 (k : Int), .int .i64 n, .int .u64 (b : Int), .string t], .agg #[.int .u8 (l : Int), .int .i64 m, .int .u64 (c : Int), .string u], .slice A B.length cc] w (Says w (.bool true)) := by
  have s1 := fun W => small_any k n b t W ht
  have s2 := fun W => small_any l m c u W hu
  have HL := hid hl
  clear hl
  go_enter Try.func3, Try.ntmps3
  go_wp2_with fail
  refine (s1 _).mono ?_
  rintro e w1 ⟨rfl, hx⟩
  have HV := hid (hx.block (heap_alloc2_old w _ _))
  have HW := hid (hx.block (heap_alloc2_new w _ _))
  have HX := hid (((Ext.alloc w _).then_alloc _).trans hx)
  clear hx
  obtain ⟨⟨a0, a1, a2, a3⟩, _, _⟩ := box4 HV.out
  obtain ⟨⟨b0, b1, b2, b3⟩, _, _⟩ := box4 HW.out
  by_cases h1 : 100 < t.size
  · have h1' : 0 < max 0 ((t.size : Int) - 100) := by omega
    generalize max 0 ((t.size : Int) - 100) = S1 at *
    go_wp2_with fail
    refine (awake_any _).mono ?_
    rintro e w4 ⟨rfl, hx⟩
    go_wp2_with fail
    go_ret
    exact ⟨rfl, HX.out.trans hx⟩
  · have h1' : max 0 ((t.size : Int) - 100) = 0 := by omega
    rw [h1'] at *
    go_wp2_with fail
    refine (s2 _).mono ?_
    rintro e w2 ⟨rfl, hx⟩
    replace HV := hid (hx.block HV.out)
    replace HW := hid (hx.block HW.out)
    replace HX := hid (HX.out.trans hx)
    clear hx a0 a1 a2 a3 b0 b1 b2 b3
    obtain ⟨⟨a0, a1, a2, a3⟩, _, _⟩ := box4 HV.out
    obtain ⟨⟨b0, b1, b2, b3⟩, _, _⟩ := box4 HW.out
    by_cases h2 : 100 < u.size
    · have h2' : 0 < max 0 ((u.size : Int) - 100) := by omega
      generalize max 0 ((u.size : Int) - 100) = S2 at *
      go_wp2_with fail
      refine (awake_any _).mono ?_
      rintro e w4 ⟨rfl, hx⟩
      go_wp2_with fail
      go_ret
      exact ⟨rfl, HX.out.trans hx⟩
    · have h2' : max 0 ((u.size : Int) - 100) = 0 := by omega
      rw [h2'] at *
      by_cases h3 : 100 < B.length
      · have h3' : (100 : Int) < (B.length : Int) := by omega
        go_wp2_with fail
        refine (awake_any _).mono ?_
        rintro e w4 ⟨rfl, hx⟩
        go_wp2_with fail
        go_ret
        exact ⟨rfl, HX.out.trans hx⟩
      · have h3' : (B.length : Int) ≤ 100 := by omega
        clear h1 h2 h3 h1' h2' s1 s2
        have h3l : B.length ≤ 100 := by omega
        clear a0 a1 a2 a3 b0 b1 b2 b3
        go_wp2_with ((with_reducible show wpList _ _ _ (⟨some 28, _, _, _, _, _⟩ :: _) _ _); (refine wpList_append_lies _ rfl (.tmp 26) (.tmp 27) _ rfl w2.heap.size 5 (.int .u8 0) 1 1 Try.underlying25 infoByte rfl (by omega) _ 0 _ rfl (own_build w2 w2.heap.size 5 1 0 _ (Nat.le_refl _) (by simp [maxLen]) rfl) A B.length cc (bvs B) rfl (by simp [bvs_length]) (HL.out.ext (HX.out.trans (Ext.alloc _ _))) (bvs_one _) (by simp only [maxLen]; omega) (by omega) (by simp) (fun r7 w3 ho1 hg1 hb1 => ?_)); have H7 := hid (Bytes.of_own (l := B) ho1); have HX3 := hid (lit_ext hg1); clear ho1 hg1 hb1; obtain ⟨⟨a0, a1, a2, a3⟩, _, _⟩ := box4 (HX3.out.block HV.out); obtain ⟨⟨b0, b1, b2, b3⟩, _, _⟩ := box4 (HX3.out.block HW.out))
        obtain ⟨q, hq⟩ : ∃ q, putV B k n b t = q := ⟨_, rfl⟩
        obtain ⟨P, E2⟩ := q
        have hr2 : Bytes w3 (.slice A B.length cc) B := ⟨A, cc, rfl, hlc, hcm, HL.out.ext (HX.out.trans HX3.out)⟩
        have H2 := hid hr2
        obtain ⟨r2, hr2e⟩ : ∃ r2, r2 = Value.slice A B.length cc := ⟨_, rfl⟩
        rw [← hr2e] at H2 ⊢
        clear hr2
        have kp : ∀ W, Bytes W r7 B → Calls Try.prog 10 #[r7, .agg #[.int .u8 (k : Int), .int .i64 n, .int .u64 (b : Int), .string t]] W (fun e w' => ∃ r, e = .returned (.tuple #[r, .int .i64 E2]) ∧ Bytes w' r P ∧ Ext W w') := fun W hbb =>
          (vput_at r7 B k n b t _ hq W hbb (by omega) hk hn0 hn1 hb ht).mono fun e w' ⟨r, h1, h2, h3⟩ => ⟨r, h1, Bytes.of_own h2, h3⟩
        have kr : ∀ W, Lies W A (bvs B) → Calls Try.prog 11 #[r2, .agg #[.int .u8 (k : Int), .int .i64 n, .int .u64 (b : Int), .string t]] W (fun e w' => ∃ r, e = .returned (.tuple #[r, .int .i64 E2]) ∧ Bytes w' r P ∧ Ext W w') := fun W hbb => by
          have h := rputv_any A B cc k n b t W hbb (by omega) hn0 hn1 hb
          rw [hq, ← hr2e] at h
          exact h.mono fun e w' ⟨r, h1, h2, h3⟩ => ⟨r, h1, Bytes.of_own h2, h3⟩
        obtain ⟨E, hE⟩ : ∃ E, checkV k n b t = E := ⟨_, rfl⟩
        obtain ⟨R, hR⟩ : ∃ R, rankV k n b t l m c u = R := ⟨_, rfl⟩
        have HE := hid hE
        have HR := hid hR
        clear hE hR hq hr2e
        refine (kp _ H7.out).mono ?_
        rintro e w4 ⟨r8, rfl, ho, hx⟩
        have H8 := hid ho
        have HX4 := hid (HX3.out.trans hx)
        replace H7 := hid (H7.out.ext hx)
        replace H2 := hid (H2.out.ext hx)
        clear ho hx kp a0 a1 a2 a3 b0 b1 b2 b3
        obtain ⟨⟨a0, a1, a2, a3⟩, _, _⟩ := box4 (HX4.out.block HV.out)
        obtain ⟨⟨b0, b1, b2, b3⟩, _, _⟩ := box4 (HX4.out.block HW.out)
        go_wp2_with fail
        refine (kr _ (HL.out.ext (HX.out.trans HX4.out))).mono ?_
        rintro e w5 ⟨r10, rfl, ho, hx⟩
        have H10 := hid ho
        replace HX4 := hid (HX4.out.trans hx)
        replace H7 := hid (H7.out.ext hx)
        replace H2 := hid (H2.out.ext hx)
        replace H8 := hid (H8.out.ext hx)
        replace HV := hid (HX4.out.block HV.out)
        replace HW := hid (HX4.out.block HW.out)
        replace HX := hid (HX.out.trans HX4.out)
        clear ho hx kr a0 a1 a2 a3 b0 b1 b2 b3 HX3 HX4
        go_wp2_with fail
        refine wp_region_slots Ext (vchecksG k n b t l m c u r2 r7 r8 r10 E R E2 P B) (by kernel_rfl) Ext.trans Ext.refl (Ext.drew _) (vchecksG_st _ _ _ _ _ _ _ _ _ _ _ _ _ _ _ _ _) (by kernel_rfl) ?_ ?_
        · intro tmps wr hle hfr j o ho hty
          have h2 : tmps[2]?.getD undef = r2 := hfr 2 (by kernel_rfl)
          have h3 : tmps[3]?.getD undef = .pointer (some ⟨w.heap.size, 0, none⟩) := hfr 3 (by kernel_rfl)
          have h4 : tmps[4]?.getD undef = .pointer (some ⟨w.heap.size + 1, 0, none⟩) := hfr 4 (by kernel_rfl)
          have h7 : tmps[7]?.getD undef = r7 := hfr 7 (by kernel_rfl)
          have h8 : tmps[8]?.getD undef = r8 := hfr 8 (by kernel_rfl)
          have h9 : tmps[9]?.getD undef = .int .i64 E2 := hfr 9 (by kernel_rfl)
          have h10 : tmps[10]?.getD undef = r10 := hfr 10 (by kernel_rfl)
          have h11 : tmps[11]?.getD undef = .int .i64 E2 := hfr 11 (by kernel_rfl)
          obtain ⟨⟨a0, a1, a2, a3⟩, _, _⟩ := box4 (hle.block HV.out)
          obtain ⟨⟨b0, b1, b2, b3⟩, _, _⟩ := box4 (hle.block HW.out)
          clear hfr
          match j, ho with
          | 0, ho =>
            obtain rfl := (Option.some.inj ho)
            clear hty ho
            refine step_pure (vv k n b t) (wanted_free rfl) ?_ (Ext.refl _) rfl
            simp [execOp, Act.eval, h3, a0, a1, a2, a3, vv, go_sem]
          | 1, ho =>
            have h41 : tmps[41]?.getD undef = vv k n b t := hty 0 41 rfl (by obtain rfl := (Option.some.inj ho); rfl)
            obtain rfl := (Option.some.inj ho)
            clear hty ho
            refine step_call 12 #[vv k n b t] (wanted_free rfl) ?_ ?_
            · simp [execOp, Act.eval, h41, go_sem]
            · exact (vcheck_any k n b t _ hk hn0 hn1 hb ht).mono fun e w' ⟨h1, h2⟩ => ⟨_, h1, h2, by rw [HE.out]; rfl⟩
          | 2, ho =>
            obtain rfl := (Option.some.inj ho)
            clear hty ho
            refine step_pure (vv k n b t) (wanted_free rfl) ?_ (Ext.refl _) rfl
            simp [execOp, Act.eval, h3, a0, a1, a2, a3, vv, go_sem]
          | 3, ho =>
            have h43 : tmps[43]?.getD undef = vv k n b t := hty 2 43 rfl (by obtain rfl := (Option.some.inj ho); rfl)
            obtain rfl := (Option.some.inj ho)
            clear hty ho
            refine step_call 13 #[vv k n b t] (wanted_free rfl) ?_ ?_
            · simp [execOp, Act.eval, h43, go_sem]
            · exact (rcheck_any k n b t _ hb).mono fun e w' ⟨h1, h2⟩ => ⟨_, h1, h2, by rw [HE.out]; rfl⟩
          | 4, ho =>
            have h42 : tmps[42]?.getD undef = .int .i64 E := hty 1 42 rfl (by obtain rfl := (Option.some.inj ho); rfl)
            have h44 : tmps[44]?.getD undef = .int .i64 E := hty 3 44 rfl (by obtain rfl := (Option.some.inj ho); rfl)
            obtain rfl := (Option.some.inj ho)
            clear hty ho
            refine step_pure (.bool true) (wanted_free rfl) ?_ (Ext.refl _) rfl
            simp [execOp, Act.eval, h42, h44, go_sem]
          | 5, ho =>
            have h45 : tmps[45]?.getD undef = .bool true := hty 4 45 rfl (by obtain rfl := (Option.some.inj ho); rfl)
            obtain rfl := (Option.some.inj ho)
            clear hty ho
            refine step_pure (.bool true) (wanted_free rfl) ?_ (Ext.refl _) rfl
            simp [execOp, Act.eval, h45, go_sem]
          | 6, ho =>
            have h46 : tmps[46]?.getD undef = .bool true := hty 5 46 rfl (by obtain rfl := (Option.some.inj ho); rfl)
            obtain rfl := (Option.some.inj ho)
            clear hty ho
            refine step_pure (vv k n b t) (wanted_guard rfl rfl h46) ?_ (Ext.refl _) rfl
            simp [execOp, Act.eval, h3, a0, a1, a2, a3, vv, go_sem]
          | 7, ho =>
            have h46 : tmps[46]?.getD undef = .bool true := hty 5 46 rfl (by obtain rfl := (Option.some.inj ho); rfl)
            obtain rfl := (Option.some.inj ho)
            clear hty ho
            refine step_pure (vv l m c u) (wanted_guard rfl rfl h46) ?_ (Ext.refl _) rfl
            simp [execOp, Act.eval, h4, b0, b1, b2, b3, vv, go_sem]
          | 8, ho =>
            have h47 : tmps[47]?.getD undef = vv k n b t := hty 6 47 rfl (by obtain rfl := (Option.some.inj ho); rfl)
            have h48 : tmps[48]?.getD undef = vv l m c u := hty 7 48 rfl (by obtain rfl := (Option.some.inj ho); rfl)
            have h46 : tmps[46]?.getD undef = .bool true := hty 5 46 rfl (by obtain rfl := (Option.some.inj ho); rfl)
            obtain rfl := (Option.some.inj ho)
            clear hty ho
            refine step_call 14 #[vv k n b t, vv l m c u] (wanted_guard rfl rfl h46) ?_ ?_
            · simp [execOp, Act.eval, h47, h48, go_sem]
            · exact (vrank_any k n b t l m c u _ hk hkl hn0 hn1 hm0 hm1 hb hc ht hu).mono fun e w' ⟨h1, h2⟩ => ⟨_, h1, h2, by rw [HR.out]; rfl⟩
          | 9, ho =>
            have h46 : tmps[46]?.getD undef = .bool true := hty 5 46 rfl (by obtain rfl := (Option.some.inj ho); rfl)
            obtain rfl := (Option.some.inj ho)
            clear hty ho
            refine step_pure (vv k n b t) (wanted_guard rfl rfl h46) ?_ (Ext.refl _) rfl
            simp [execOp, Act.eval, h3, a0, a1, a2, a3, vv, go_sem]
          | 10, ho =>
            have h46 : tmps[46]?.getD undef = .bool true := hty 5 46 rfl (by obtain rfl := (Option.some.inj ho); rfl)
            obtain rfl := (Option.some.inj ho)
            clear hty ho
            refine step_pure (vv l m c u) (wanted_guard rfl rfl h46) ?_ (Ext.refl _) rfl
            simp [execOp, Act.eval, h4, b0, b1, b2, b3, vv, go_sem]
          | 11, ho =>
            have h50 : tmps[50]?.getD undef = vv k n b t := hty 9 50 rfl (by obtain rfl := (Option.some.inj ho); rfl)
            have h51 : tmps[51]?.getD undef = vv l m c u := hty 10 51 rfl (by obtain rfl := (Option.some.inj ho); rfl)
            have h46 : tmps[46]?.getD undef = .bool true := hty 5 46 rfl (by obtain rfl := (Option.some.inj ho); rfl)
            obtain rfl := (Option.some.inj ho)
            clear hty ho
            refine step_call 15 #[vv k n b t, vv l m c u] (wanted_guard rfl rfl h46) ?_ ?_
            · simp [execOp, Act.eval, h50, h51, go_sem]
            · exact (rrankv_any k n b t l m c u _ hb hc).mono fun e w' ⟨h1, h2⟩ => ⟨_, h1, h2, by rw [HR.out]; rfl⟩
          | 12, ho =>
            have h49 : tmps[49]?.getD undef = .int .i64 R := hty 8 49 rfl (by obtain rfl := (Option.some.inj ho); rfl)
            have h52 : tmps[52]?.getD undef = .int .i64 R := hty 11 52 rfl (by obtain rfl := (Option.some.inj ho); rfl)
            have h46 : tmps[46]?.getD undef = .bool true := hty 5 46 rfl (by obtain rfl := (Option.some.inj ho); rfl)
            obtain rfl := (Option.some.inj ho)
            clear hty ho
            refine step_pure (.bool true) (wanted_guard rfl rfl h46) ?_ (Ext.refl _) rfl
            simp [execOp, Act.eval, h49, h52, go_sem]
          | 13, ho =>
            have h46 : tmps[46]?.getD undef = .bool true := hty 5 46 rfl (by obtain rfl := (Option.some.inj ho); rfl)
            have h53 : tmps[53]?.getD undef = .bool true := hty 12 53 rfl (by obtain rfl := (Option.some.inj ho); rfl)
            obtain rfl := (Option.some.inj ho)
            clear hty ho
            refine step_pure (.bool true) (wanted_free rfl) ?_ (Ext.refl _) rfl
            simp [execOp, Act.eval, h46, h53, go_sem]
          | 14, ho =>
            have h54 : tmps[54]?.getD undef = .bool true := hty 13 54 rfl (by obtain rfl := (Option.some.inj ho); rfl)
            obtain rfl := (Option.some.inj ho)
            clear hty ho
            refine step_pure (.bool true) (wanted_free rfl) ?_ (Ext.refl _) rfl
            simp [execOp, Act.eval, h54, go_sem]
          | 15, ho =>
            have h55 : tmps[55]?.getD undef = .bool true := hty 14 55 rfl (by obtain rfl := (Option.some.inj ho); rfl)
            obtain rfl := (Option.some.inj ho)
            clear hty ho
            refine step_pure (r8) (wanted_guard rfl rfl h55) ?_ (Ext.refl _) rfl
            simp [execOp, Act.eval, h8, go_sem]
          | 16, ho =>
            have h56 : tmps[56]?.getD undef = r8 := hty 15 56 rfl (by obtain rfl := (Option.some.inj ho); rfl)
            have h55 : tmps[55]?.getD undef = .bool true := hty 14 55 rfl (by obtain rfl := (Option.some.inj ho); rfl)
            obtain rfl := (Option.some.inj ho)
            clear hty ho
            refine step_pure (.string ⟨(P).toArray⟩) (wanted_guard rfl rfl h55) ?_ (Ext.refl _) rfl
            have hcv := run_string_bytes Try.underlying25 Try.underlying5 Try.underlying9 (H8.out.ext hle)
            simp [execOp, Act.eval, h56, hcv, go_sem]
          | 17, ho =>
            have h55 : tmps[55]?.getD undef = .bool true := hty 14 55 rfl (by obtain rfl := (Option.some.inj ho); rfl)
            obtain rfl := (Option.some.inj ho)
            clear hty ho
            refine step_pure (r10) (wanted_guard rfl rfl h55) ?_ (Ext.refl _) rfl
            simp [execOp, Act.eval, h10, go_sem]
          | 18, ho =>
            have h58 : tmps[58]?.getD undef = r10 := hty 17 58 rfl (by obtain rfl := (Option.some.inj ho); rfl)
            have h55 : tmps[55]?.getD undef = .bool true := hty 14 55 rfl (by obtain rfl := (Option.some.inj ho); rfl)
            obtain rfl := (Option.some.inj ho)
            clear hty ho
            refine step_pure (.string ⟨(P).toArray⟩) (wanted_guard rfl rfl h55) ?_ (Ext.refl _) rfl
            have hcv := run_string_bytes Try.underlying25 Try.underlying5 Try.underlying9 (H10.out.ext hle)
            simp [execOp, Act.eval, h58, hcv, go_sem]
          | 19, ho =>
            have h57 : tmps[57]?.getD undef = .string ⟨(P).toArray⟩ := hty 16 57 rfl (by obtain rfl := (Option.some.inj ho); rfl)
            have h59 : tmps[59]?.getD undef = .string ⟨(P).toArray⟩ := hty 18 59 rfl (by obtain rfl := (Option.some.inj ho); rfl)
            have h55 : tmps[55]?.getD undef = .bool true := hty 14 55 rfl (by obtain rfl := (Option.some.inj ho); rfl)
            obtain rfl := (Option.some.inj ho)
            clear hty ho
            refine step_pure (.bool true) (wanted_guard rfl rfl h55) ?_ (Ext.refl _) rfl
            simp [execOp, Act.eval, h57, h59, go_sem]
          | 20, ho =>
            have h55 : tmps[55]?.getD undef = .bool true := hty 14 55 rfl (by obtain rfl := (Option.some.inj ho); rfl)
            have h60 : tmps[60]?.getD undef = .bool true := hty 19 60 rfl (by obtain rfl := (Option.some.inj ho); rfl)
            obtain rfl := (Option.some.inj ho)
            clear hty ho
            refine step_pure (.bool true) (wanted_free rfl) ?_ (Ext.refl _) rfl
            simp [execOp, Act.eval, h55, h60, go_sem]
          | 21, ho =>
            have h61 : tmps[61]?.getD undef = .bool true := hty 20 61 rfl (by obtain rfl := (Option.some.inj ho); rfl)
            obtain rfl := (Option.some.inj ho)
            clear hty ho
            refine step_pure (.bool true) (wanted_free rfl) ?_ (Ext.refl _) rfl
            simp [execOp, Act.eval, h61, go_sem]
          | 22, ho =>
            have h62 : tmps[62]?.getD undef = .bool true := hty 21 62 rfl (by obtain rfl := (Option.some.inj ho); rfl)
            obtain rfl := (Option.some.inj ho)
            clear hty ho
            refine step_pure (.int .i64 E2) (wanted_guard rfl rfl h62) ?_ (Ext.refl _) rfl
            simp [execOp, Act.eval, h9, go_sem]
          | 23, ho =>
            have h62 : tmps[62]?.getD undef = .bool true := hty 21 62 rfl (by obtain rfl := (Option.some.inj ho); rfl)
            obtain rfl := (Option.some.inj ho)
            clear hty ho
            refine step_pure (.int .i64 E2) (wanted_guard rfl rfl h62) ?_ (Ext.refl _) rfl
            simp [execOp, Act.eval, h11, go_sem]
          | 24, ho =>
            have h63 : tmps[63]?.getD undef = .int .i64 E2 := hty 22 63 rfl (by obtain rfl := (Option.some.inj ho); rfl)
            have h64 : tmps[64]?.getD undef = .int .i64 E2 := hty 23 64 rfl (by obtain rfl := (Option.some.inj ho); rfl)
            have h62 : tmps[62]?.getD undef = .bool true := hty 21 62 rfl (by obtain rfl := (Option.some.inj ho); rfl)
            obtain rfl := (Option.some.inj ho)
            clear hty ho
            refine step_pure (.bool true) (wanted_guard rfl rfl h62) ?_ (Ext.refl _) rfl
            simp [execOp, Act.eval, h63, h64, go_sem]
          | 25, ho =>
            have h62 : tmps[62]?.getD undef = .bool true := hty 21 62 rfl (by obtain rfl := (Option.some.inj ho); rfl)
            have h65 : tmps[65]?.getD undef = .bool true := hty 24 65 rfl (by obtain rfl := (Option.some.inj ho); rfl)
            obtain rfl := (Option.some.inj ho)
            clear hty ho
            refine step_pure (.bool true) (wanted_free rfl) ?_ (Ext.refl _) rfl
            simp [execOp, Act.eval, h62, h65, go_sem]
          | 26, ho =>
            have h66 : tmps[66]?.getD undef = .bool true := hty 25 66 rfl (by obtain rfl := (Option.some.inj ho); rfl)
            obtain rfl := (Option.some.inj ho)
            clear hty ho
            refine step_pure (.bool true) (wanted_free rfl) ?_ (Ext.refl _) rfl
            simp [execOp, Act.eval, h66, go_sem]
          | 27, ho =>
            have h67 : tmps[67]?.getD undef = .bool true := hty 26 67 rfl (by obtain rfl := (Option.some.inj ho); rfl)
            obtain rfl := (Option.some.inj ho)
            clear hty ho
            refine step_pure (r7) (wanted_guard rfl rfl h67) ?_ (Ext.refl _) rfl
            simp [execOp, Act.eval, h7, go_sem]
          | 28, ho =>
            have h68 : tmps[68]?.getD undef = r7 := hty 27 68 rfl (by obtain rfl := (Option.some.inj ho); rfl)
            have h67 : tmps[67]?.getD undef = .bool true := hty 26 67 rfl (by obtain rfl := (Option.some.inj ho); rfl)
            obtain rfl := (Option.some.inj ho)
            clear hty ho
            refine step_pure (.string ⟨(B).toArray⟩) (wanted_guard rfl rfl h67) ?_ (Ext.refl _) rfl
            have hcv := run_string_bytes Try.underlying25 Try.underlying5 Try.underlying9 (H7.out.ext hle)
            simp [execOp, Act.eval, h68, hcv, go_sem]
          | 29, ho =>
            have h67 : tmps[67]?.getD undef = .bool true := hty 26 67 rfl (by obtain rfl := (Option.some.inj ho); rfl)
            obtain rfl := (Option.some.inj ho)
            clear hty ho
            refine step_pure (r2) (wanted_guard rfl rfl h67) ?_ (Ext.refl _) rfl
            simp [execOp, Act.eval, h2, go_sem]
          | 30, ho =>
            have h70 : tmps[70]?.getD undef = r2 := hty 29 70 rfl (by obtain rfl := (Option.some.inj ho); rfl)
            have h67 : tmps[67]?.getD undef = .bool true := hty 26 67 rfl (by obtain rfl := (Option.some.inj ho); rfl)
            obtain rfl := (Option.some.inj ho)
            clear hty ho
            refine step_pure (.string ⟨(B).toArray⟩) (wanted_guard rfl rfl h67) ?_ (Ext.refl _) rfl
            have hcv := run_string_bytes Try.underlying25 Try.underlying5 Try.underlying9 (H2.out.ext hle)
            simp [execOp, Act.eval, h70, hcv, go_sem]
          | 31, ho =>
            have h69 : tmps[69]?.getD undef = .string ⟨(B).toArray⟩ := hty 28 69 rfl (by obtain rfl := (Option.some.inj ho); rfl)
            have h71 : tmps[71]?.getD undef = .string ⟨(B).toArray⟩ := hty 30 71 rfl (by obtain rfl := (Option.some.inj ho); rfl)
            have h67 : tmps[67]?.getD undef = .bool true := hty 26 67 rfl (by obtain rfl := (Option.some.inj ho); rfl)
            obtain rfl := (Option.some.inj ho)
            clear hty ho
            refine step_pure (.bool true) (wanted_guard rfl rfl h67) ?_ (Ext.refl _) rfl
            simp [execOp, Act.eval, h69, h71, go_sem]
          | 32, ho =>
            have h67 : tmps[67]?.getD undef = .bool true := hty 26 67 rfl (by obtain rfl := (Option.some.inj ho); rfl)
            have h72 : tmps[72]?.getD undef = .bool true := hty 31 72 rfl (by obtain rfl := (Option.some.inj ho); rfl)
            obtain rfl := (Option.some.inj ho)
            clear hty ho
            refine step_pure (.bool true) (wanted_free rfl) ?_ (Ext.refl _) rfl
            simp [execOp, Act.eval, h67, h72, go_sem]
          | 33, ho =>
            have h73 : tmps[73]?.getD undef = .bool true := hty 32 73 rfl (by obtain rfl := (Option.some.inj ho); rfl)
            obtain rfl := (Option.some.inj ho)
            clear hty ho
            refine step_pure (.bool true) (wanted_free rfl) ?_ (Ext.refl _) rfl
            simp [execOp, Act.eval, h73, go_sem]
          | 34, ho =>
            have h74 : tmps[74]?.getD undef = .bool true := hty 33 74 rfl (by obtain rfl := (Option.some.inj ho); rfl)
            obtain rfl := (Option.some.inj ho)
            clear hty ho
            refine step_call 9 #[] (wanted_guard rfl rfl h74) ?_ ?_
            · simp [execOp, Act.eval, go_sem]
            · exact (awake_any _).mono fun e w' ⟨h1, h2⟩ => ⟨_, h1, h2, rfl⟩
          | 35, ho =>
            have h74 : tmps[74]?.getD undef = .bool true := hty 33 74 rfl (by obtain rfl := (Option.some.inj ho); rfl)
            have h75 : tmps[75]?.getD undef = .bool true := hty 34 75 rfl (by obtain rfl := (Option.some.inj ho); rfl)
            obtain rfl := (Option.some.inj ho)
            clear hty ho
            refine step_pure (.bool true) (wanted_free rfl) ?_ (Ext.refl _) rfl
            simp [execOp, Act.eval, h74, h75, go_sem]
          | 36, ho =>
            have h76 : tmps[76]?.getD undef = .bool true := hty 35 76 rfl (by obtain rfl := (Option.some.inj ho); rfl)
            obtain rfl := (Option.some.inj ho)
            clear hty ho
            refine step_pure (.bool true) (wanted_free rfl) ?_ (Ext.refl _) rfl
            simp [execOp, Act.eval, h76, go_sem]
          | (j + 37), ho => exact absurd ho (by simp)

        · intro tmps w6 hle hs5 hfr hty
          have h6 : tmps[6]?.getD undef = .bool true := hty 36 6 rfl
          have hfe := frame_eq [41, 42, 43, 44, 45, 46, 47, 48, 49, 50, 51, 52, 53, 54, 55, 56, 57, 58, 59, 60, 61, 62, 63, 64, 65, 66, 67, 68, 69, 70, 71, 72, 73, 74, 75, 76, 6] hs5 hfr (by kernel_rfl)
          rw [hfe]
          clear hfe hfr hs5 hty
          simp only [List.foldl_cons, List.foldl_nil]
          generalize tmps[41]?.getD undef = x41
          generalize tmps[42]?.getD undef = x42
          generalize tmps[43]?.getD undef = x43
          generalize tmps[44]?.getD undef = x44
          generalize tmps[45]?.getD undef = x45
          generalize tmps[46]?.getD undef = x46
          generalize tmps[47]?.getD undef = x47
          generalize tmps[48]?.getD undef = x48
          generalize tmps[49]?.getD undef = x49
          generalize tmps[50]?.getD undef = x50
          generalize tmps[51]?.getD undef = x51
          generalize tmps[52]?.getD undef = x52
          generalize tmps[53]?.getD undef = x53
          generalize tmps[54]?.getD undef = x54
          generalize tmps[55]?.getD undef = x55
          generalize tmps[56]?.getD undef = x56
          generalize tmps[57]?.getD undef = x57
          generalize tmps[58]?.getD undef = x58
          generalize tmps[59]?.getD undef = x59
          generalize tmps[60]?.getD undef = x60
          generalize tmps[61]?.getD undef = x61
          generalize tmps[62]?.getD undef = x62
          generalize tmps[63]?.getD undef = x63
          generalize tmps[64]?.getD undef = x64
          generalize tmps[65]?.getD undef = x65
          generalize tmps[66]?.getD undef = x66
          generalize tmps[67]?.getD undef = x67
          generalize tmps[68]?.getD undef = x68
          generalize tmps[69]?.getD undef = x69
          generalize tmps[70]?.getD undef = x70
          generalize tmps[71]?.getD undef = x71
          generalize tmps[72]?.getD undef = x72
          generalize tmps[73]?.getD undef = x73
          generalize tmps[74]?.getD undef = x74
          generalize tmps[75]?.getD undef = x75
          generalize tmps[76]?.getD undef = x76
          rw [h6]
          clear h6
          simp only [List.setIfInBounds_toArray, List.set_cons_succ, List.set_cons_zero]
          replace HX := hid (HX.out.trans hle)
          clear hle
          go_wp2_with fail
          go_ret
          exact ⟨rfl, HX.out⟩
end Go.Proofs.Ytkblpbpmaoofgaa
