/- Just one of less, equal, greater holds of two values: the ways, one walk each (part C). Conditions: the reach of a string, numbers within their kinds. -/
import Derived.Test.YtaahaehgdamkdaaCOne
namespace Go.Proofs.Ytaahaehgdamkdaa
open Go Go.RowKit


set_option maxRecDepth 100000 in
set_option maxHeartbeats 4000000 in
theorem cone_less (k : Nat) (n : Int) (b : Nat) (t : ByteArray) (l : Nat) (m : Int) (c : Nat) (u : ByteArray) (w : World) (hk : k ≤ 255) (hl : l ≤ 255) (hn0 : -9223372036854775808 ≤ n) (hn1 : n ≤ 9223372036854775807) (hm0 : -9223372036854775808 ≤ m) (hm1 : m ≤ 9223372036854775807) (hb : b ≤ 18446744073709551615) (hc : c ≤ 18446744073709551615) (ht : t.size ≤ 9223372036854775807) (hu : u.size ≤ 9223372036854775807) (e1 : checkV k n b t = 0) (e2 : checkV l m c u = 0) (h1 : ∀ W, Calls Try.prog 11 #[.int .u8 1, .agg #[.int .u8 (k : Int), .int .i64 n, .int .u64 (b : Int), .string t], .agg #[.int .u8 (l : Int), .int .i64 m, .int .u64 (c : Int), .string u]] W (fun e w' => e = .returned (.bool false) ∧ Ext W w')) (h2 : ∀ W, Calls Try.prog 11 #[.int .u8 2, .agg #[.int .u8 (k : Int), .int .i64 n, .int .u64 (b : Int), .string t], .agg #[.int .u8 (l : Int), .int .i64 m, .int .u64 (c : Int), .string u]] W (fun e w' => e = .returned (.bool true) ∧ Ext W w')) (h3 : ∀ W, Calls Try.prog 11 #[.int .u8 3, .agg #[.int .u8 (k : Int), .int .i64 n, .int .u64 (b : Int), .string t], .agg #[.int .u8 (l : Int), .int .i64 m, .int .u64 (c : Int), .string u]] W (fun e w' => e = .returned (.bool true) ∧ Ext W w')) (h4 : ∀ W, Calls Try.prog 11 #[.int .u8 4, .agg #[.int .u8 (k : Int), .int .i64 n, .int .u64 (b : Int), .string t], .agg #[.int .u8 (l : Int), .int .i64 m, .int .u64 (c : Int), .string u]] W (fun e w' => e = .returned (.bool true) ∧ Ext W w')) (h5 : ∀ W, Calls Try.prog 11 #[.int .u8 5, .agg #[.int .u8 (k : Int), .int .i64 n, .int .u64 (b : Int), .string t], .agg #[.int .u8 (l : Int), .int .i64 m, .int .u64 (c : Int), .string u]] W (fun e w' => e = .returned (.bool false) ∧ Ext W w')) (h6 : ∀ W, Calls Try.prog 11 #[.int .u8 6, .agg #[.int .u8 (k : Int), .int .i64 n, .int .u64 (b : Int), .string t], .agg #[.int .u8 (l : Int), .int .i64 m, .int .u64 (c : Int), .string u]] W (fun e w' => e = .returned (.bool false) ∧ Ext W w')) (r1 : ∀ W, Calls Try.prog 11 #[.int .u8 1, .agg #[.int .u8 (l : Int), .int .i64 m, .int .u64 (c : Int), .string u], .agg #[.int .u8 (k : Int), .int .i64 n, .int .u64 (b : Int), .string t]] W (fun e w' => e = .returned (.bool false) ∧ Ext W w')) (r5 : ∀ W, Calls Try.prog 11 #[.int .u8 5, .agg #[.int .u8 (l : Int), .int .i64 m, .int .u64 (c : Int), .string u], .agg #[.int .u8 (k : Int), .int .i64 n, .int .u64 (b : Int), .string t]] W (fun e w' => e = .returned (.bool true) ∧ Ext W w')) (r6 : ∀ W, Calls Try.prog 11 #[.int .u8 6, .agg #[.int .u8 (l : Int), .int .i64 m, .int .u64 (c : Int), .string u], .agg #[.int .u8 (k : Int), .int .i64 n, .int .u64 (b : Int), .string t]] W (fun e w' => e = .returned (.bool true) ∧ Ext W w')) (hf : ∀ W, Calls Try.prog 21 #[.int .u8 3, .int .u8 (k : Int), .int .u8 (l : Int)] W (fun e w' => e = .returned (.bool true) ∧ Ext W w')) (hkb : kindZ b ≠ 5) (hkc : kindZ c ≠ 5) : Calls Try.prog 6 #[.agg #[.int .u8 (k : Int), .int .i64 n, .int .u64 (b : Int), .string t], .agg #[.int .u8 (l : Int), .int .i64 m, .int .u64 (c : Int), .string u]] w (Says w (.bool true)) := by
  have ck1 : Hid (∀ W, Calls Try.prog 25 #[.agg #[.int .u8 (k : Int), .int .i64 n, .int .u64 (b : Int), .string t]] W (fun e w' => e = .returned (.int .i64 0) ∧ Ext W w')) := fun W => by have h := vcheck_any k n b t W hk hn0 hn1 hb ht; rw [e1] at h; exact h
  have ck2 : Hid (∀ W, Calls Try.prog 25 #[.agg #[.int .u8 (l : Int), .int .i64 m, .int .u64 (c : Int), .string u]] W (fun e w' => e = .returned (.int .i64 0) ∧ Ext W w')) := fun W => by have h := vcheck_any l m c u W hl hm0 hm1 hc hu; rw [e2] at h; exact h
  have K1 := hid h1
  have K2 := hid h2
  have K3 := hid h3
  have K4 := hid h4
  have K5 := hid h5
  have K6 := hid h6
  have R1 := hid r1
  have R5 := hid r5
  have R6 := hid r6
  have KF := hid hf
  have kb : Hid (∀ W, Calls Try.prog 26 #[.int .u64 (b : Int)] W (fun e w' => e = .returned (.int .u8 (kindZ b : Int)) ∧ Ext W w')) := fun W => (kind_just b W hb).mono fun e w' h => ⟨h.1, h.says.2⟩
  have nb : ((kindZ b : Int) == 5) = false := beq_eq_false_iff_ne.2 (by omega)
  have kc : Hid (∀ W, Calls Try.prog 26 #[.int .u64 (c : Int)] W (fun e w' => e = .returned (.int .u8 (kindZ c : Int)) ∧ Ext W w')) := fun W => (kind_just c W hc).mono fun e w' h => ⟨h.1, h.says.2⟩
  have nc : ((kindZ c : Int) == 5) = false := beq_eq_false_iff_ne.2 (by omega)
  clear h1 h2 h3 h4 h5 h6 r1 r5 r6 hf e1 e2 hn0 hn1 hm0 hm1 hk hl hb hc hkb hkc
  have s1 := fun W => small_any k n b t W ht
  have s2 := fun W => small_any l m c u W hu
  go_enter Try.func6, Try.ntmps6
  go_wp2_with fail
  refine (s1 _).mono ?_
  rintro e w1 ⟨rfl, hx⟩
  have HV := hid (hx.block (heap_alloc2_old w _ _))
  have HW := hid (hx.block (heap_alloc2_new w _ _))
  have HX := hid (((Ext.alloc w _).then_alloc _).trans hx)
  clear hx
  obtain ⟨⟨a0, a1, a2, a3⟩, _, az⟩ := box4 HV.out
  obtain ⟨⟨b0, b1, b2, b3⟩, _, bz⟩ := box4 HW.out
  by_cases h1 : 100 < t.size
  · have h1' : 0 < max 0 ((t.size : Int) - 100) := by omega
    generalize max 0 ((t.size : Int) - 100) = S1 at *
    go_wp2_with fail
    refine (awake5_any _).mono ?_
    rintro e w9 ⟨rfl, hx⟩
    go_wp2_with fail
    go_ret
    exact ⟨rfl, HX.out.trans hx⟩
  · have h1' : max 0 ((t.size : Int) - 100) = 0 := by omega
    rw [h1'] at *
    go_wp2_with fail
    refine (s2 _).mono ?_
    rintro e w2 ⟨rfl, hx⟩
    replace HV := hid (hx.block HV.out)
    replace HW := hid (hx.block HW.out)
    replace HX := hid (HX.out.trans hx)
    clear hx a0 a1 a2 a3 az b0 b1 b2 b3 bz
    obtain ⟨⟨a0, a1, a2, a3⟩, _, az⟩ := box4 HV.out
    obtain ⟨⟨b0, b1, b2, b3⟩, _, bz⟩ := box4 HW.out
    by_cases h2 : 100 < u.size
    · have h2' : 0 < max 0 ((u.size : Int) - 100) := by omega
      generalize max 0 ((u.size : Int) - 100) = S2 at *
      go_wp2_with fail
      refine (awake5_any _).mono ?_
      rintro e w9 ⟨rfl, hx⟩
      go_wp2_with fail
      go_ret
      exact ⟨rfl, HX.out.trans hx⟩
    · have h2' : max 0 ((u.size : Int) - 100) = 0 := by omega
      rw [h2'] at *
      clear h1 h2 h1' h2' s1 s2
      have hd0 : ¬ w.heap.size = w2.heap.size := by omega
      have hd1 : ¬ w.heap.size = w2.heap.size + 1 := by omega
      have hd2 : ¬ w.heap.size + 1 = w2.heap.size := by omega
      have hd3 : ¬ w.heap.size + 1 = w2.heap.size + 1 := by omega
      have hz1 : w.heap.size < w2.heap.size + 1 := by omega
      have hz2 : w.heap.size < w2.heap.size + 1 + 1 := by omega
      have hz3 : w.heap.size + 1 < w2.heap.size + 1 := by omega
      have hz4 : w.heap.size + 1 < w2.heap.size + 1 + 1 := by omega
      have hz5 : w.heap.size < w2.heap.size + 2 := by omega
      have hz6 : w.heap.size + 1 < w2.heap.size + 2 := by omega
      go_upto_region 3 with fail
      go_cut [5, 6] from 22 to 174 (fun x y wx => ∃ g5 g6, x = .pointer (some ⟨g5, 0, none⟩) ∧ y = .pointer (some ⟨g6, 0, none⟩) ∧ Hid (wx.heap[g5]? = some (.cells #[.int .u8 (k : Int), .int .i64 n, .int .u64 (b : Int), .string t] 28 (0, 0))) ∧ Hid (wx.heap[g6]? = some (.cells #[.int .u8 (l : Int), .int .i64 m, .int .u64 (c : Int), .string u] 28 (0, 0))) ∧ Ext w2 wx)
      case first =>
        go_region
        all_goals (go_wp2_with fail)
        all_goals go_meet
        all_goals
          obtain ⟨q1, q2, q3⟩ := blocks2d w2 _ _
          exact ⟨_, _, rfl, rfl, (by first | exact q1 | exact q2), (by first | exact q1 | exact q2), q3⟩
      case rest =>
        obtain ⟨g5, g6, rfl, rfl, H5, H6, hx⟩ := hcut
        replace HX := hid (HX.out.trans hx)
        clear hx HV HW a0 a1 a2 a3 az b0 b1 b2 b3 bz hd0 hd1 hd2 hd3 hz1 hz2 hz3 hz4 hz5 hz6
        obtain ⟨⟨a0, a1, a2, a3⟩, _, az⟩ := box4 H5.out
        obtain ⟨⟨b0, b1, b2, b3⟩, _, bz⟩ := box4 H6.out
        go_wp2_with (first | ((with_reducible show Calls _ 25 #[.agg #[.int .u8 (k : Int), .int .i64 n, .int .u64 (b : Int), .string t]] _ _); refine (ck1.out _).mono ?_; rintro e w9 ⟨rfl, hx⟩; (first | replace HX := hid (HX.out.trans hx) | replace HX := hid ((HX.out.then_alloc _).trans hx)); replace H5 := hid (hx.block H5.out); replace H6 := hid (hx.block H6.out); clear hx a0 a1 a2 a3 az b0 b1 b2 b3 bz; obtain ⟨⟨a0, a1, a2, a3⟩, _, az⟩ := box4 H5.out; obtain ⟨⟨b0, b1, b2, b3⟩, _, bz⟩ := box4 H6.out) | ((with_reducible show Calls _ 25 #[.agg #[.int .u8 (l : Int), .int .i64 m, .int .u64 (c : Int), .string u]] _ _); refine (ck2.out _).mono ?_; rintro e w9 ⟨rfl, hx⟩; (first | replace HX := hid (HX.out.trans hx) | replace HX := hid ((HX.out.then_alloc _).trans hx)); replace H5 := hid (hx.block H5.out); replace H6 := hid (hx.block H6.out); clear hx a0 a1 a2 a3 az b0 b1 b2 b3 bz; obtain ⟨⟨a0, a1, a2, a3⟩, _, az⟩ := box4 H5.out; obtain ⟨⟨b0, b1, b2, b3⟩, _, bz⟩ := box4 H6.out))
        refine wp_region_slots Ext (coneG k n b t l m c u g5 g6 false true true true false false) (by kernel_rfl) Ext.trans Ext.refl (Ext.drew _) (coneG_st _ _ _ _ _ _ _ _ _ _ _ _ _ _ _ _) (by kernel_rfl) ?_ ?_
        · intro tmps wr hle hfr j o9 ho hty
          have h5 : tmps[5]?.getD undef = .pointer (some ⟨g5, 0, none⟩) := hfr 5 (by kernel_rfl)
          have h6 : tmps[6]?.getD undef = .pointer (some ⟨g6, 0, none⟩) := hfr 6 (by kernel_rfl)
          obtain ⟨⟨a0, a1, a2, a3⟩, _, _⟩ := box4 (hle.block H5.out)
          obtain ⟨⟨b0, b1, b2, b3⟩, _, _⟩ := box4 (hle.block H6.out)
          clear hfr
          match j, ho with
          | 0, ho =>
            obtain rfl := (Option.some.inj ho)
            clear hty ho
            refine step_pure (.agg #[.int .u8 (k : Int), .int .i64 n, .int .u64 (b : Int), .string t]) (wanted_free rfl) ?_ (Ext.refl _) rfl
            simp [execOp, Act.eval, h5, a0, a1, a2, a3, go_sem]
          | 1, ho =>
            obtain rfl := (Option.some.inj ho)
            clear hty ho
            refine step_pure (.agg #[.int .u8 (l : Int), .int .i64 m, .int .u64 (c : Int), .string u]) (wanted_free rfl) ?_ (Ext.refl _) rfl
            simp [execOp, Act.eval, h6, b0, b1, b2, b3, go_sem]
          | 2, ho =>
            have h45 : tmps[45]?.getD undef = .agg #[.int .u8 (k : Int), .int .i64 n, .int .u64 (b : Int), .string t] := hty 0 45 rfl (by obtain rfl := (Option.some.inj ho); rfl)
            have h46 : tmps[46]?.getD undef = .agg #[.int .u8 (l : Int), .int .i64 m, .int .u64 (c : Int), .string u] := hty 1 46 rfl (by obtain rfl := (Option.some.inj ho); rfl)
            obtain rfl := (Option.some.inj ho)
            clear hty ho
            refine step_call 11 #[.int .u8 1, .agg #[.int .u8 (k : Int), .int .i64 n, .int .u64 (b : Int), .string t], .agg #[.int .u8 (l : Int), .int .i64 m, .int .u64 (c : Int), .string u]] (wanted_free rfl) ?_ ?_
            · simp [execOp, Act.eval, h45, h46, go_sem]
            · exact (K1.out _).mono fun e w' h => ⟨_, h.1, h.2, rfl⟩
          | 3, ho =>
            obtain rfl := (Option.some.inj ho)
            clear hty ho
            refine step_pure (.agg #[.int .u8 (k : Int), .int .i64 n, .int .u64 (b : Int), .string t]) (wanted_free rfl) ?_ (Ext.refl _) rfl
            simp [execOp, Act.eval, h5, a0, a1, a2, a3, go_sem]
          | 4, ho =>
            obtain rfl := (Option.some.inj ho)
            clear hty ho
            refine step_pure (.agg #[.int .u8 (l : Int), .int .i64 m, .int .u64 (c : Int), .string u]) (wanted_free rfl) ?_ (Ext.refl _) rfl
            simp [execOp, Act.eval, h6, b0, b1, b2, b3, go_sem]
          | 5, ho =>
            have h48 : tmps[48]?.getD undef = .agg #[.int .u8 (k : Int), .int .i64 n, .int .u64 (b : Int), .string t] := hty 3 48 rfl (by obtain rfl := (Option.some.inj ho); rfl)
            have h49 : tmps[49]?.getD undef = .agg #[.int .u8 (l : Int), .int .i64 m, .int .u64 (c : Int), .string u] := hty 4 49 rfl (by obtain rfl := (Option.some.inj ho); rfl)
            obtain rfl := (Option.some.inj ho)
            clear hty ho
            refine step_call 11 #[.int .u8 2, .agg #[.int .u8 (k : Int), .int .i64 n, .int .u64 (b : Int), .string t], .agg #[.int .u8 (l : Int), .int .i64 m, .int .u64 (c : Int), .string u]] (wanted_free rfl) ?_ ?_
            · simp [execOp, Act.eval, h48, h49, go_sem]
            · exact (K2.out _).mono fun e w' h => ⟨_, h.1, h.2, rfl⟩
          | 6, ho =>
            obtain rfl := (Option.some.inj ho)
            clear hty ho
            refine step_pure (.agg #[.int .u8 (k : Int), .int .i64 n, .int .u64 (b : Int), .string t]) (wanted_free rfl) ?_ (Ext.refl _) rfl
            simp [execOp, Act.eval, h5, a0, a1, a2, a3, go_sem]
          | 7, ho =>
            obtain rfl := (Option.some.inj ho)
            clear hty ho
            refine step_pure (.agg #[.int .u8 (l : Int), .int .i64 m, .int .u64 (c : Int), .string u]) (wanted_free rfl) ?_ (Ext.refl _) rfl
            simp [execOp, Act.eval, h6, b0, b1, b2, b3, go_sem]
          | 8, ho =>
            have h51 : tmps[51]?.getD undef = .agg #[.int .u8 (k : Int), .int .i64 n, .int .u64 (b : Int), .string t] := hty 6 51 rfl (by obtain rfl := (Option.some.inj ho); rfl)
            have h52 : tmps[52]?.getD undef = .agg #[.int .u8 (l : Int), .int .i64 m, .int .u64 (c : Int), .string u] := hty 7 52 rfl (by obtain rfl := (Option.some.inj ho); rfl)
            obtain rfl := (Option.some.inj ho)
            clear hty ho
            refine step_call 11 #[.int .u8 3, .agg #[.int .u8 (k : Int), .int .i64 n, .int .u64 (b : Int), .string t], .agg #[.int .u8 (l : Int), .int .i64 m, .int .u64 (c : Int), .string u]] (wanted_free rfl) ?_ ?_
            · simp [execOp, Act.eval, h51, h52, go_sem]
            · exact (K3.out _).mono fun e w' h => ⟨_, h.1, h.2, rfl⟩
          | 9, ho =>
            obtain rfl := (Option.some.inj ho)
            clear hty ho
            refine step_pure (.agg #[.int .u8 (k : Int), .int .i64 n, .int .u64 (b : Int), .string t]) (wanted_free rfl) ?_ (Ext.refl _) rfl
            simp [execOp, Act.eval, h5, a0, a1, a2, a3, go_sem]
          | 10, ho =>
            obtain rfl := (Option.some.inj ho)
            clear hty ho
            refine step_pure (.agg #[.int .u8 (l : Int), .int .i64 m, .int .u64 (c : Int), .string u]) (wanted_free rfl) ?_ (Ext.refl _) rfl
            simp [execOp, Act.eval, h6, b0, b1, b2, b3, go_sem]
          | 11, ho =>
            have h54 : tmps[54]?.getD undef = .agg #[.int .u8 (k : Int), .int .i64 n, .int .u64 (b : Int), .string t] := hty 9 54 rfl (by obtain rfl := (Option.some.inj ho); rfl)
            have h55 : tmps[55]?.getD undef = .agg #[.int .u8 (l : Int), .int .i64 m, .int .u64 (c : Int), .string u] := hty 10 55 rfl (by obtain rfl := (Option.some.inj ho); rfl)
            obtain rfl := (Option.some.inj ho)
            clear hty ho
            refine step_call 11 #[.int .u8 4, .agg #[.int .u8 (k : Int), .int .i64 n, .int .u64 (b : Int), .string t], .agg #[.int .u8 (l : Int), .int .i64 m, .int .u64 (c : Int), .string u]] (wanted_free rfl) ?_ ?_
            · simp [execOp, Act.eval, h54, h55, go_sem]
            · exact (K4.out _).mono fun e w' h => ⟨_, h.1, h.2, rfl⟩
          | 12, ho =>
            obtain rfl := (Option.some.inj ho)
            clear hty ho
            refine step_pure (.agg #[.int .u8 (k : Int), .int .i64 n, .int .u64 (b : Int), .string t]) (wanted_free rfl) ?_ (Ext.refl _) rfl
            simp [execOp, Act.eval, h5, a0, a1, a2, a3, go_sem]
          | 13, ho =>
            obtain rfl := (Option.some.inj ho)
            clear hty ho
            refine step_pure (.agg #[.int .u8 (l : Int), .int .i64 m, .int .u64 (c : Int), .string u]) (wanted_free rfl) ?_ (Ext.refl _) rfl
            simp [execOp, Act.eval, h6, b0, b1, b2, b3, go_sem]
          | 14, ho =>
            have h57 : tmps[57]?.getD undef = .agg #[.int .u8 (k : Int), .int .i64 n, .int .u64 (b : Int), .string t] := hty 12 57 rfl (by obtain rfl := (Option.some.inj ho); rfl)
            have h58 : tmps[58]?.getD undef = .agg #[.int .u8 (l : Int), .int .i64 m, .int .u64 (c : Int), .string u] := hty 13 58 rfl (by obtain rfl := (Option.some.inj ho); rfl)
            obtain rfl := (Option.some.inj ho)
            clear hty ho
            refine step_call 11 #[.int .u8 5, .agg #[.int .u8 (k : Int), .int .i64 n, .int .u64 (b : Int), .string t], .agg #[.int .u8 (l : Int), .int .i64 m, .int .u64 (c : Int), .string u]] (wanted_free rfl) ?_ ?_
            · simp [execOp, Act.eval, h57, h58, go_sem]
            · exact (K5.out _).mono fun e w' h => ⟨_, h.1, h.2, rfl⟩
          | 15, ho =>
            obtain rfl := (Option.some.inj ho)
            clear hty ho
            refine step_pure (.agg #[.int .u8 (k : Int), .int .i64 n, .int .u64 (b : Int), .string t]) (wanted_free rfl) ?_ (Ext.refl _) rfl
            simp [execOp, Act.eval, h5, a0, a1, a2, a3, go_sem]
          | 16, ho =>
            obtain rfl := (Option.some.inj ho)
            clear hty ho
            refine step_pure (.agg #[.int .u8 (l : Int), .int .i64 m, .int .u64 (c : Int), .string u]) (wanted_free rfl) ?_ (Ext.refl _) rfl
            simp [execOp, Act.eval, h6, b0, b1, b2, b3, go_sem]
          | 17, ho =>
            have h60 : tmps[60]?.getD undef = .agg #[.int .u8 (k : Int), .int .i64 n, .int .u64 (b : Int), .string t] := hty 15 60 rfl (by obtain rfl := (Option.some.inj ho); rfl)
            have h61 : tmps[61]?.getD undef = .agg #[.int .u8 (l : Int), .int .i64 m, .int .u64 (c : Int), .string u] := hty 16 61 rfl (by obtain rfl := (Option.some.inj ho); rfl)
            obtain rfl := (Option.some.inj ho)
            clear hty ho
            refine step_call 11 #[.int .u8 6, .agg #[.int .u8 (k : Int), .int .i64 n, .int .u64 (b : Int), .string t], .agg #[.int .u8 (l : Int), .int .i64 m, .int .u64 (c : Int), .string u]] (wanted_free rfl) ?_ ?_
            · simp [execOp, Act.eval, h60, h61, go_sem]
            · exact (K6.out _).mono fun e w' h => ⟨_, h.1, h.2, rfl⟩
          | 18, ho =>
            have h47 : tmps[47]?.getD undef = .bool false := hty 2 47 rfl (by obtain rfl := (Option.some.inj ho); rfl)
            obtain rfl := (Option.some.inj ho)
            clear hty ho
            refine step_pure (.bool false) (wanted_free rfl) ?_ (Ext.refl _) rfl
            simp [execOp, Act.eval, h47, go_sem]
          | 19, ho =>
            have h50 : tmps[50]?.getD undef = .bool true := hty 5 50 rfl (by obtain rfl := (Option.some.inj ho); rfl)
            obtain rfl := (Option.some.inj ho)
            clear hty ho
            refine step_pure (.bool true) (wanted_free rfl) ?_ (Ext.refl _) rfl
            simp [execOp, Act.eval, h50, go_sem]
          | 20, ho =>
            have h53 : tmps[53]?.getD undef = .bool true := hty 8 53 rfl (by obtain rfl := (Option.some.inj ho); rfl)
            obtain rfl := (Option.some.inj ho)
            clear hty ho
            refine step_pure (.bool true) (wanted_free rfl) ?_ (Ext.refl _) rfl
            simp [execOp, Act.eval, h53, go_sem]
          | 21, ho =>
            have h56 : tmps[56]?.getD undef = .bool true := hty 11 56 rfl (by obtain rfl := (Option.some.inj ho); rfl)
            obtain rfl := (Option.some.inj ho)
            clear hty ho
            refine step_pure (.bool true) (wanted_free rfl) ?_ (Ext.refl _) rfl
            simp [execOp, Act.eval, h56, go_sem]
          | 22, ho =>
            have h59 : tmps[59]?.getD undef = .bool false := hty 14 59 rfl (by obtain rfl := (Option.some.inj ho); rfl)
            obtain rfl := (Option.some.inj ho)
            clear hty ho
            refine step_pure (.bool false) (wanted_free rfl) ?_ (Ext.refl _) rfl
            simp [execOp, Act.eval, h59, go_sem]
          | 23, ho =>
            have h62 : tmps[62]?.getD undef = .bool false := hty 17 62 rfl (by obtain rfl := (Option.some.inj ho); rfl)
            obtain rfl := (Option.some.inj ho)
            clear hty ho
            refine step_pure (.bool false) (wanted_free rfl) ?_ (Ext.refl _) rfl
            simp [execOp, Act.eval, h62, go_sem]
          | (j + 24), ho => exact absurd ho (by simp)
        · intro tmps w6 hle hs hfr hty
          have h7 : tmps[7]?.getD undef = .bool false := hty 18 7 rfl
          have h8 : tmps[8]?.getD undef = .bool true := hty 19 8 rfl
          have h9 : tmps[9]?.getD undef = .bool true := hty 20 9 rfl
          have h10 : tmps[10]?.getD undef = .bool true := hty 21 10 rfl
          have h11 : tmps[11]?.getD undef = .bool false := hty 22 11 rfl
          have h12 : tmps[12]?.getD undef = .bool false := hty 23 12 rfl
          have hfe := frame_eq [7, 8, 9, 10, 11, 12, 45, 46, 47, 48, 49, 50, 51, 52, 53, 54, 55, 56, 57, 58, 59, 60, 61, 62] hs hfr (by kernel_rfl)
          rw [hfe]
          clear hfe hfr hs hty
          simp only [List.foldl_cons, List.foldl_nil]
          generalize tmps[45]?.getD undef = x45
          generalize tmps[46]?.getD undef = x46
          generalize tmps[47]?.getD undef = x47
          generalize tmps[48]?.getD undef = x48
          generalize tmps[49]?.getD undef = x49
          generalize tmps[50]?.getD undef = x50
          generalize tmps[51]?.getD undef = x51
          generalize tmps[52]?.getD undef = x52
          generalize tmps[53]?.getD undef = x53
          generalize tmps[54]?.getD undef = x54
          generalize tmps[55]?.getD undef = x55
          generalize tmps[56]?.getD undef = x56
          generalize tmps[57]?.getD undef = x57
          generalize tmps[58]?.getD undef = x58
          generalize tmps[59]?.getD undef = x59
          generalize tmps[60]?.getD undef = x60
          generalize tmps[61]?.getD undef = x61
          generalize tmps[62]?.getD undef = x62
          rw [h7, h8, h9, h10, h11, h12]
          clear h7 h8 h9 h10 h11 h12
          simp only [List.setIfInBounds_toArray, List.set_cons_succ, List.set_cons_zero]
          replace HX := hid (HX.out.trans hle)
          replace H5 := hid (hle.block H5.out)
          replace H6 := hid (hle.block H6.out)
          clear hle a0 a1 a2 a3 az b0 b1 b2 b3 bz
          obtain ⟨⟨a0, a1, a2, a3⟩, _, az⟩ := box4 H5.out
          obtain ⟨⟨b0, b1, b2, b3⟩, _, bz⟩ := box4 H6.out
          go_wp2_with (first | ((with_reducible show Calls _ 11 #[.int .u8 1, .agg #[.int .u8 (l : Int), .int .i64 m, .int .u64 (c : Int), .string u], .agg #[.int .u8 (k : Int), .int .i64 n, .int .u64 (b : Int), .string t]] _ _); refine (R1.out _).mono ?_; rintro e w9 ⟨rfl, hx⟩; (first | replace HX := hid (HX.out.trans hx) | replace HX := hid ((HX.out.then_alloc _).trans hx)); replace H5 := hid (hx.block H5.out); replace H6 := hid (hx.block H6.out); clear hx a0 a1 a2 a3 az b0 b1 b2 b3 bz; obtain ⟨⟨a0, a1, a2, a3⟩, _, az⟩ := box4 H5.out; obtain ⟨⟨b0, b1, b2, b3⟩, _, bz⟩ := box4 H6.out) | ((with_reducible show Calls _ 11 #[.int .u8 5, .agg #[.int .u8 (l : Int), .int .i64 m, .int .u64 (c : Int), .string u], .agg #[.int .u8 (k : Int), .int .i64 n, .int .u64 (b : Int), .string t]] _ _); refine (R5.out _).mono ?_; rintro e w9 ⟨rfl, hx⟩; (first | replace HX := hid (HX.out.trans hx) | replace HX := hid ((HX.out.then_alloc _).trans hx)); replace H5 := hid (hx.block H5.out); replace H6 := hid (hx.block H6.out); clear hx a0 a1 a2 a3 az b0 b1 b2 b3 bz; obtain ⟨⟨a0, a1, a2, a3⟩, _, az⟩ := box4 H5.out; obtain ⟨⟨b0, b1, b2, b3⟩, _, bz⟩ := box4 H6.out) | ((with_reducible show Calls _ 11 #[.int .u8 6, .agg #[.int .u8 (l : Int), .int .i64 m, .int .u64 (c : Int), .string u], .agg #[.int .u8 (k : Int), .int .i64 n, .int .u64 (b : Int), .string t]] _ _); refine (R6.out _).mono ?_; rintro e w9 ⟨rfl, hx⟩; (first | replace HX := hid (HX.out.trans hx) | replace HX := hid ((HX.out.then_alloc _).trans hx)); replace H5 := hid (hx.block H5.out); replace H6 := hid (hx.block H6.out); clear hx a0 a1 a2 a3 az b0 b1 b2 b3 bz; obtain ⟨⟨a0, a1, a2, a3⟩, _, az⟩ := box4 H5.out; obtain ⟨⟨b0, b1, b2, b3⟩, _, bz⟩ := box4 H6.out) | ((with_reducible show Calls _ 21 #[_, _, _] _ _); refine (KF.out _).mono ?_; rintro e w9 ⟨rfl, hx⟩; (first | replace HX := hid (HX.out.trans hx) | replace HX := hid ((HX.out.then_alloc _).trans hx)); replace H5 := hid (hx.block H5.out); replace H6 := hid (hx.block H6.out); clear hx a0 a1 a2 a3 az b0 b1 b2 b3 bz; obtain ⟨⟨a0, a1, a2, a3⟩, _, az⟩ := box4 H5.out; obtain ⟨⟨b0, b1, b2, b3⟩, _, bz⟩ := box4 H6.out) | ((with_reducible show Calls _ 26 #[.int .u64 (b : Int)] _ _); refine (kb.out _).mono ?_; rintro e w9 ⟨rfl, hx⟩; (first | replace HX := hid (HX.out.trans hx) | replace HX := hid ((HX.out.then_alloc _).trans hx)); replace H5 := hid (hx.block H5.out); replace H6 := hid (hx.block H6.out); clear hx a0 a1 a2 a3 az b0 b1 b2 b3 bz; obtain ⟨⟨a0, a1, a2, a3⟩, _, az⟩ := box4 H5.out; obtain ⟨⟨b0, b1, b2, b3⟩, _, bz⟩ := box4 H6.out) | ((with_reducible show Calls _ 26 #[.int .u64 (c : Int)] _ _); refine (kc.out _).mono ?_; rintro e w9 ⟨rfl, hx⟩; (first | replace HX := hid (HX.out.trans hx) | replace HX := hid ((HX.out.then_alloc _).trans hx)); replace H5 := hid (hx.block H5.out); replace H6 := hid (hx.block H6.out); clear hx a0 a1 a2 a3 az b0 b1 b2 b3 bz; obtain ⟨⟨a0, a1, a2, a3⟩, _, az⟩ := box4 H5.out; obtain ⟨⟨b0, b1, b2, b3⟩, _, bz⟩ := box4 H6.out) | ((with_reducible show Calls _ 10 #[] _ _); refine (awake5_any _).mono ?_; rintro e w9 ⟨rfl, hx⟩; (first | replace HX := hid (HX.out.trans hx) | replace HX := hid ((HX.out.then_alloc _).trans hx)); replace H5 := hid (hx.block H5.out); replace H6 := hid (hx.block H6.out); clear hx a0 a1 a2 a3 az b0 b1 b2 b3 bz; obtain ⟨⟨a0, a1, a2, a3⟩, _, az⟩ := box4 H5.out; obtain ⟨⟨b0, b1, b2, b3⟩, _, bz⟩ := box4 H6.out))
          go_ret
          exact ⟨rfl, HX.out⟩

set_option maxRecDepth 100000 in
set_option maxHeartbeats 4000000 in
theorem cone_equal (k : Nat) (n : Int) (b : Nat) (t : ByteArray) (l : Nat) (m : Int) (c : Nat) (u : ByteArray) (w : World) (hk : k ≤ 255) (hl : l ≤ 255) (hn0 : -9223372036854775808 ≤ n) (hn1 : n ≤ 9223372036854775807) (hm0 : -9223372036854775808 ≤ m) (hm1 : m ≤ 9223372036854775807) (hb : b ≤ 18446744073709551615) (hc : c ≤ 18446744073709551615) (ht : t.size ≤ 9223372036854775807) (hu : u.size ≤ 9223372036854775807) (e1 : checkV k n b t = 0) (e2 : checkV l m c u = 0) (h1 : ∀ W, Calls Try.prog 11 #[.int .u8 1, .agg #[.int .u8 (k : Int), .int .i64 n, .int .u64 (b : Int), .string t], .agg #[.int .u8 (l : Int), .int .i64 m, .int .u64 (c : Int), .string u]] W (fun e w' => e = .returned (.bool true) ∧ Ext W w')) (h2 : ∀ W, Calls Try.prog 11 #[.int .u8 2, .agg #[.int .u8 (k : Int), .int .i64 n, .int .u64 (b : Int), .string t], .agg #[.int .u8 (l : Int), .int .i64 m, .int .u64 (c : Int), .string u]] W (fun e w' => e = .returned (.bool false) ∧ Ext W w')) (h3 : ∀ W, Calls Try.prog 11 #[.int .u8 3, .agg #[.int .u8 (k : Int), .int .i64 n, .int .u64 (b : Int), .string t], .agg #[.int .u8 (l : Int), .int .i64 m, .int .u64 (c : Int), .string u]] W (fun e w' => e = .returned (.bool false) ∧ Ext W w')) (h4 : ∀ W, Calls Try.prog 11 #[.int .u8 4, .agg #[.int .u8 (k : Int), .int .i64 n, .int .u64 (b : Int), .string t], .agg #[.int .u8 (l : Int), .int .i64 m, .int .u64 (c : Int), .string u]] W (fun e w' => e = .returned (.bool true) ∧ Ext W w')) (h5 : ∀ W, Calls Try.prog 11 #[.int .u8 5, .agg #[.int .u8 (k : Int), .int .i64 n, .int .u64 (b : Int), .string t], .agg #[.int .u8 (l : Int), .int .i64 m, .int .u64 (c : Int), .string u]] W (fun e w' => e = .returned (.bool false) ∧ Ext W w')) (h6 : ∀ W, Calls Try.prog 11 #[.int .u8 6, .agg #[.int .u8 (k : Int), .int .i64 n, .int .u64 (b : Int), .string t], .agg #[.int .u8 (l : Int), .int .i64 m, .int .u64 (c : Int), .string u]] W (fun e w' => e = .returned (.bool true) ∧ Ext W w')) (r1 : ∀ W, Calls Try.prog 11 #[.int .u8 1, .agg #[.int .u8 (l : Int), .int .i64 m, .int .u64 (c : Int), .string u], .agg #[.int .u8 (k : Int), .int .i64 n, .int .u64 (b : Int), .string t]] W (fun e w' => e = .returned (.bool true) ∧ Ext W w')) (r5 : ∀ W, Calls Try.prog 11 #[.int .u8 5, .agg #[.int .u8 (l : Int), .int .i64 m, .int .u64 (c : Int), .string u], .agg #[.int .u8 (k : Int), .int .i64 n, .int .u64 (b : Int), .string t]] W (fun e w' => e = .returned (.bool false) ∧ Ext W w')) (r6 : ∀ W, Calls Try.prog 11 #[.int .u8 6, .agg #[.int .u8 (l : Int), .int .i64 m, .int .u64 (c : Int), .string u], .agg #[.int .u8 (k : Int), .int .i64 n, .int .u64 (b : Int), .string t]] W (fun e w' => e = .returned (.bool true) ∧ Ext W w')) (hf : ∀ W, Calls Try.prog 21 #[.int .u8 3, .int .u8 (k : Int), .int .u8 (l : Int)] W (fun e w' => e = .returned (.bool true) ∧ Ext W w')) (hkb : kindZ b ≠ 5) (hkc : kindZ c ≠ 5) : Calls Try.prog 6 #[.agg #[.int .u8 (k : Int), .int .i64 n, .int .u64 (b : Int), .string t], .agg #[.int .u8 (l : Int), .int .i64 m, .int .u64 (c : Int), .string u]] w (Says w (.bool true)) := by
  have ck1 : Hid (∀ W, Calls Try.prog 25 #[.agg #[.int .u8 (k : Int), .int .i64 n, .int .u64 (b : Int), .string t]] W (fun e w' => e = .returned (.int .i64 0) ∧ Ext W w')) := fun W => by have h := vcheck_any k n b t W hk hn0 hn1 hb ht; rw [e1] at h; exact h
  have ck2 : Hid (∀ W, Calls Try.prog 25 #[.agg #[.int .u8 (l : Int), .int .i64 m, .int .u64 (c : Int), .string u]] W (fun e w' => e = .returned (.int .i64 0) ∧ Ext W w')) := fun W => by have h := vcheck_any l m c u W hl hm0 hm1 hc hu; rw [e2] at h; exact h
  have K1 := hid h1
  have K2 := hid h2
  have K3 := hid h3
  have K4 := hid h4
  have K5 := hid h5
  have K6 := hid h6
  have R1 := hid r1
  have R5 := hid r5
  have R6 := hid r6
  have KF := hid hf
  have kb : Hid (∀ W, Calls Try.prog 26 #[.int .u64 (b : Int)] W (fun e w' => e = .returned (.int .u8 (kindZ b : Int)) ∧ Ext W w')) := fun W => (kind_just b W hb).mono fun e w' h => ⟨h.1, h.says.2⟩
  have nb : ((kindZ b : Int) == 5) = false := beq_eq_false_iff_ne.2 (by omega)
  have kc : Hid (∀ W, Calls Try.prog 26 #[.int .u64 (c : Int)] W (fun e w' => e = .returned (.int .u8 (kindZ c : Int)) ∧ Ext W w')) := fun W => (kind_just c W hc).mono fun e w' h => ⟨h.1, h.says.2⟩
  have nc : ((kindZ c : Int) == 5) = false := beq_eq_false_iff_ne.2 (by omega)
  clear h1 h2 h3 h4 h5 h6 r1 r5 r6 hf e1 e2 hn0 hn1 hm0 hm1 hk hl hb hc hkb hkc
  have s1 := fun W => small_any k n b t W ht
  have s2 := fun W => small_any l m c u W hu
  go_enter Try.func6, Try.ntmps6
  go_wp2_with fail
  refine (s1 _).mono ?_
  rintro e w1 ⟨rfl, hx⟩
  have HV := hid (hx.block (heap_alloc2_old w _ _))
  have HW := hid (hx.block (heap_alloc2_new w _ _))
  have HX := hid (((Ext.alloc w _).then_alloc _).trans hx)
  clear hx
  obtain ⟨⟨a0, a1, a2, a3⟩, _, az⟩ := box4 HV.out
  obtain ⟨⟨b0, b1, b2, b3⟩, _, bz⟩ := box4 HW.out
  by_cases h1 : 100 < t.size
  · have h1' : 0 < max 0 ((t.size : Int) - 100) := by omega
    generalize max 0 ((t.size : Int) - 100) = S1 at *
    go_wp2_with fail
    refine (awake5_any _).mono ?_
    rintro e w9 ⟨rfl, hx⟩
    go_wp2_with fail
    go_ret
    exact ⟨rfl, HX.out.trans hx⟩
  · have h1' : max 0 ((t.size : Int) - 100) = 0 := by omega
    rw [h1'] at *
    go_wp2_with fail
    refine (s2 _).mono ?_
    rintro e w2 ⟨rfl, hx⟩
    replace HV := hid (hx.block HV.out)
    replace HW := hid (hx.block HW.out)
    replace HX := hid (HX.out.trans hx)
    clear hx a0 a1 a2 a3 az b0 b1 b2 b3 bz
    obtain ⟨⟨a0, a1, a2, a3⟩, _, az⟩ := box4 HV.out
    obtain ⟨⟨b0, b1, b2, b3⟩, _, bz⟩ := box4 HW.out
    by_cases h2 : 100 < u.size
    · have h2' : 0 < max 0 ((u.size : Int) - 100) := by omega
      generalize max 0 ((u.size : Int) - 100) = S2 at *
      go_wp2_with fail
      refine (awake5_any _).mono ?_
      rintro e w9 ⟨rfl, hx⟩
      go_wp2_with fail
      go_ret
      exact ⟨rfl, HX.out.trans hx⟩
    · have h2' : max 0 ((u.size : Int) - 100) = 0 := by omega
      rw [h2'] at *
      clear h1 h2 h1' h2' s1 s2
      have hd0 : ¬ w.heap.size = w2.heap.size := by omega
      have hd1 : ¬ w.heap.size = w2.heap.size + 1 := by omega
      have hd2 : ¬ w.heap.size + 1 = w2.heap.size := by omega
      have hd3 : ¬ w.heap.size + 1 = w2.heap.size + 1 := by omega
      have hz1 : w.heap.size < w2.heap.size + 1 := by omega
      have hz2 : w.heap.size < w2.heap.size + 1 + 1 := by omega
      have hz3 : w.heap.size + 1 < w2.heap.size + 1 := by omega
      have hz4 : w.heap.size + 1 < w2.heap.size + 1 + 1 := by omega
      have hz5 : w.heap.size < w2.heap.size + 2 := by omega
      have hz6 : w.heap.size + 1 < w2.heap.size + 2 := by omega
      go_upto_region 3 with fail
      go_cut [5, 6] from 22 to 174 (fun x y wx => ∃ g5 g6, x = .pointer (some ⟨g5, 0, none⟩) ∧ y = .pointer (some ⟨g6, 0, none⟩) ∧ Hid (wx.heap[g5]? = some (.cells #[.int .u8 (k : Int), .int .i64 n, .int .u64 (b : Int), .string t] 28 (0, 0))) ∧ Hid (wx.heap[g6]? = some (.cells #[.int .u8 (l : Int), .int .i64 m, .int .u64 (c : Int), .string u] 28 (0, 0))) ∧ Ext w2 wx)
      case first =>
        go_region
        all_goals (go_wp2_with fail)
        all_goals go_meet
        all_goals
          obtain ⟨q1, q2, q3⟩ := blocks2d w2 _ _
          exact ⟨_, _, rfl, rfl, (by first | exact q1 | exact q2), (by first | exact q1 | exact q2), q3⟩
      case rest =>
        obtain ⟨g5, g6, rfl, rfl, H5, H6, hx⟩ := hcut
        replace HX := hid (HX.out.trans hx)
        clear hx HV HW a0 a1 a2 a3 az b0 b1 b2 b3 bz hd0 hd1 hd2 hd3 hz1 hz2 hz3 hz4 hz5 hz6
        obtain ⟨⟨a0, a1, a2, a3⟩, _, az⟩ := box4 H5.out
        obtain ⟨⟨b0, b1, b2, b3⟩, _, bz⟩ := box4 H6.out
        go_wp2_with (first | ((with_reducible show Calls _ 25 #[.agg #[.int .u8 (k : Int), .int .i64 n, .int .u64 (b : Int), .string t]] _ _); refine (ck1.out _).mono ?_; rintro e w9 ⟨rfl, hx⟩; (first | replace HX := hid (HX.out.trans hx) | replace HX := hid ((HX.out.then_alloc _).trans hx)); replace H5 := hid (hx.block H5.out); replace H6 := hid (hx.block H6.out); clear hx a0 a1 a2 a3 az b0 b1 b2 b3 bz; obtain ⟨⟨a0, a1, a2, a3⟩, _, az⟩ := box4 H5.out; obtain ⟨⟨b0, b1, b2, b3⟩, _, bz⟩ := box4 H6.out) | ((with_reducible show Calls _ 25 #[.agg #[.int .u8 (l : Int), .int .i64 m, .int .u64 (c : Int), .string u]] _ _); refine (ck2.out _).mono ?_; rintro e w9 ⟨rfl, hx⟩; (first | replace HX := hid (HX.out.trans hx) | replace HX := hid ((HX.out.then_alloc _).trans hx)); replace H5 := hid (hx.block H5.out); replace H6 := hid (hx.block H6.out); clear hx a0 a1 a2 a3 az b0 b1 b2 b3 bz; obtain ⟨⟨a0, a1, a2, a3⟩, _, az⟩ := box4 H5.out; obtain ⟨⟨b0, b1, b2, b3⟩, _, bz⟩ := box4 H6.out))
        refine wp_region_slots Ext (coneG k n b t l m c u g5 g6 true false false true false true) (by kernel_rfl) Ext.trans Ext.refl (Ext.drew _) (coneG_st _ _ _ _ _ _ _ _ _ _ _ _ _ _ _ _) (by kernel_rfl) ?_ ?_
        · intro tmps wr hle hfr j o9 ho hty
          have h5 : tmps[5]?.getD undef = .pointer (some ⟨g5, 0, none⟩) := hfr 5 (by kernel_rfl)
          have h6 : tmps[6]?.getD undef = .pointer (some ⟨g6, 0, none⟩) := hfr 6 (by kernel_rfl)
          obtain ⟨⟨a0, a1, a2, a3⟩, _, _⟩ := box4 (hle.block H5.out)
          obtain ⟨⟨b0, b1, b2, b3⟩, _, _⟩ := box4 (hle.block H6.out)
          clear hfr
          match j, ho with
          | 0, ho =>
            obtain rfl := (Option.some.inj ho)
            clear hty ho
            refine step_pure (.agg #[.int .u8 (k : Int), .int .i64 n, .int .u64 (b : Int), .string t]) (wanted_free rfl) ?_ (Ext.refl _) rfl
            simp [execOp, Act.eval, h5, a0, a1, a2, a3, go_sem]
          | 1, ho =>
            obtain rfl := (Option.some.inj ho)
            clear hty ho
            refine step_pure (.agg #[.int .u8 (l : Int), .int .i64 m, .int .u64 (c : Int), .string u]) (wanted_free rfl) ?_ (Ext.refl _) rfl
            simp [execOp, Act.eval, h6, b0, b1, b2, b3, go_sem]
          | 2, ho =>
            have h45 : tmps[45]?.getD undef = .agg #[.int .u8 (k : Int), .int .i64 n, .int .u64 (b : Int), .string t] := hty 0 45 rfl (by obtain rfl := (Option.some.inj ho); rfl)
            have h46 : tmps[46]?.getD undef = .agg #[.int .u8 (l : Int), .int .i64 m, .int .u64 (c : Int), .string u] := hty 1 46 rfl (by obtain rfl := (Option.some.inj ho); rfl)
            obtain rfl := (Option.some.inj ho)
            clear hty ho
            refine step_call 11 #[.int .u8 1, .agg #[.int .u8 (k : Int), .int .i64 n, .int .u64 (b : Int), .string t], .agg #[.int .u8 (l : Int), .int .i64 m, .int .u64 (c : Int), .string u]] (wanted_free rfl) ?_ ?_
            · simp [execOp, Act.eval, h45, h46, go_sem]
            · exact (K1.out _).mono fun e w' h => ⟨_, h.1, h.2, rfl⟩
          | 3, ho =>
            obtain rfl := (Option.some.inj ho)
            clear hty ho
            refine step_pure (.agg #[.int .u8 (k : Int), .int .i64 n, .int .u64 (b : Int), .string t]) (wanted_free rfl) ?_ (Ext.refl _) rfl
            simp [execOp, Act.eval, h5, a0, a1, a2, a3, go_sem]
          | 4, ho =>
            obtain rfl := (Option.some.inj ho)
            clear hty ho
            refine step_pure (.agg #[.int .u8 (l : Int), .int .i64 m, .int .u64 (c : Int), .string u]) (wanted_free rfl) ?_ (Ext.refl _) rfl
            simp [execOp, Act.eval, h6, b0, b1, b2, b3, go_sem]
          | 5, ho =>
            have h48 : tmps[48]?.getD undef = .agg #[.int .u8 (k : Int), .int .i64 n, .int .u64 (b : Int), .string t] := hty 3 48 rfl (by obtain rfl := (Option.some.inj ho); rfl)
            have h49 : tmps[49]?.getD undef = .agg #[.int .u8 (l : Int), .int .i64 m, .int .u64 (c : Int), .string u] := hty 4 49 rfl (by obtain rfl := (Option.some.inj ho); rfl)
            obtain rfl := (Option.some.inj ho)
            clear hty ho
            refine step_call 11 #[.int .u8 2, .agg #[.int .u8 (k : Int), .int .i64 n, .int .u64 (b : Int), .string t], .agg #[.int .u8 (l : Int), .int .i64 m, .int .u64 (c : Int), .string u]] (wanted_free rfl) ?_ ?_
            · simp [execOp, Act.eval, h48, h49, go_sem]
            · exact (K2.out _).mono fun e w' h => ⟨_, h.1, h.2, rfl⟩
          | 6, ho =>
            obtain rfl := (Option.some.inj ho)
            clear hty ho
            refine step_pure (.agg #[.int .u8 (k : Int), .int .i64 n, .int .u64 (b : Int), .string t]) (wanted_free rfl) ?_ (Ext.refl _) rfl
            simp [execOp, Act.eval, h5, a0, a1, a2, a3, go_sem]
          | 7, ho =>
            obtain rfl := (Option.some.inj ho)
            clear hty ho
            refine step_pure (.agg #[.int .u8 (l : Int), .int .i64 m, .int .u64 (c : Int), .string u]) (wanted_free rfl) ?_ (Ext.refl _) rfl
            simp [execOp, Act.eval, h6, b0, b1, b2, b3, go_sem]
          | 8, ho =>
            have h51 : tmps[51]?.getD undef = .agg #[.int .u8 (k : Int), .int .i64 n, .int .u64 (b : Int), .string t] := hty 6 51 rfl (by obtain rfl := (Option.some.inj ho); rfl)
            have h52 : tmps[52]?.getD undef = .agg #[.int .u8 (l : Int), .int .i64 m, .int .u64 (c : Int), .string u] := hty 7 52 rfl (by obtain rfl := (Option.some.inj ho); rfl)
            obtain rfl := (Option.some.inj ho)
            clear hty ho
            refine step_call 11 #[.int .u8 3, .agg #[.int .u8 (k : Int), .int .i64 n, .int .u64 (b : Int), .string t], .agg #[.int .u8 (l : Int), .int .i64 m, .int .u64 (c : Int), .string u]] (wanted_free rfl) ?_ ?_
            · simp [execOp, Act.eval, h51, h52, go_sem]
            · exact (K3.out _).mono fun e w' h => ⟨_, h.1, h.2, rfl⟩
          | 9, ho =>
            obtain rfl := (Option.some.inj ho)
            clear hty ho
            refine step_pure (.agg #[.int .u8 (k : Int), .int .i64 n, .int .u64 (b : Int), .string t]) (wanted_free rfl) ?_ (Ext.refl _) rfl
            simp [execOp, Act.eval, h5, a0, a1, a2, a3, go_sem]
          | 10, ho =>
            obtain rfl := (Option.some.inj ho)
            clear hty ho
            refine step_pure (.agg #[.int .u8 (l : Int), .int .i64 m, .int .u64 (c : Int), .string u]) (wanted_free rfl) ?_ (Ext.refl _) rfl
            simp [execOp, Act.eval, h6, b0, b1, b2, b3, go_sem]
          | 11, ho =>
            have h54 : tmps[54]?.getD undef = .agg #[.int .u8 (k : Int), .int .i64 n, .int .u64 (b : Int), .string t] := hty 9 54 rfl (by obtain rfl := (Option.some.inj ho); rfl)
            have h55 : tmps[55]?.getD undef = .agg #[.int .u8 (l : Int), .int .i64 m, .int .u64 (c : Int), .string u] := hty 10 55 rfl (by obtain rfl := (Option.some.inj ho); rfl)
            obtain rfl := (Option.some.inj ho)
            clear hty ho
            refine step_call 11 #[.int .u8 4, .agg #[.int .u8 (k : Int), .int .i64 n, .int .u64 (b : Int), .string t], .agg #[.int .u8 (l : Int), .int .i64 m, .int .u64 (c : Int), .string u]] (wanted_free rfl) ?_ ?_
            · simp [execOp, Act.eval, h54, h55, go_sem]
            · exact (K4.out _).mono fun e w' h => ⟨_, h.1, h.2, rfl⟩
          | 12, ho =>
            obtain rfl := (Option.some.inj ho)
            clear hty ho
            refine step_pure (.agg #[.int .u8 (k : Int), .int .i64 n, .int .u64 (b : Int), .string t]) (wanted_free rfl) ?_ (Ext.refl _) rfl
            simp [execOp, Act.eval, h5, a0, a1, a2, a3, go_sem]
          | 13, ho =>
            obtain rfl := (Option.some.inj ho)
            clear hty ho
            refine step_pure (.agg #[.int .u8 (l : Int), .int .i64 m, .int .u64 (c : Int), .string u]) (wanted_free rfl) ?_ (Ext.refl _) rfl
            simp [execOp, Act.eval, h6, b0, b1, b2, b3, go_sem]
          | 14, ho =>
            have h57 : tmps[57]?.getD undef = .agg #[.int .u8 (k : Int), .int .i64 n, .int .u64 (b : Int), .string t] := hty 12 57 rfl (by obtain rfl := (Option.some.inj ho); rfl)
            have h58 : tmps[58]?.getD undef = .agg #[.int .u8 (l : Int), .int .i64 m, .int .u64 (c : Int), .string u] := hty 13 58 rfl (by obtain rfl := (Option.some.inj ho); rfl)
            obtain rfl := (Option.some.inj ho)
            clear hty ho
            refine step_call 11 #[.int .u8 5, .agg #[.int .u8 (k : Int), .int .i64 n, .int .u64 (b : Int), .string t], .agg #[.int .u8 (l : Int), .int .i64 m, .int .u64 (c : Int), .string u]] (wanted_free rfl) ?_ ?_
            · simp [execOp, Act.eval, h57, h58, go_sem]
            · exact (K5.out _).mono fun e w' h => ⟨_, h.1, h.2, rfl⟩
          | 15, ho =>
            obtain rfl := (Option.some.inj ho)
            clear hty ho
            refine step_pure (.agg #[.int .u8 (k : Int), .int .i64 n, .int .u64 (b : Int), .string t]) (wanted_free rfl) ?_ (Ext.refl _) rfl
            simp [execOp, Act.eval, h5, a0, a1, a2, a3, go_sem]
          | 16, ho =>
            obtain rfl := (Option.some.inj ho)
            clear hty ho
            refine step_pure (.agg #[.int .u8 (l : Int), .int .i64 m, .int .u64 (c : Int), .string u]) (wanted_free rfl) ?_ (Ext.refl _) rfl
            simp [execOp, Act.eval, h6, b0, b1, b2, b3, go_sem]
          | 17, ho =>
            have h60 : tmps[60]?.getD undef = .agg #[.int .u8 (k : Int), .int .i64 n, .int .u64 (b : Int), .string t] := hty 15 60 rfl (by obtain rfl := (Option.some.inj ho); rfl)
            have h61 : tmps[61]?.getD undef = .agg #[.int .u8 (l : Int), .int .i64 m, .int .u64 (c : Int), .string u] := hty 16 61 rfl (by obtain rfl := (Option.some.inj ho); rfl)
            obtain rfl := (Option.some.inj ho)
            clear hty ho
            refine step_call 11 #[.int .u8 6, .agg #[.int .u8 (k : Int), .int .i64 n, .int .u64 (b : Int), .string t], .agg #[.int .u8 (l : Int), .int .i64 m, .int .u64 (c : Int), .string u]] (wanted_free rfl) ?_ ?_
            · simp [execOp, Act.eval, h60, h61, go_sem]
            · exact (K6.out _).mono fun e w' h => ⟨_, h.1, h.2, rfl⟩
          | 18, ho =>
            have h47 : tmps[47]?.getD undef = .bool true := hty 2 47 rfl (by obtain rfl := (Option.some.inj ho); rfl)
            obtain rfl := (Option.some.inj ho)
            clear hty ho
            refine step_pure (.bool true) (wanted_free rfl) ?_ (Ext.refl _) rfl
            simp [execOp, Act.eval, h47, go_sem]
          | 19, ho =>
            have h50 : tmps[50]?.getD undef = .bool false := hty 5 50 rfl (by obtain rfl := (Option.some.inj ho); rfl)
            obtain rfl := (Option.some.inj ho)
            clear hty ho
            refine step_pure (.bool false) (wanted_free rfl) ?_ (Ext.refl _) rfl
            simp [execOp, Act.eval, h50, go_sem]
          | 20, ho =>
            have h53 : tmps[53]?.getD undef = .bool false := hty 8 53 rfl (by obtain rfl := (Option.some.inj ho); rfl)
            obtain rfl := (Option.some.inj ho)
            clear hty ho
            refine step_pure (.bool false) (wanted_free rfl) ?_ (Ext.refl _) rfl
            simp [execOp, Act.eval, h53, go_sem]
          | 21, ho =>
            have h56 : tmps[56]?.getD undef = .bool true := hty 11 56 rfl (by obtain rfl := (Option.some.inj ho); rfl)
            obtain rfl := (Option.some.inj ho)
            clear hty ho
            refine step_pure (.bool true) (wanted_free rfl) ?_ (Ext.refl _) rfl
            simp [execOp, Act.eval, h56, go_sem]
          | 22, ho =>
            have h59 : tmps[59]?.getD undef = .bool false := hty 14 59 rfl (by obtain rfl := (Option.some.inj ho); rfl)
            obtain rfl := (Option.some.inj ho)
            clear hty ho
            refine step_pure (.bool false) (wanted_free rfl) ?_ (Ext.refl _) rfl
            simp [execOp, Act.eval, h59, go_sem]
          | 23, ho =>
            have h62 : tmps[62]?.getD undef = .bool true := hty 17 62 rfl (by obtain rfl := (Option.some.inj ho); rfl)
            obtain rfl := (Option.some.inj ho)
            clear hty ho
            refine step_pure (.bool true) (wanted_free rfl) ?_ (Ext.refl _) rfl
            simp [execOp, Act.eval, h62, go_sem]
          | (j + 24), ho => exact absurd ho (by simp)
        · intro tmps w6 hle hs hfr hty
          have h7 : tmps[7]?.getD undef = .bool true := hty 18 7 rfl
          have h8 : tmps[8]?.getD undef = .bool false := hty 19 8 rfl
          have h9 : tmps[9]?.getD undef = .bool false := hty 20 9 rfl
          have h10 : tmps[10]?.getD undef = .bool true := hty 21 10 rfl
          have h11 : tmps[11]?.getD undef = .bool false := hty 22 11 rfl
          have h12 : tmps[12]?.getD undef = .bool true := hty 23 12 rfl
          have hfe := frame_eq [7, 8, 9, 10, 11, 12, 45, 46, 47, 48, 49, 50, 51, 52, 53, 54, 55, 56, 57, 58, 59, 60, 61, 62] hs hfr (by kernel_rfl)
          rw [hfe]
          clear hfe hfr hs hty
          simp only [List.foldl_cons, List.foldl_nil]
          generalize tmps[45]?.getD undef = x45
          generalize tmps[46]?.getD undef = x46
          generalize tmps[47]?.getD undef = x47
          generalize tmps[48]?.getD undef = x48
          generalize tmps[49]?.getD undef = x49
          generalize tmps[50]?.getD undef = x50
          generalize tmps[51]?.getD undef = x51
          generalize tmps[52]?.getD undef = x52
          generalize tmps[53]?.getD undef = x53
          generalize tmps[54]?.getD undef = x54
          generalize tmps[55]?.getD undef = x55
          generalize tmps[56]?.getD undef = x56
          generalize tmps[57]?.getD undef = x57
          generalize tmps[58]?.getD undef = x58
          generalize tmps[59]?.getD undef = x59
          generalize tmps[60]?.getD undef = x60
          generalize tmps[61]?.getD undef = x61
          generalize tmps[62]?.getD undef = x62
          rw [h7, h8, h9, h10, h11, h12]
          clear h7 h8 h9 h10 h11 h12
          simp only [List.setIfInBounds_toArray, List.set_cons_succ, List.set_cons_zero]
          replace HX := hid (HX.out.trans hle)
          replace H5 := hid (hle.block H5.out)
          replace H6 := hid (hle.block H6.out)
          clear hle a0 a1 a2 a3 az b0 b1 b2 b3 bz
          obtain ⟨⟨a0, a1, a2, a3⟩, _, az⟩ := box4 H5.out
          obtain ⟨⟨b0, b1, b2, b3⟩, _, bz⟩ := box4 H6.out
          go_wp2_with (first | ((with_reducible show Calls _ 11 #[.int .u8 1, .agg #[.int .u8 (l : Int), .int .i64 m, .int .u64 (c : Int), .string u], .agg #[.int .u8 (k : Int), .int .i64 n, .int .u64 (b : Int), .string t]] _ _); refine (R1.out _).mono ?_; rintro e w9 ⟨rfl, hx⟩; (first | replace HX := hid (HX.out.trans hx) | replace HX := hid ((HX.out.then_alloc _).trans hx)); replace H5 := hid (hx.block H5.out); replace H6 := hid (hx.block H6.out); clear hx a0 a1 a2 a3 az b0 b1 b2 b3 bz; obtain ⟨⟨a0, a1, a2, a3⟩, _, az⟩ := box4 H5.out; obtain ⟨⟨b0, b1, b2, b3⟩, _, bz⟩ := box4 H6.out) | ((with_reducible show Calls _ 11 #[.int .u8 5, .agg #[.int .u8 (l : Int), .int .i64 m, .int .u64 (c : Int), .string u], .agg #[.int .u8 (k : Int), .int .i64 n, .int .u64 (b : Int), .string t]] _ _); refine (R5.out _).mono ?_; rintro e w9 ⟨rfl, hx⟩; (first | replace HX := hid (HX.out.trans hx) | replace HX := hid ((HX.out.then_alloc _).trans hx)); replace H5 := hid (hx.block H5.out); replace H6 := hid (hx.block H6.out); clear hx a0 a1 a2 a3 az b0 b1 b2 b3 bz; obtain ⟨⟨a0, a1, a2, a3⟩, _, az⟩ := box4 H5.out; obtain ⟨⟨b0, b1, b2, b3⟩, _, bz⟩ := box4 H6.out) | ((with_reducible show Calls _ 11 #[.int .u8 6, .agg #[.int .u8 (l : Int), .int .i64 m, .int .u64 (c : Int), .string u], .agg #[.int .u8 (k : Int), .int .i64 n, .int .u64 (b : Int), .string t]] _ _); refine (R6.out _).mono ?_; rintro e w9 ⟨rfl, hx⟩; (first | replace HX := hid (HX.out.trans hx) | replace HX := hid ((HX.out.then_alloc _).trans hx)); replace H5 := hid (hx.block H5.out); replace H6 := hid (hx.block H6.out); clear hx a0 a1 a2 a3 az b0 b1 b2 b3 bz; obtain ⟨⟨a0, a1, a2, a3⟩, _, az⟩ := box4 H5.out; obtain ⟨⟨b0, b1, b2, b3⟩, _, bz⟩ := box4 H6.out) | ((with_reducible show Calls _ 21 #[_, _, _] _ _); refine (KF.out _).mono ?_; rintro e w9 ⟨rfl, hx⟩; (first | replace HX := hid (HX.out.trans hx) | replace HX := hid ((HX.out.then_alloc _).trans hx)); replace H5 := hid (hx.block H5.out); replace H6 := hid (hx.block H6.out); clear hx a0 a1 a2 a3 az b0 b1 b2 b3 bz; obtain ⟨⟨a0, a1, a2, a3⟩, _, az⟩ := box4 H5.out; obtain ⟨⟨b0, b1, b2, b3⟩, _, bz⟩ := box4 H6.out) | ((with_reducible show Calls _ 26 #[.int .u64 (b : Int)] _ _); refine (kb.out _).mono ?_; rintro e w9 ⟨rfl, hx⟩; (first | replace HX := hid (HX.out.trans hx) | replace HX := hid ((HX.out.then_alloc _).trans hx)); replace H5 := hid (hx.block H5.out); replace H6 := hid (hx.block H6.out); clear hx a0 a1 a2 a3 az b0 b1 b2 b3 bz; obtain ⟨⟨a0, a1, a2, a3⟩, _, az⟩ := box4 H5.out; obtain ⟨⟨b0, b1, b2, b3⟩, _, bz⟩ := box4 H6.out) | ((with_reducible show Calls _ 26 #[.int .u64 (c : Int)] _ _); refine (kc.out _).mono ?_; rintro e w9 ⟨rfl, hx⟩; (first | replace HX := hid (HX.out.trans hx) | replace HX := hid ((HX.out.then_alloc _).trans hx)); replace H5 := hid (hx.block H5.out); replace H6 := hid (hx.block H6.out); clear hx a0 a1 a2 a3 az b0 b1 b2 b3 bz; obtain ⟨⟨a0, a1, a2, a3⟩, _, az⟩ := box4 H5.out; obtain ⟨⟨b0, b1, b2, b3⟩, _, bz⟩ := box4 H6.out) | ((with_reducible show Calls _ 10 #[] _ _); refine (awake5_any _).mono ?_; rintro e w9 ⟨rfl, hx⟩; (first | replace HX := hid (HX.out.trans hx) | replace HX := hid ((HX.out.then_alloc _).trans hx)); replace H5 := hid (hx.block H5.out); replace H6 := hid (hx.block H6.out); clear hx a0 a1 a2 a3 az b0 b1 b2 b3 bz; obtain ⟨⟨a0, a1, a2, a3⟩, _, az⟩ := box4 H5.out; obtain ⟨⟨b0, b1, b2, b3⟩, _, bz⟩ := box4 H6.out))
          go_ret
          exact ⟨rfl, HX.out⟩

set_option maxRecDepth 100000 in
set_option maxHeartbeats 4000000 in
theorem cone_more (k : Nat) (n : Int) (b : Nat) (t : ByteArray) (l : Nat) (m : Int) (c : Nat) (u : ByteArray) (w : World) (hk : k ≤ 255) (hl : l ≤ 255) (hn0 : -9223372036854775808 ≤ n) (hn1 : n ≤ 9223372036854775807) (hm0 : -9223372036854775808 ≤ m) (hm1 : m ≤ 9223372036854775807) (hb : b ≤ 18446744073709551615) (hc : c ≤ 18446744073709551615) (ht : t.size ≤ 9223372036854775807) (hu : u.size ≤ 9223372036854775807) (e1 : checkV k n b t = 0) (e2 : checkV l m c u = 0) (h1 : ∀ W, Calls Try.prog 11 #[.int .u8 1, .agg #[.int .u8 (k : Int), .int .i64 n, .int .u64 (b : Int), .string t], .agg #[.int .u8 (l : Int), .int .i64 m, .int .u64 (c : Int), .string u]] W (fun e w' => e = .returned (.bool false) ∧ Ext W w')) (h2 : ∀ W, Calls Try.prog 11 #[.int .u8 2, .agg #[.int .u8 (k : Int), .int .i64 n, .int .u64 (b : Int), .string t], .agg #[.int .u8 (l : Int), .int .i64 m, .int .u64 (c : Int), .string u]] W (fun e w' => e = .returned (.bool true) ∧ Ext W w')) (h3 : ∀ W, Calls Try.prog 11 #[.int .u8 3, .agg #[.int .u8 (k : Int), .int .i64 n, .int .u64 (b : Int), .string t], .agg #[.int .u8 (l : Int), .int .i64 m, .int .u64 (c : Int), .string u]] W (fun e w' => e = .returned (.bool false) ∧ Ext W w')) (h4 : ∀ W, Calls Try.prog 11 #[.int .u8 4, .agg #[.int .u8 (k : Int), .int .i64 n, .int .u64 (b : Int), .string t], .agg #[.int .u8 (l : Int), .int .i64 m, .int .u64 (c : Int), .string u]] W (fun e w' => e = .returned (.bool false) ∧ Ext W w')) (h5 : ∀ W, Calls Try.prog 11 #[.int .u8 5, .agg #[.int .u8 (k : Int), .int .i64 n, .int .u64 (b : Int), .string t], .agg #[.int .u8 (l : Int), .int .i64 m, .int .u64 (c : Int), .string u]] W (fun e w' => e = .returned (.bool true) ∧ Ext W w')) (h6 : ∀ W, Calls Try.prog 11 #[.int .u8 6, .agg #[.int .u8 (k : Int), .int .i64 n, .int .u64 (b : Int), .string t], .agg #[.int .u8 (l : Int), .int .i64 m, .int .u64 (c : Int), .string u]] W (fun e w' => e = .returned (.bool true) ∧ Ext W w')) (r1 : ∀ W, Calls Try.prog 11 #[.int .u8 1, .agg #[.int .u8 (l : Int), .int .i64 m, .int .u64 (c : Int), .string u], .agg #[.int .u8 (k : Int), .int .i64 n, .int .u64 (b : Int), .string t]] W (fun e w' => e = .returned (.bool false) ∧ Ext W w')) (r5 : ∀ W, Calls Try.prog 11 #[.int .u8 5, .agg #[.int .u8 (l : Int), .int .i64 m, .int .u64 (c : Int), .string u], .agg #[.int .u8 (k : Int), .int .i64 n, .int .u64 (b : Int), .string t]] W (fun e w' => e = .returned (.bool false) ∧ Ext W w')) (r6 : ∀ W, Calls Try.prog 11 #[.int .u8 6, .agg #[.int .u8 (l : Int), .int .i64 m, .int .u64 (c : Int), .string u], .agg #[.int .u8 (k : Int), .int .i64 n, .int .u64 (b : Int), .string t]] W (fun e w' => e = .returned (.bool false) ∧ Ext W w')) (hf : ∀ W, Calls Try.prog 21 #[.int .u8 3, .int .u8 (k : Int), .int .u8 (l : Int)] W (fun e w' => e = .returned (.bool true) ∧ Ext W w')) (hkb : kindZ b ≠ 5) (hkc : kindZ c ≠ 5) : Calls Try.prog 6 #[.agg #[.int .u8 (k : Int), .int .i64 n, .int .u64 (b : Int), .string t], .agg #[.int .u8 (l : Int), .int .i64 m, .int .u64 (c : Int), .string u]] w (Says w (.bool true)) := by
  have ck1 : Hid (∀ W, Calls Try.prog 25 #[.agg #[.int .u8 (k : Int), .int .i64 n, .int .u64 (b : Int), .string t]] W (fun e w' => e = .returned (.int .i64 0) ∧ Ext W w')) := fun W => by have h := vcheck_any k n b t W hk hn0 hn1 hb ht; rw [e1] at h; exact h
  have ck2 : Hid (∀ W, Calls Try.prog 25 #[.agg #[.int .u8 (l : Int), .int .i64 m, .int .u64 (c : Int), .string u]] W (fun e w' => e = .returned (.int .i64 0) ∧ Ext W w')) := fun W => by have h := vcheck_any l m c u W hl hm0 hm1 hc hu; rw [e2] at h; exact h
  have K1 := hid h1
  have K2 := hid h2
  have K3 := hid h3
  have K4 := hid h4
  have K5 := hid h5
  have K6 := hid h6
  have R1 := hid r1
  have R5 := hid r5
  have R6 := hid r6
  have KF := hid hf
  have kb : Hid (∀ W, Calls Try.prog 26 #[.int .u64 (b : Int)] W (fun e w' => e = .returned (.int .u8 (kindZ b : Int)) ∧ Ext W w')) := fun W => (kind_just b W hb).mono fun e w' h => ⟨h.1, h.says.2⟩
  have nb : ((kindZ b : Int) == 5) = false := beq_eq_false_iff_ne.2 (by omega)
  have kc : Hid (∀ W, Calls Try.prog 26 #[.int .u64 (c : Int)] W (fun e w' => e = .returned (.int .u8 (kindZ c : Int)) ∧ Ext W w')) := fun W => (kind_just c W hc).mono fun e w' h => ⟨h.1, h.says.2⟩
  have nc : ((kindZ c : Int) == 5) = false := beq_eq_false_iff_ne.2 (by omega)
  clear h1 h2 h3 h4 h5 h6 r1 r5 r6 hf e1 e2 hn0 hn1 hm0 hm1 hk hl hb hc hkb hkc
  have s1 := fun W => small_any k n b t W ht
  have s2 := fun W => small_any l m c u W hu
  go_enter Try.func6, Try.ntmps6
  go_wp2_with fail
  refine (s1 _).mono ?_
  rintro e w1 ⟨rfl, hx⟩
  have HV := hid (hx.block (heap_alloc2_old w _ _))
  have HW := hid (hx.block (heap_alloc2_new w _ _))
  have HX := hid (((Ext.alloc w _).then_alloc _).trans hx)
  clear hx
  obtain ⟨⟨a0, a1, a2, a3⟩, _, az⟩ := box4 HV.out
  obtain ⟨⟨b0, b1, b2, b3⟩, _, bz⟩ := box4 HW.out
  by_cases h1 : 100 < t.size
  · have h1' : 0 < max 0 ((t.size : Int) - 100) := by omega
    generalize max 0 ((t.size : Int) - 100) = S1 at *
    go_wp2_with fail
    refine (awake5_any _).mono ?_
    rintro e w9 ⟨rfl, hx⟩
    go_wp2_with fail
    go_ret
    exact ⟨rfl, HX.out.trans hx⟩
  · have h1' : max 0 ((t.size : Int) - 100) = 0 := by omega
    rw [h1'] at *
    go_wp2_with fail
    refine (s2 _).mono ?_
    rintro e w2 ⟨rfl, hx⟩
    replace HV := hid (hx.block HV.out)
    replace HW := hid (hx.block HW.out)
    replace HX := hid (HX.out.trans hx)
    clear hx a0 a1 a2 a3 az b0 b1 b2 b3 bz
    obtain ⟨⟨a0, a1, a2, a3⟩, _, az⟩ := box4 HV.out
    obtain ⟨⟨b0, b1, b2, b3⟩, _, bz⟩ := box4 HW.out
    by_cases h2 : 100 < u.size
    · have h2' : 0 < max 0 ((u.size : Int) - 100) := by omega
      generalize max 0 ((u.size : Int) - 100) = S2 at *
      go_wp2_with fail
      refine (awake5_any _).mono ?_
      rintro e w9 ⟨rfl, hx⟩
      go_wp2_with fail
      go_ret
      exact ⟨rfl, HX.out.trans hx⟩
    · have h2' : max 0 ((u.size : Int) - 100) = 0 := by omega
      rw [h2'] at *
      clear h1 h2 h1' h2' s1 s2
      have hd0 : ¬ w.heap.size = w2.heap.size := by omega
      have hd1 : ¬ w.heap.size = w2.heap.size + 1 := by omega
      have hd2 : ¬ w.heap.size + 1 = w2.heap.size := by omega
      have hd3 : ¬ w.heap.size + 1 = w2.heap.size + 1 := by omega
      have hz1 : w.heap.size < w2.heap.size + 1 := by omega
      have hz2 : w.heap.size < w2.heap.size + 1 + 1 := by omega
      have hz3 : w.heap.size + 1 < w2.heap.size + 1 := by omega
      have hz4 : w.heap.size + 1 < w2.heap.size + 1 + 1 := by omega
      have hz5 : w.heap.size < w2.heap.size + 2 := by omega
      have hz6 : w.heap.size + 1 < w2.heap.size + 2 := by omega
      go_upto_region 3 with fail
      go_cut [5, 6] from 22 to 174 (fun x y wx => ∃ g5 g6, x = .pointer (some ⟨g5, 0, none⟩) ∧ y = .pointer (some ⟨g6, 0, none⟩) ∧ Hid (wx.heap[g5]? = some (.cells #[.int .u8 (k : Int), .int .i64 n, .int .u64 (b : Int), .string t] 28 (0, 0))) ∧ Hid (wx.heap[g6]? = some (.cells #[.int .u8 (l : Int), .int .i64 m, .int .u64 (c : Int), .string u] 28 (0, 0))) ∧ Ext w2 wx)
      case first =>
        go_region
        all_goals (go_wp2_with fail)
        all_goals go_meet
        all_goals
          obtain ⟨q1, q2, q3⟩ := blocks2d w2 _ _
          exact ⟨_, _, rfl, rfl, (by first | exact q1 | exact q2), (by first | exact q1 | exact q2), q3⟩
      case rest =>
        obtain ⟨g5, g6, rfl, rfl, H5, H6, hx⟩ := hcut
        replace HX := hid (HX.out.trans hx)
        clear hx HV HW a0 a1 a2 a3 az b0 b1 b2 b3 bz hd0 hd1 hd2 hd3 hz1 hz2 hz3 hz4 hz5 hz6
        obtain ⟨⟨a0, a1, a2, a3⟩, _, az⟩ := box4 H5.out
        obtain ⟨⟨b0, b1, b2, b3⟩, _, bz⟩ := box4 H6.out
        go_wp2_with (first | ((with_reducible show Calls _ 25 #[.agg #[.int .u8 (k : Int), .int .i64 n, .int .u64 (b : Int), .string t]] _ _); refine (ck1.out _).mono ?_; rintro e w9 ⟨rfl, hx⟩; (first | replace HX := hid (HX.out.trans hx) | replace HX := hid ((HX.out.then_alloc _).trans hx)); replace H5 := hid (hx.block H5.out); replace H6 := hid (hx.block H6.out); clear hx a0 a1 a2 a3 az b0 b1 b2 b3 bz; obtain ⟨⟨a0, a1, a2, a3⟩, _, az⟩ := box4 H5.out; obtain ⟨⟨b0, b1, b2, b3⟩, _, bz⟩ := box4 H6.out) | ((with_reducible show Calls _ 25 #[.agg #[.int .u8 (l : Int), .int .i64 m, .int .u64 (c : Int), .string u]] _ _); refine (ck2.out _).mono ?_; rintro e w9 ⟨rfl, hx⟩; (first | replace HX := hid (HX.out.trans hx) | replace HX := hid ((HX.out.then_alloc _).trans hx)); replace H5 := hid (hx.block H5.out); replace H6 := hid (hx.block H6.out); clear hx a0 a1 a2 a3 az b0 b1 b2 b3 bz; obtain ⟨⟨a0, a1, a2, a3⟩, _, az⟩ := box4 H5.out; obtain ⟨⟨b0, b1, b2, b3⟩, _, bz⟩ := box4 H6.out))
        refine wp_region_slots Ext (coneG k n b t l m c u g5 g6 false true false false true true) (by kernel_rfl) Ext.trans Ext.refl (Ext.drew _) (coneG_st _ _ _ _ _ _ _ _ _ _ _ _ _ _ _ _) (by kernel_rfl) ?_ ?_
        · intro tmps wr hle hfr j o9 ho hty
          have h5 : tmps[5]?.getD undef = .pointer (some ⟨g5, 0, none⟩) := hfr 5 (by kernel_rfl)
          have h6 : tmps[6]?.getD undef = .pointer (some ⟨g6, 0, none⟩) := hfr 6 (by kernel_rfl)
          obtain ⟨⟨a0, a1, a2, a3⟩, _, _⟩ := box4 (hle.block H5.out)
          obtain ⟨⟨b0, b1, b2, b3⟩, _, _⟩ := box4 (hle.block H6.out)
          clear hfr
          match j, ho with
          | 0, ho =>
            obtain rfl := (Option.some.inj ho)
            clear hty ho
            refine step_pure (.agg #[.int .u8 (k : Int), .int .i64 n, .int .u64 (b : Int), .string t]) (wanted_free rfl) ?_ (Ext.refl _) rfl
            simp [execOp, Act.eval, h5, a0, a1, a2, a3, go_sem]
          | 1, ho =>
            obtain rfl := (Option.some.inj ho)
            clear hty ho
            refine step_pure (.agg #[.int .u8 (l : Int), .int .i64 m, .int .u64 (c : Int), .string u]) (wanted_free rfl) ?_ (Ext.refl _) rfl
            simp [execOp, Act.eval, h6, b0, b1, b2, b3, go_sem]
          | 2, ho =>
            have h45 : tmps[45]?.getD undef = .agg #[.int .u8 (k : Int), .int .i64 n, .int .u64 (b : Int), .string t] := hty 0 45 rfl (by obtain rfl := (Option.some.inj ho); rfl)
            have h46 : tmps[46]?.getD undef = .agg #[.int .u8 (l : Int), .int .i64 m, .int .u64 (c : Int), .string u] := hty 1 46 rfl (by obtain rfl := (Option.some.inj ho); rfl)
            obtain rfl := (Option.some.inj ho)
            clear hty ho
            refine step_call 11 #[.int .u8 1, .agg #[.int .u8 (k : Int), .int .i64 n, .int .u64 (b : Int), .string t], .agg #[.int .u8 (l : Int), .int .i64 m, .int .u64 (c : Int), .string u]] (wanted_free rfl) ?_ ?_
            · simp [execOp, Act.eval, h45, h46, go_sem]
            · exact (K1.out _).mono fun e w' h => ⟨_, h.1, h.2, rfl⟩
          | 3, ho =>
            obtain rfl := (Option.some.inj ho)
            clear hty ho
            refine step_pure (.agg #[.int .u8 (k : Int), .int .i64 n, .int .u64 (b : Int), .string t]) (wanted_free rfl) ?_ (Ext.refl _) rfl
            simp [execOp, Act.eval, h5, a0, a1, a2, a3, go_sem]
          | 4, ho =>
            obtain rfl := (Option.some.inj ho)
            clear hty ho
            refine step_pure (.agg #[.int .u8 (l : Int), .int .i64 m, .int .u64 (c : Int), .string u]) (wanted_free rfl) ?_ (Ext.refl _) rfl
            simp [execOp, Act.eval, h6, b0, b1, b2, b3, go_sem]
          | 5, ho =>
            have h48 : tmps[48]?.getD undef = .agg #[.int .u8 (k : Int), .int .i64 n, .int .u64 (b : Int), .string t] := hty 3 48 rfl (by obtain rfl := (Option.some.inj ho); rfl)
            have h49 : tmps[49]?.getD undef = .agg #[.int .u8 (l : Int), .int .i64 m, .int .u64 (c : Int), .string u] := hty 4 49 rfl (by obtain rfl := (Option.some.inj ho); rfl)
            obtain rfl := (Option.some.inj ho)
            clear hty ho
            refine step_call 11 #[.int .u8 2, .agg #[.int .u8 (k : Int), .int .i64 n, .int .u64 (b : Int), .string t], .agg #[.int .u8 (l : Int), .int .i64 m, .int .u64 (c : Int), .string u]] (wanted_free rfl) ?_ ?_
            · simp [execOp, Act.eval, h48, h49, go_sem]
            · exact (K2.out _).mono fun e w' h => ⟨_, h.1, h.2, rfl⟩
          | 6, ho =>
            obtain rfl := (Option.some.inj ho)
            clear hty ho
            refine step_pure (.agg #[.int .u8 (k : Int), .int .i64 n, .int .u64 (b : Int), .string t]) (wanted_free rfl) ?_ (Ext.refl _) rfl
            simp [execOp, Act.eval, h5, a0, a1, a2, a3, go_sem]
          | 7, ho =>
            obtain rfl := (Option.some.inj ho)
            clear hty ho
            refine step_pure (.agg #[.int .u8 (l : Int), .int .i64 m, .int .u64 (c : Int), .string u]) (wanted_free rfl) ?_ (Ext.refl _) rfl
            simp [execOp, Act.eval, h6, b0, b1, b2, b3, go_sem]
          | 8, ho =>
            have h51 : tmps[51]?.getD undef = .agg #[.int .u8 (k : Int), .int .i64 n, .int .u64 (b : Int), .string t] := hty 6 51 rfl (by obtain rfl := (Option.some.inj ho); rfl)
            have h52 : tmps[52]?.getD undef = .agg #[.int .u8 (l : Int), .int .i64 m, .int .u64 (c : Int), .string u] := hty 7 52 rfl (by obtain rfl := (Option.some.inj ho); rfl)
            obtain rfl := (Option.some.inj ho)
            clear hty ho
            refine step_call 11 #[.int .u8 3, .agg #[.int .u8 (k : Int), .int .i64 n, .int .u64 (b : Int), .string t], .agg #[.int .u8 (l : Int), .int .i64 m, .int .u64 (c : Int), .string u]] (wanted_free rfl) ?_ ?_
            · simp [execOp, Act.eval, h51, h52, go_sem]
            · exact (K3.out _).mono fun e w' h => ⟨_, h.1, h.2, rfl⟩
          | 9, ho =>
            obtain rfl := (Option.some.inj ho)
            clear hty ho
            refine step_pure (.agg #[.int .u8 (k : Int), .int .i64 n, .int .u64 (b : Int), .string t]) (wanted_free rfl) ?_ (Ext.refl _) rfl
            simp [execOp, Act.eval, h5, a0, a1, a2, a3, go_sem]
          | 10, ho =>
            obtain rfl := (Option.some.inj ho)
            clear hty ho
            refine step_pure (.agg #[.int .u8 (l : Int), .int .i64 m, .int .u64 (c : Int), .string u]) (wanted_free rfl) ?_ (Ext.refl _) rfl
            simp [execOp, Act.eval, h6, b0, b1, b2, b3, go_sem]
          | 11, ho =>
            have h54 : tmps[54]?.getD undef = .agg #[.int .u8 (k : Int), .int .i64 n, .int .u64 (b : Int), .string t] := hty 9 54 rfl (by obtain rfl := (Option.some.inj ho); rfl)
            have h55 : tmps[55]?.getD undef = .agg #[.int .u8 (l : Int), .int .i64 m, .int .u64 (c : Int), .string u] := hty 10 55 rfl (by obtain rfl := (Option.some.inj ho); rfl)
            obtain rfl := (Option.some.inj ho)
            clear hty ho
            refine step_call 11 #[.int .u8 4, .agg #[.int .u8 (k : Int), .int .i64 n, .int .u64 (b : Int), .string t], .agg #[.int .u8 (l : Int), .int .i64 m, .int .u64 (c : Int), .string u]] (wanted_free rfl) ?_ ?_
            · simp [execOp, Act.eval, h54, h55, go_sem]
            · exact (K4.out _).mono fun e w' h => ⟨_, h.1, h.2, rfl⟩
          | 12, ho =>
            obtain rfl := (Option.some.inj ho)
            clear hty ho
            refine step_pure (.agg #[.int .u8 (k : Int), .int .i64 n, .int .u64 (b : Int), .string t]) (wanted_free rfl) ?_ (Ext.refl _) rfl
            simp [execOp, Act.eval, h5, a0, a1, a2, a3, go_sem]
          | 13, ho =>
            obtain rfl := (Option.some.inj ho)
            clear hty ho
            refine step_pure (.agg #[.int .u8 (l : Int), .int .i64 m, .int .u64 (c : Int), .string u]) (wanted_free rfl) ?_ (Ext.refl _) rfl
            simp [execOp, Act.eval, h6, b0, b1, b2, b3, go_sem]
          | 14, ho =>
            have h57 : tmps[57]?.getD undef = .agg #[.int .u8 (k : Int), .int .i64 n, .int .u64 (b : Int), .string t] := hty 12 57 rfl (by obtain rfl := (Option.some.inj ho); rfl)
            have h58 : tmps[58]?.getD undef = .agg #[.int .u8 (l : Int), .int .i64 m, .int .u64 (c : Int), .string u] := hty 13 58 rfl (by obtain rfl := (Option.some.inj ho); rfl)
            obtain rfl := (Option.some.inj ho)
            clear hty ho
            refine step_call 11 #[.int .u8 5, .agg #[.int .u8 (k : Int), .int .i64 n, .int .u64 (b : Int), .string t], .agg #[.int .u8 (l : Int), .int .i64 m, .int .u64 (c : Int), .string u]] (wanted_free rfl) ?_ ?_
            · simp [execOp, Act.eval, h57, h58, go_sem]
            · exact (K5.out _).mono fun e w' h => ⟨_, h.1, h.2, rfl⟩
          | 15, ho =>
            obtain rfl := (Option.some.inj ho)
            clear hty ho
            refine step_pure (.agg #[.int .u8 (k : Int), .int .i64 n, .int .u64 (b : Int), .string t]) (wanted_free rfl) ?_ (Ext.refl _) rfl
            simp [execOp, Act.eval, h5, a0, a1, a2, a3, go_sem]
          | 16, ho =>
            obtain rfl := (Option.some.inj ho)
            clear hty ho
            refine step_pure (.agg #[.int .u8 (l : Int), .int .i64 m, .int .u64 (c : Int), .string u]) (wanted_free rfl) ?_ (Ext.refl _) rfl
            simp [execOp, Act.eval, h6, b0, b1, b2, b3, go_sem]
          | 17, ho =>
            have h60 : tmps[60]?.getD undef = .agg #[.int .u8 (k : Int), .int .i64 n, .int .u64 (b : Int), .string t] := hty 15 60 rfl (by obtain rfl := (Option.some.inj ho); rfl)
            have h61 : tmps[61]?.getD undef = .agg #[.int .u8 (l : Int), .int .i64 m, .int .u64 (c : Int), .string u] := hty 16 61 rfl (by obtain rfl := (Option.some.inj ho); rfl)
            obtain rfl := (Option.some.inj ho)
            clear hty ho
            refine step_call 11 #[.int .u8 6, .agg #[.int .u8 (k : Int), .int .i64 n, .int .u64 (b : Int), .string t], .agg #[.int .u8 (l : Int), .int .i64 m, .int .u64 (c : Int), .string u]] (wanted_free rfl) ?_ ?_
            · simp [execOp, Act.eval, h60, h61, go_sem]
            · exact (K6.out _).mono fun e w' h => ⟨_, h.1, h.2, rfl⟩
          | 18, ho =>
            have h47 : tmps[47]?.getD undef = .bool false := hty 2 47 rfl (by obtain rfl := (Option.some.inj ho); rfl)
            obtain rfl := (Option.some.inj ho)
            clear hty ho
            refine step_pure (.bool false) (wanted_free rfl) ?_ (Ext.refl _) rfl
            simp [execOp, Act.eval, h47, go_sem]
          | 19, ho =>
            have h50 : tmps[50]?.getD undef = .bool true := hty 5 50 rfl (by obtain rfl := (Option.some.inj ho); rfl)
            obtain rfl := (Option.some.inj ho)
            clear hty ho
            refine step_pure (.bool true) (wanted_free rfl) ?_ (Ext.refl _) rfl
            simp [execOp, Act.eval, h50, go_sem]
          | 20, ho =>
            have h53 : tmps[53]?.getD undef = .bool false := hty 8 53 rfl (by obtain rfl := (Option.some.inj ho); rfl)
            obtain rfl := (Option.some.inj ho)
            clear hty ho
            refine step_pure (.bool false) (wanted_free rfl) ?_ (Ext.refl _) rfl
            simp [execOp, Act.eval, h53, go_sem]
          | 21, ho =>
            have h56 : tmps[56]?.getD undef = .bool false := hty 11 56 rfl (by obtain rfl := (Option.some.inj ho); rfl)
            obtain rfl := (Option.some.inj ho)
            clear hty ho
            refine step_pure (.bool false) (wanted_free rfl) ?_ (Ext.refl _) rfl
            simp [execOp, Act.eval, h56, go_sem]
          | 22, ho =>
            have h59 : tmps[59]?.getD undef = .bool true := hty 14 59 rfl (by obtain rfl := (Option.some.inj ho); rfl)
            obtain rfl := (Option.some.inj ho)
            clear hty ho
            refine step_pure (.bool true) (wanted_free rfl) ?_ (Ext.refl _) rfl
            simp [execOp, Act.eval, h59, go_sem]
          | 23, ho =>
            have h62 : tmps[62]?.getD undef = .bool true := hty 17 62 rfl (by obtain rfl := (Option.some.inj ho); rfl)
            obtain rfl := (Option.some.inj ho)
            clear hty ho
            refine step_pure (.bool true) (wanted_free rfl) ?_ (Ext.refl _) rfl
            simp [execOp, Act.eval, h62, go_sem]
          | (j + 24), ho => exact absurd ho (by simp)
        · intro tmps w6 hle hs hfr hty
          have h7 : tmps[7]?.getD undef = .bool false := hty 18 7 rfl
          have h8 : tmps[8]?.getD undef = .bool true := hty 19 8 rfl
          have h9 : tmps[9]?.getD undef = .bool false := hty 20 9 rfl
          have h10 : tmps[10]?.getD undef = .bool false := hty 21 10 rfl
          have h11 : tmps[11]?.getD undef = .bool true := hty 22 11 rfl
          have h12 : tmps[12]?.getD undef = .bool true := hty 23 12 rfl
          have hfe := frame_eq [7, 8, 9, 10, 11, 12, 45, 46, 47, 48, 49, 50, 51, 52, 53, 54, 55, 56, 57, 58, 59, 60, 61, 62] hs hfr (by kernel_rfl)
          rw [hfe]
          clear hfe hfr hs hty
          simp only [List.foldl_cons, List.foldl_nil]
          generalize tmps[45]?.getD undef = x45
          generalize tmps[46]?.getD undef = x46
          generalize tmps[47]?.getD undef = x47
          generalize tmps[48]?.getD undef = x48
          generalize tmps[49]?.getD undef = x49
          generalize tmps[50]?.getD undef = x50
          generalize tmps[51]?.getD undef = x51
          generalize tmps[52]?.getD undef = x52
          generalize tmps[53]?.getD undef = x53
          generalize tmps[54]?.getD undef = x54
          generalize tmps[55]?.getD undef = x55
          generalize tmps[56]?.getD undef = x56
          generalize tmps[57]?.getD undef = x57
          generalize tmps[58]?.getD undef = x58
          generalize tmps[59]?.getD undef = x59
          generalize tmps[60]?.getD undef = x60
          generalize tmps[61]?.getD undef = x61
          generalize tmps[62]?.getD undef = x62
          rw [h7, h8, h9, h10, h11, h12]
          clear h7 h8 h9 h10 h11 h12
          simp only [List.setIfInBounds_toArray, List.set_cons_succ, List.set_cons_zero]
          replace HX := hid (HX.out.trans hle)
          replace H5 := hid (hle.block H5.out)
          replace H6 := hid (hle.block H6.out)
          clear hle a0 a1 a2 a3 az b0 b1 b2 b3 bz
          obtain ⟨⟨a0, a1, a2, a3⟩, _, az⟩ := box4 H5.out
          obtain ⟨⟨b0, b1, b2, b3⟩, _, bz⟩ := box4 H6.out
          go_wp2_with (first | ((with_reducible show Calls _ 11 #[.int .u8 1, .agg #[.int .u8 (l : Int), .int .i64 m, .int .u64 (c : Int), .string u], .agg #[.int .u8 (k : Int), .int .i64 n, .int .u64 (b : Int), .string t]] _ _); refine (R1.out _).mono ?_; rintro e w9 ⟨rfl, hx⟩; (first | replace HX := hid (HX.out.trans hx) | replace HX := hid ((HX.out.then_alloc _).trans hx)); replace H5 := hid (hx.block H5.out); replace H6 := hid (hx.block H6.out); clear hx a0 a1 a2 a3 az b0 b1 b2 b3 bz; obtain ⟨⟨a0, a1, a2, a3⟩, _, az⟩ := box4 H5.out; obtain ⟨⟨b0, b1, b2, b3⟩, _, bz⟩ := box4 H6.out) | ((with_reducible show Calls _ 11 #[.int .u8 5, .agg #[.int .u8 (l : Int), .int .i64 m, .int .u64 (c : Int), .string u], .agg #[.int .u8 (k : Int), .int .i64 n, .int .u64 (b : Int), .string t]] _ _); refine (R5.out _).mono ?_; rintro e w9 ⟨rfl, hx⟩; (first | replace HX := hid (HX.out.trans hx) | replace HX := hid ((HX.out.then_alloc _).trans hx)); replace H5 := hid (hx.block H5.out); replace H6 := hid (hx.block H6.out); clear hx a0 a1 a2 a3 az b0 b1 b2 b3 bz; obtain ⟨⟨a0, a1, a2, a3⟩, _, az⟩ := box4 H5.out; obtain ⟨⟨b0, b1, b2, b3⟩, _, bz⟩ := box4 H6.out) | ((with_reducible show Calls _ 11 #[.int .u8 6, .agg #[.int .u8 (l : Int), .int .i64 m, .int .u64 (c : Int), .string u], .agg #[.int .u8 (k : Int), .int .i64 n, .int .u64 (b : Int), .string t]] _ _); refine (R6.out _).mono ?_; rintro e w9 ⟨rfl, hx⟩; (first | replace HX := hid (HX.out.trans hx) | replace HX := hid ((HX.out.then_alloc _).trans hx)); replace H5 := hid (hx.block H5.out); replace H6 := hid (hx.block H6.out); clear hx a0 a1 a2 a3 az b0 b1 b2 b3 bz; obtain ⟨⟨a0, a1, a2, a3⟩, _, az⟩ := box4 H5.out; obtain ⟨⟨b0, b1, b2, b3⟩, _, bz⟩ := box4 H6.out) | ((with_reducible show Calls _ 21 #[_, _, _] _ _); refine (KF.out _).mono ?_; rintro e w9 ⟨rfl, hx⟩; (first | replace HX := hid (HX.out.trans hx) | replace HX := hid ((HX.out.then_alloc _).trans hx)); replace H5 := hid (hx.block H5.out); replace H6 := hid (hx.block H6.out); clear hx a0 a1 a2 a3 az b0 b1 b2 b3 bz; obtain ⟨⟨a0, a1, a2, a3⟩, _, az⟩ := box4 H5.out; obtain ⟨⟨b0, b1, b2, b3⟩, _, bz⟩ := box4 H6.out) | ((with_reducible show Calls _ 26 #[.int .u64 (b : Int)] _ _); refine (kb.out _).mono ?_; rintro e w9 ⟨rfl, hx⟩; (first | replace HX := hid (HX.out.trans hx) | replace HX := hid ((HX.out.then_alloc _).trans hx)); replace H5 := hid (hx.block H5.out); replace H6 := hid (hx.block H6.out); clear hx a0 a1 a2 a3 az b0 b1 b2 b3 bz; obtain ⟨⟨a0, a1, a2, a3⟩, _, az⟩ := box4 H5.out; obtain ⟨⟨b0, b1, b2, b3⟩, _, bz⟩ := box4 H6.out) | ((with_reducible show Calls _ 26 #[.int .u64 (c : Int)] _ _); refine (kc.out _).mono ?_; rintro e w9 ⟨rfl, hx⟩; (first | replace HX := hid (HX.out.trans hx) | replace HX := hid ((HX.out.then_alloc _).trans hx)); replace H5 := hid (hx.block H5.out); replace H6 := hid (hx.block H6.out); clear hx a0 a1 a2 a3 az b0 b1 b2 b3 bz; obtain ⟨⟨a0, a1, a2, a3⟩, _, az⟩ := box4 H5.out; obtain ⟨⟨b0, b1, b2, b3⟩, _, bz⟩ := box4 H6.out) | ((with_reducible show Calls _ 10 #[] _ _); refine (awake5_any _).mono ?_; rintro e w9 ⟨rfl, hx⟩; (first | replace HX := hid (HX.out.trans hx) | replace HX := hid ((HX.out.then_alloc _).trans hx)); replace H5 := hid (hx.block H5.out); replace H6 := hid (hx.block H6.out); clear hx a0 a1 a2 a3 az b0 b1 b2 b3 bz; obtain ⟨⟨a0, a1, a2, a3⟩, _, az⟩ := box4 H5.out; obtain ⟨⟨b0, b1, b2, b3⟩, _, bz⟩ := box4 H6.out))
          go_ret
          exact ⟨rfl, HX.out⟩
end Go.Proofs.Ytaahaehgdamkdaa
