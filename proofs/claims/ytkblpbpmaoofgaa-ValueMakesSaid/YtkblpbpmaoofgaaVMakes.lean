/- ValueMakes: the walk. -/
import Derived.Test.YtkblpbpmaoofgaaVAwk
namespace Go.Proofs.Ytkblpbpmaoofgaa
open Go Go.RowKit

theorem made_int (n : Int) : checkV 1 (max (-4611686018427387904) (min 4611686018427387904 n)) 0 noText = 0 := by
  rw [check_int, if_neg (by omega), if_neg (fun h => by rcases h with h | h <;> exact h rfl)]
theorem made_flag (is : Bool) : checkV 2 (if is then 1 else 0) 0 noText = 0 := by cases is <;> decide +kernel
theorem made_real (b : Nat) : checkV 3 0 (cleanZ b) noText = 0 := by
  rw [check_real, if_neg (fun h => h (clean_clean b)), if_neg (fun h => by rcases h with h | h <;> exact h rfl)]
theorem made_text (s : ByteArray) : checkV 4 0 0 (s.extract 0 (min s.size 24)) = 0 := by
  have hx : (s.extract 0 (min s.size 24)).size ≤ 24 := by rw [ByteArray.size_extract]; omega
  rw [check_text, if_neg (by omega), if_neg (fun h => by rcases h with h | h <;> exact h rfl)]

/-- what the slots of the region hold -/
def vmakesG (n : Int) (is : Bool) (u : Nat) (s : ByteArray) (N : Int) (F : Int) (C : Nat) (T : ByteArray) : Nat → Value → World → Prop
  | 0, v, _ => v = vv 1 N 0 noText
  | 1, v, _ => v = .int .i64 n
  | 2, v, _ => v = vv 1 N 0 noText
  | 3, v, _ => v = .bool false
  | 4, v, _ => v = .bool false
  | 5, v, _ => v = vv 2 F 0 noText
  | 6, v, _ => v = .bool is
  | 7, v, _ => v = vv 2 F 0 noText
  | 8, v, _ => v = .bool false
  | 9, v, _ => v = .bool false
  | 10, v, _ => v = .bool false
  | 11, v, _ => v = vv 3 0 C noText
  | 12, v, _ => v = .int .u64 (u : Int)
  | 13, v, _ => v = vv 3 0 C noText
  | 14, v, _ => v = .bool false
  | 15, v, _ => v = .bool false
  | 16, v, _ => v = .bool false
  | 17, v, _ => v = vv 4 0 0 T
  | 18, v, _ => v = .string s
  | 19, v, _ => v = vv 4 0 0 T
  | 20, v, _ => v = .bool false
  | 21, v, _ => v = .bool false
  | _, _, _ => True
theorem vmakesG_st (n : Int) (is : Bool) (u : Nat) (s : ByteArray) (N : Int) (F : Int) (C : Nat) (T : ByteArray) : ∀ i9 z9 x9 y9, vmakesG n is u s N F C T i9 z9 x9 → Ext x9 y9 → vmakesG n is u s N F C T i9 z9 y9 := by
  intro i9 z9 x9 y9 h e
  unfold vmakesG at *
  split at h <;> first | exact h | exact Bytes.ext h e
set_option maxRecDepth 100000 in
set_option maxHeartbeats 4000000 in
theorem vmakes_any (n : Int) (u : Nat) (s : ByteArray) (w : World) (hn0 : -9223372036854775808 ≤ n) (hn1 : n ≤ 9223372036854775807) (hul : u ≤ 18446744073709551615) (hs : s.size ≤ 9223372036854775807) :
    Calls Try.prog 5 #[.int .i64 n, .int .u64 (u : Int), .string s] w (Says w (.bool true)) := by
  by_cases h : 100 < s.size
  · have h' : (100 : Int) < (s.size : Int) := by omega
    clear h
    go_enter Try.func5, Try.ntmps5
    go_wp2_with fail
    refine (awake_any _).mono ?_
    rintro e w1 ⟨rfl, hx⟩
    go_wp2_with fail
    go_ret
    exact ⟨rfl, hx⟩
  · have h' : (s.size : Int) ≤ 100 := by omega
    obtain ⟨is, his⟩ : ∃ is : Bool, (Int.tmod n 2 == 0) = is := ⟨_, rfl⟩
    obtain ⟨N, hN⟩ : ∃ N, max (-4611686018427387904) (min 4611686018427387904 n) = N := ⟨_, rfl⟩
    obtain ⟨F, hF⟩ : ∃ F : Int, (if is then 1 else 0 : Int) = F := ⟨_, rfl⟩
    obtain ⟨C, hC⟩ : ∃ C, cleanZ u = C := ⟨_, rfl⟩
    obtain ⟨T, hT⟩ : ∃ T, s.extract 0 (min s.size 24) = T := ⟨_, rfl⟩
    have k1 : ∀ W, Calls Try.prog 18 #[.int .i64 n] W (Says W (.agg #[.int .u8 1, .int .i64 N, .int .u64 0, .string ⟨#[]⟩])) := fun W => by rw [← hN]; exact vofint_any n W hn0 hn1
    have k2 : ∀ W, Calls Try.prog 19 #[.bool is] W (Says W (.agg #[.int .u8 2, .int .i64 F, .int .u64 0, .string ⟨#[]⟩])) := fun W => by rw [← hF]; exact vofflag_any is W
    have k3 : ∀ W, Calls Try.prog 20 #[.int .u64 (u : Int)] W (Says W (.agg #[.int .u8 3, .int .i64 0, .int .u64 (C : Int), .string ⟨#[]⟩])) := fun W => by rw [← hC]; exact vofreal_any u W hul
    have k4 : ∀ W, Calls Try.prog 21 #[.string s] W (Says W (.agg #[.int .u8 4, .int .i64 0, .int .u64 0, .string T])) := fun W => by rw [← hT]; exact voftext_any s W hs
    have HN := hid hN
    have HF := hid hF
    have HCC := hid hC
    have HT := hid hT
    have HIS := hid his
    clear hN hF hC hT h
    go_enter Try.func5, Try.ntmps5
    go_wp2_with fail
    refine (k1 _).mono ?_
    rintro e w1 ⟨rfl, hx⟩
    have HX := hid hx
    clear hx
    go_wp2_with fail
    refine (k2 _).mono ?_
    rintro e w2 ⟨rfl, hx⟩
    replace HX := hid (HX.out.trans hx)
    clear hx
    go_wp2_with fail
    refine (k3 _).mono ?_
    rintro e w3 ⟨rfl, hx⟩
    replace HX := hid (HX.out.trans hx)
    clear hx
    go_wp2_with fail
    refine (k4 _).mono ?_
    rintro e w4 ⟨rfl, hx⟩
    replace HX := hid (HX.out.trans hx)
    clear hx k1 k2 k3 k4
    go_wp2_with fail
    have HA := hid ((((Ext.alloc (w4.alloc (.cells #[.int .u8 1, .int .i64 N, .int .u64 0, .string ⟨#[]⟩] 31)) (.cells #[.int .u8 2, .int .i64 F, .int .u64 0, .string ⟨#[]⟩] 31)).then_alloc (.cells #[.int .u8 3, .int .i64 0, .int .u64 (C : Int), .string ⟨#[]⟩] 31)).then_alloc (.cells #[.int .u8 4, .int .i64 0, .int .u64 0, .string T] 31)).block (heap_alloc_new w4 (.cells #[.int .u8 1, .int .i64 N, .int .u64 0, .string ⟨#[]⟩] 31)))
    have HB := hid (((Ext.alloc ((w4.alloc (.cells #[.int .u8 1, .int .i64 N, .int .u64 0, .string ⟨#[]⟩] 31)).alloc (.cells #[.int .u8 2, .int .i64 F, .int .u64 0, .string ⟨#[]⟩] 31)) (.cells #[.int .u8 3, .int .i64 0, .int .u64 (C : Int), .string ⟨#[]⟩] 31)).then_alloc (.cells #[.int .u8 4, .int .i64 0, .int .u64 0, .string T] 31)).block (heap_alloc_new (w4.alloc (.cells #[.int .u8 1, .int .i64 N, .int .u64 0, .string ⟨#[]⟩] 31)) (.cells #[.int .u8 2, .int .i64 F, .int .u64 0, .string ⟨#[]⟩] 31)))
    have HC := hid ((Ext.alloc (((w4.alloc (.cells #[.int .u8 1, .int .i64 N, .int .u64 0, .string ⟨#[]⟩] 31)).alloc (.cells #[.int .u8 2, .int .i64 F, .int .u64 0, .string ⟨#[]⟩] 31)).alloc (.cells #[.int .u8 3, .int .i64 0, .int .u64 (C : Int), .string ⟨#[]⟩] 31)) (.cells #[.int .u8 4, .int .i64 0, .int .u64 0, .string T] 31)).block (heap_alloc_new ((w4.alloc (.cells #[.int .u8 1, .int .i64 N, .int .u64 0, .string ⟨#[]⟩] 31)).alloc (.cells #[.int .u8 2, .int .i64 F, .int .u64 0, .string ⟨#[]⟩] 31)) (.cells #[.int .u8 3, .int .i64 0, .int .u64 (C : Int), .string ⟨#[]⟩] 31)))
    have HD := hid (heap_alloc_new (((w4.alloc (.cells #[.int .u8 1, .int .i64 N, .int .u64 0, .string ⟨#[]⟩] 31)).alloc (.cells #[.int .u8 2, .int .i64 F, .int .u64 0, .string ⟨#[]⟩] 31)).alloc (.cells #[.int .u8 3, .int .i64 0, .int .u64 (C : Int), .string ⟨#[]⟩] 31)) (.cells #[.int .u8 4, .int .i64 0, .int .u64 0, .string T] 31))
    replace HX := hid ((((HX.out.then_alloc (.cells #[.int .u8 1, .int .i64 N, .int .u64 0, .string ⟨#[]⟩] 31)).then_alloc (.cells #[.int .u8 2, .int .i64 F, .int .u64 0, .string ⟨#[]⟩] 31)).then_alloc (.cells #[.int .u8 3, .int .i64 0, .int .u64 (C : Int), .string ⟨#[]⟩] 31)).then_alloc (.cells #[.int .u8 4, .int .i64 0, .int .u64 0, .string T] 31))
    have e1 : (w4.alloc (.cells #[.int .u8 1, .int .i64 N, .int .u64 0, .string ⟨#[]⟩] 31)).heap.size = w4.heap.size + 1 := by simp
    have e2 : ((w4.alloc (.cells #[.int .u8 1, .int .i64 N, .int .u64 0, .string ⟨#[]⟩] 31)).alloc (.cells #[.int .u8 2, .int .i64 F, .int .u64 0, .string ⟨#[]⟩] 31)).heap.size = w4.heap.size + 1 + 1 := by simp
    have e3 : (((w4.alloc (.cells #[.int .u8 1, .int .i64 N, .int .u64 0, .string ⟨#[]⟩] 31)).alloc (.cells #[.int .u8 2, .int .i64 F, .int .u64 0, .string ⟨#[]⟩] 31)).alloc (.cells #[.int .u8 3, .int .i64 0, .int .u64 (C : Int), .string ⟨#[]⟩] 31)).heap.size = w4.heap.size + 1 + 1 + 1 := by simp
    rw [e1] at HB
    rw [e2] at HC
    rw [e3] at HD
    clear e1 e2 e3
    refine wp_region_slots Ext (vmakesG n is u s N F C T) (by kernel_rfl) Ext.trans Ext.refl (Ext.drew _) (vmakesG_st _ _ _ _ _ _ _ _) (by kernel_rfl) ?_ ?_
    · intro tmps wr hle hfr j o ho hty
      have h0 : tmps[0]?.getD undef = .int .i64 n := hfr 0 (by kernel_rfl)
      have h1 : tmps[1]?.getD undef = .int .u64 (u : Int) := hfr 1 (by kernel_rfl)
      have h2 : tmps[2]?.getD undef = .string s := hfr 2 (by kernel_rfl)
      have h7 : tmps[7]?.getD undef = .bool is := hfr 7 (by kernel_rfl)
      have h8 : tmps[8]?.getD undef = .pointer (some ⟨w4.heap.size, 0, none⟩) := hfr 8 (by kernel_rfl)
      have h9 : tmps[9]?.getD undef = .pointer (some ⟨w4.heap.size + 1, 0, none⟩) := hfr 9 (by kernel_rfl)
      have h10 : tmps[10]?.getD undef = .pointer (some ⟨w4.heap.size + 1 + 1, 0, none⟩) := hfr 10 (by kernel_rfl)
      have h11 : tmps[11]?.getD undef = .pointer (some ⟨w4.heap.size + 1 + 1 + 1, 0, none⟩) := hfr 11 (by kernel_rfl)
      obtain ⟨⟨a0, a1, a2, a3⟩, _, _⟩ := box4 (hle.block HA.out)
      obtain ⟨⟨b0, b1, b2, b3⟩, _, _⟩ := box4 (hle.block HB.out)
      obtain ⟨⟨c0, c1, c2, c3⟩, _, _⟩ := box4 (hle.block HC.out)
      obtain ⟨⟨d0, d1, d2, d3⟩, _, _⟩ := box4 (hle.block HD.out)
      clear hfr
      match j, ho with
      | 0, ho =>
        obtain rfl := (Option.some.inj ho)
        clear hty ho
        refine step_pure (vv 1 N 0 noText) (wanted_free rfl) ?_ (Ext.refl _) rfl
        simp [execOp, Act.eval, h8, a0, a1, a2, a3, vv, noText, go_sem]
      | 1, ho =>
        obtain rfl := (Option.some.inj ho)
        clear hty ho
        refine step_pure (.int .i64 n) (wanted_free rfl) ?_ (Ext.refl _) rfl
        simp [execOp, Act.eval, h0, go_sem]
      | 2, ho =>
        have h28 : tmps[28]?.getD undef = .int .i64 n := hty 1 28 rfl (by obtain rfl := (Option.some.inj ho); rfl)
        obtain rfl := (Option.some.inj ho)
        clear hty ho
        refine step_call 22 #[.int .i64 n] (wanted_free rfl) ?_ ?_
        · simp [execOp, Act.eval, h28, go_sem]
        · exact (vrofint_any n _).mono fun e w' ⟨h1, h2⟩ => ⟨_, h1, h2, by rw [← HN.out]; rfl⟩
      | 3, ho =>
        have h27 : tmps[27]?.getD undef = vv 1 N 0 noText := hty 0 27 rfl (by obtain rfl := (Option.some.inj ho); rfl)
        have h29 : tmps[29]?.getD undef = vv 1 N 0 noText := hty 2 29 rfl (by obtain rfl := (Option.some.inj ho); rfl)
        obtain rfl := (Option.some.inj ho)
        clear hty ho
        refine step_pure (.bool false) (wanted_free rfl) ?_ (Ext.refl _) rfl
        simp [execOp, Act.eval, h27, h29, run_ne_ref, run_guard_ref, eqV_self, go_sem]
      | 4, ho =>
        have h30 : tmps[30]?.getD undef = .bool false := hty 3 30 rfl (by obtain rfl := (Option.some.inj ho); rfl)
        obtain rfl := (Option.some.inj ho)
        clear hty ho
        refine step_pure (.bool false) (wanted_free rfl) ?_ (Ext.refl _) rfl
        simp [execOp, Act.eval, h30, go_sem]
      | 5, ho =>
        have h31 : tmps[31]?.getD undef = .bool false := hty 4 31 rfl (by obtain rfl := (Option.some.inj ho); rfl)
        obtain rfl := (Option.some.inj ho)
        clear hty ho
        refine step_pure (vv 2 F 0 noText) (wanted_guard rfl rfl h31) ?_ (Ext.refl _) rfl
        simp [execOp, Act.eval, h9, b0, b1, b2, b3, vv, noText, go_sem]
      | 6, ho =>
        have h31 : tmps[31]?.getD undef = .bool false := hty 4 31 rfl (by obtain rfl := (Option.some.inj ho); rfl)
        obtain rfl := (Option.some.inj ho)
        clear hty ho
        refine step_pure (.bool is) (wanted_guard rfl rfl h31) ?_ (Ext.refl _) rfl
        simp [execOp, Act.eval, h7, go_sem]
      | 7, ho =>
        have h33 : tmps[33]?.getD undef = .bool is := hty 6 33 rfl (by obtain rfl := (Option.some.inj ho); rfl)
        have h31 : tmps[31]?.getD undef = .bool false := hty 4 31 rfl (by obtain rfl := (Option.some.inj ho); rfl)
        obtain rfl := (Option.some.inj ho)
        clear hty ho
        refine step_call 23 #[.bool is] (wanted_guard rfl rfl h31) ?_ ?_
        · simp [execOp, Act.eval, h33, go_sem]
        · exact (vrofflag_any is _).mono fun e w' ⟨h1, h2⟩ => ⟨_, h1, h2, by rw [← HF.out]; rfl⟩
      | 8, ho =>
        have h32 : tmps[32]?.getD undef = vv 2 F 0 noText := hty 5 32 rfl (by obtain rfl := (Option.some.inj ho); rfl)
        have h34 : tmps[34]?.getD undef = vv 2 F 0 noText := hty 7 34 rfl (by obtain rfl := (Option.some.inj ho); rfl)
        have h31 : tmps[31]?.getD undef = .bool false := hty 4 31 rfl (by obtain rfl := (Option.some.inj ho); rfl)
        obtain rfl := (Option.some.inj ho)
        clear hty ho
        refine step_pure (.bool false) (wanted_guard rfl rfl h31) ?_ (Ext.refl _) rfl
        simp [execOp, Act.eval, h32, h34, run_ne_ref, run_guard_ref, eqV_self, go_sem]
      | 9, ho =>
        have h31 : tmps[31]?.getD undef = .bool false := hty 4 31 rfl (by obtain rfl := (Option.some.inj ho); rfl)
        have h35 : tmps[35]?.getD undef = .bool false := hty 8 35 rfl (by obtain rfl := (Option.some.inj ho); rfl)
        obtain rfl := (Option.some.inj ho)
        clear hty ho
        refine step_pure (.bool false) (wanted_free rfl) ?_ (Ext.refl _) rfl
        simp [execOp, Act.eval, h31, h35, go_sem]
      | 10, ho =>
        have h36 : tmps[36]?.getD undef = .bool false := hty 9 36 rfl (by obtain rfl := (Option.some.inj ho); rfl)
        obtain rfl := (Option.some.inj ho)
        clear hty ho
        refine step_pure (.bool false) (wanted_free rfl) ?_ (Ext.refl _) rfl
        simp [execOp, Act.eval, h36, go_sem]
      | 11, ho =>
        have h37 : tmps[37]?.getD undef = .bool false := hty 10 37 rfl (by obtain rfl := (Option.some.inj ho); rfl)
        obtain rfl := (Option.some.inj ho)
        clear hty ho
        refine step_pure (vv 3 0 C noText) (wanted_guard rfl rfl h37) ?_ (Ext.refl _) rfl
        simp [execOp, Act.eval, h10, c0, c1, c2, c3, vv, noText, go_sem]
      | 12, ho =>
        have h37 : tmps[37]?.getD undef = .bool false := hty 10 37 rfl (by obtain rfl := (Option.some.inj ho); rfl)
        obtain rfl := (Option.some.inj ho)
        clear hty ho
        refine step_pure (.int .u64 (u : Int)) (wanted_guard rfl rfl h37) ?_ (Ext.refl _) rfl
        simp [execOp, Act.eval, h1, go_sem]
      | 13, ho =>
        have h39 : tmps[39]?.getD undef = .int .u64 (u : Int) := hty 12 39 rfl (by obtain rfl := (Option.some.inj ho); rfl)
        have h37 : tmps[37]?.getD undef = .bool false := hty 10 37 rfl (by obtain rfl := (Option.some.inj ho); rfl)
        obtain rfl := (Option.some.inj ho)
        clear hty ho
        refine step_call 24 #[.int .u64 (u : Int)] (wanted_guard rfl rfl h37) ?_ ?_
        · simp [execOp, Act.eval, h39, go_sem]
        · exact (vrofreal_any u _ hul).mono fun e w' ⟨h1, h2⟩ => ⟨_, h1, h2, by rw [← HCC.out]; rfl⟩
      | 14, ho =>
        have h38 : tmps[38]?.getD undef = vv 3 0 C noText := hty 11 38 rfl (by obtain rfl := (Option.some.inj ho); rfl)
        have h40 : tmps[40]?.getD undef = vv 3 0 C noText := hty 13 40 rfl (by obtain rfl := (Option.some.inj ho); rfl)
        have h37 : tmps[37]?.getD undef = .bool false := hty 10 37 rfl (by obtain rfl := (Option.some.inj ho); rfl)
        obtain rfl := (Option.some.inj ho)
        clear hty ho
        refine step_pure (.bool false) (wanted_guard rfl rfl h37) ?_ (Ext.refl _) rfl
        simp [execOp, Act.eval, h38, h40, run_ne_ref, run_guard_ref, eqV_self, go_sem]
      | 15, ho =>
        have h37 : tmps[37]?.getD undef = .bool false := hty 10 37 rfl (by obtain rfl := (Option.some.inj ho); rfl)
        have h41 : tmps[41]?.getD undef = .bool false := hty 14 41 rfl (by obtain rfl := (Option.some.inj ho); rfl)
        obtain rfl := (Option.some.inj ho)
        clear hty ho
        refine step_pure (.bool false) (wanted_free rfl) ?_ (Ext.refl _) rfl
        simp [execOp, Act.eval, h37, h41, go_sem]
      | 16, ho =>
        have h42 : tmps[42]?.getD undef = .bool false := hty 15 42 rfl (by obtain rfl := (Option.some.inj ho); rfl)
        obtain rfl := (Option.some.inj ho)
        clear hty ho
        refine step_pure (.bool false) (wanted_free rfl) ?_ (Ext.refl _) rfl
        simp [execOp, Act.eval, h42, go_sem]
      | 17, ho =>
        have h43 : tmps[43]?.getD undef = .bool false := hty 16 43 rfl (by obtain rfl := (Option.some.inj ho); rfl)
        obtain rfl := (Option.some.inj ho)
        clear hty ho
        refine step_pure (vv 4 0 0 T) (wanted_guard rfl rfl h43) ?_ (Ext.refl _) rfl
        simp [execOp, Act.eval, h11, d0, d1, d2, d3, vv, noText, go_sem]
      | 18, ho =>
        have h43 : tmps[43]?.getD undef = .bool false := hty 16 43 rfl (by obtain rfl := (Option.some.inj ho); rfl)
        obtain rfl := (Option.some.inj ho)
        clear hty ho
        refine step_pure (.string s) (wanted_guard rfl rfl h43) ?_ (Ext.refl _) rfl
        simp [execOp, Act.eval, h2, go_sem]
      | 19, ho =>
        have h45 : tmps[45]?.getD undef = .string s := hty 18 45 rfl (by obtain rfl := (Option.some.inj ho); rfl)
        have h43 : tmps[43]?.getD undef = .bool false := hty 16 43 rfl (by obtain rfl := (Option.some.inj ho); rfl)
        obtain rfl := (Option.some.inj ho)
        clear hty ho
        refine step_call 25 #[.string s] (wanted_guard rfl rfl h43) ?_ ?_
        · simp [execOp, Act.eval, h45, go_sem]
        · exact (vroftext_any s _ hs).mono fun e w' ⟨h1, h2⟩ => ⟨_, h1, h2, by rw [← HT.out]; rfl⟩
      | 20, ho =>
        have h44 : tmps[44]?.getD undef = vv 4 0 0 T := hty 17 44 rfl (by obtain rfl := (Option.some.inj ho); rfl)
        have h46 : tmps[46]?.getD undef = vv 4 0 0 T := hty 19 46 rfl (by obtain rfl := (Option.some.inj ho); rfl)
        have h43 : tmps[43]?.getD undef = .bool false := hty 16 43 rfl (by obtain rfl := (Option.some.inj ho); rfl)
        obtain rfl := (Option.some.inj ho)
        clear hty ho
        refine step_pure (.bool false) (wanted_guard rfl rfl h43) ?_ (Ext.refl _) rfl
        simp [execOp, Act.eval, h44, h46, run_ne_ref, run_guard_ref, eqV_self, go_sem]
      | 21, ho =>
        have h43 : tmps[43]?.getD undef = .bool false := hty 16 43 rfl (by obtain rfl := (Option.some.inj ho); rfl)
        have h47 : tmps[47]?.getD undef = .bool false := hty 20 47 rfl (by obtain rfl := (Option.some.inj ho); rfl)
        obtain rfl := (Option.some.inj ho)
        clear hty ho
        refine step_pure (.bool false) (wanted_free rfl) ?_ (Ext.refl _) rfl
        simp [execOp, Act.eval, h43, h47, go_sem]
      | (j + 22), ho => exact absurd ho (by simp)

    · intro tmps w5 hle hs5 hfr hty
      have h48 : tmps[48]?.getD undef = .bool false := hty 21 48 rfl
      have hfe := frame_eq [27, 28, 29, 30, 31, 32, 33, 34, 35, 36, 37, 38, 39, 40, 41, 42, 43, 44, 45, 46, 47, 48] hs5 hfr (by kernel_rfl)
      rw [hfe]
      clear hfe hfr hs5 hty
      simp only [List.foldl_cons, List.foldl_nil]
      generalize tmps[27]?.getD undef = x27
      generalize tmps[28]?.getD undef = x28
      generalize tmps[29]?.getD undef = x29
      generalize tmps[30]?.getD undef = x30
      generalize tmps[31]?.getD undef = x31
      generalize tmps[32]?.getD undef = x32
      generalize tmps[33]?.getD undef = x33
      generalize tmps[34]?.getD undef = x34
      generalize tmps[35]?.getD undef = x35
      generalize tmps[36]?.getD undef = x36
      generalize tmps[37]?.getD undef = x37
      generalize tmps[38]?.getD undef = x38
      generalize tmps[39]?.getD undef = x39
      generalize tmps[40]?.getD undef = x40
      generalize tmps[41]?.getD undef = x41
      generalize tmps[42]?.getD undef = x42
      generalize tmps[43]?.getD undef = x43
      generalize tmps[44]?.getD undef = x44
      generalize tmps[45]?.getD undef = x45
      generalize tmps[46]?.getD undef = x46
      generalize tmps[47]?.getD undef = x47
      rw [h48]
      clear h48
      simp only [List.setIfInBounds_toArray, List.set_cons_succ, List.set_cons_zero]
      replace HA := hid (hle.block HA.out)
      replace HB := hid (hle.block HB.out)
      replace HC := hid (hle.block HC.out)
      replace HD := hid (hle.block HD.out)
      replace HX := hid (HX.out.trans hle)
      have q1 : ∀ W, Calls Try.prog 12 #[.agg #[.int .u8 1, .int .i64 N, .int .u64 0, .string ⟨#[]⟩]] W (Says W (.int .i64 0)) := fun W => by
        have h := vcheck_any 1 N 0 noText W (by decide) (by have := HN.out; omega) (by have := HN.out; omega) (by decide) (by decide)
        rw [← HN.out, made_int] at h
        rw [← HN.out]
        exact h
      have q2 : ∀ W, Calls Try.prog 12 #[.agg #[.int .u8 2, .int .i64 F, .int .u64 0, .string ⟨#[]⟩]] W (Says W (.int .i64 0)) := fun W => by
        have hF : 0 ≤ F ∧ F ≤ 1 := by rw [← HF.out]; cases is <;> decide
        have h := vcheck_any 2 F 0 noText W (by decide) (by omega) (by omega) (by decide) (by decide)
        rw [← HF.out, made_flag] at h
        rw [← HF.out]
        exact h
      have q3 : ∀ W, Calls Try.prog 12 #[.agg #[.int .u8 3, .int .i64 0, .int .u64 (C : Int), .string ⟨#[]⟩]] W (Says W (.int .i64 0)) := fun W => by
        have h := vcheck_any 3 0 (cleanZ u) noText W (by decide) (by decide) (by decide) (by have := clean_lt (u := u) (by omega); omega) (by decide)
        rw [made_real] at h
        rw [← HCC.out]
        exact h
      have q4 : ∀ W, Calls Try.prog 12 #[.agg #[.int .u8 4, .int .i64 0, .int .u64 0, .string T]] W (Says W (.int .i64 0)) := fun W => by
        have h := vcheck_any 4 0 0 (s.extract 0 (min s.size 24)) W (by decide) (by decide) (by decide) (by decide) (by rw [ByteArray.size_extract]; omega)
        rw [made_text] at h
        rw [← HT.out]
        exact h
      have q5 : ∀ W, Calls Try.prog 26 #[.int .u8 ((u : Int) % 256)] W (Says W (.string (wordV (u % 256)))) := fun W => vword_any (u % 256) W (by omega)
      have q6 : ∀ W, Calls Try.prog 27 #[.int .u8 ((u : Int) % 256)] W (Says W (.string (wordV (u % 256)))) := fun W => rword4_any (u % 256) W
      clear hle
      obtain ⟨⟨a0, a1, a2, a3⟩, _, _⟩ := box4 HA.out
      obtain ⟨⟨b0, b1, b2, b3⟩, _, _⟩ := box4 HB.out
      obtain ⟨⟨c0, c1, c2, c3⟩, _, _⟩ := box4 HC.out
      obtain ⟨⟨d0, d1, d2, d3⟩, _, _⟩ := box4 HD.out
      go_wp2_with fail
      refine (q1 _).mono ?_
      rintro e w6 ⟨rfl, hx⟩
      replace HA := hid (hx.block HA.out)
      replace HB := hid (hx.block HB.out)
      replace HC := hid (hx.block HC.out)
      replace HD := hid (hx.block HD.out)
      replace HX := hid (HX.out.trans hx)
      clear hx a0 a1 a2 a3 b0 b1 b2 b3 c0 c1 c2 c3 d0 d1 d2 d3
      obtain ⟨⟨a0, a1, a2, a3⟩, _, _⟩ := box4 HA.out
      obtain ⟨⟨b0, b1, b2, b3⟩, _, _⟩ := box4 HB.out
      obtain ⟨⟨c0, c1, c2, c3⟩, _, _⟩ := box4 HC.out
      obtain ⟨⟨d0, d1, d2, d3⟩, _, _⟩ := box4 HD.out
      go_wp2_with fail
      refine (q2 _).mono ?_
      rintro e w7 ⟨rfl, hx⟩
      replace HA := hid (hx.block HA.out)
      replace HB := hid (hx.block HB.out)
      replace HC := hid (hx.block HC.out)
      replace HD := hid (hx.block HD.out)
      replace HX := hid (HX.out.trans hx)
      clear hx a0 a1 a2 a3 b0 b1 b2 b3 c0 c1 c2 c3 d0 d1 d2 d3
      obtain ⟨⟨a0, a1, a2, a3⟩, _, _⟩ := box4 HA.out
      obtain ⟨⟨b0, b1, b2, b3⟩, _, _⟩ := box4 HB.out
      obtain ⟨⟨c0, c1, c2, c3⟩, _, _⟩ := box4 HC.out
      obtain ⟨⟨d0, d1, d2, d3⟩, _, _⟩ := box4 HD.out
      go_wp2_with fail
      refine (q3 _).mono ?_
      rintro e w8 ⟨rfl, hx⟩
      replace HA := hid (hx.block HA.out)
      replace HB := hid (hx.block HB.out)
      replace HC := hid (hx.block HC.out)
      replace HD := hid (hx.block HD.out)
      replace HX := hid (HX.out.trans hx)
      clear hx a0 a1 a2 a3 b0 b1 b2 b3 c0 c1 c2 c3 d0 d1 d2 d3
      obtain ⟨⟨a0, a1, a2, a3⟩, _, _⟩ := box4 HA.out
      obtain ⟨⟨b0, b1, b2, b3⟩, _, _⟩ := box4 HB.out
      obtain ⟨⟨c0, c1, c2, c3⟩, _, _⟩ := box4 HC.out
      obtain ⟨⟨d0, d1, d2, d3⟩, _, _⟩ := box4 HD.out
      go_wp2_with fail
      refine (q4 _).mono ?_
      rintro e w9 ⟨rfl, hx⟩
      replace HA := hid (hx.block HA.out)
      replace HB := hid (hx.block HB.out)
      replace HC := hid (hx.block HC.out)
      replace HD := hid (hx.block HD.out)
      replace HX := hid (HX.out.trans hx)
      clear hx a0 a1 a2 a3 b0 b1 b2 b3 c0 c1 c2 c3 d0 d1 d2 d3
      obtain ⟨⟨a0, a1, a2, a3⟩, _, _⟩ := box4 HA.out
      obtain ⟨⟨b0, b1, b2, b3⟩, _, _⟩ := box4 HB.out
      obtain ⟨⟨c0, c1, c2, c3⟩, _, _⟩ := box4 HC.out
      obtain ⟨⟨d0, d1, d2, d3⟩, _, _⟩ := box4 HD.out
      go_wp2_with fail
      refine (q5 _).mono ?_
      rintro e w10 ⟨rfl, hx⟩
      replace HA := hid (hx.block HA.out)
      replace HB := hid (hx.block HB.out)
      replace HC := hid (hx.block HC.out)
      replace HD := hid (hx.block HD.out)
      replace HX := hid (HX.out.trans hx)
      clear hx a0 a1 a2 a3 b0 b1 b2 b3 c0 c1 c2 c3 d0 d1 d2 d3
      obtain ⟨⟨a0, a1, a2, a3⟩, _, _⟩ := box4 HA.out
      obtain ⟨⟨b0, b1, b2, b3⟩, _, _⟩ := box4 HB.out
      obtain ⟨⟨c0, c1, c2, c3⟩, _, _⟩ := box4 HC.out
      obtain ⟨⟨d0, d1, d2, d3⟩, _, _⟩ := box4 HD.out
      go_wp2_with fail
      refine (q6 _).mono ?_
      rintro e w11 ⟨rfl, hx⟩
      replace HA := hid (hx.block HA.out)
      replace HB := hid (hx.block HB.out)
      replace HC := hid (hx.block HC.out)
      replace HD := hid (hx.block HD.out)
      replace HX := hid (HX.out.trans hx)
      clear hx a0 a1 a2 a3 b0 b1 b2 b3 c0 c1 c2 c3 d0 d1 d2 d3
      obtain ⟨⟨a0, a1, a2, a3⟩, _, _⟩ := box4 HA.out
      obtain ⟨⟨b0, b1, b2, b3⟩, _, _⟩ := box4 HB.out
      obtain ⟨⟨c0, c1, c2, c3⟩, _, _⟩ := box4 HC.out
      obtain ⟨⟨d0, d1, d2, d3⟩, _, _⟩ := box4 HD.out
      go_wp2_with fail
      refine (awake_any _).mono ?_
      rintro e w12 ⟨rfl, hx⟩
      replace HA := hid (hx.block HA.out)
      replace HB := hid (hx.block HB.out)
      replace HC := hid (hx.block HC.out)
      replace HD := hid (hx.block HD.out)
      replace HX := hid (HX.out.trans hx)
      clear hx a0 a1 a2 a3 b0 b1 b2 b3 c0 c1 c2 c3 d0 d1 d2 d3
      obtain ⟨⟨a0, a1, a2, a3⟩, _, _⟩ := box4 HA.out
      obtain ⟨⟨b0, b1, b2, b3⟩, _, _⟩ := box4 HB.out
      obtain ⟨⟨c0, c1, c2, c3⟩, _, _⟩ := box4 HC.out
      obtain ⟨⟨d0, d1, d2, d3⟩, _, _⟩ := box4 HD.out
      go_wp2_with fail
      go_ret
      exact ⟨rfl, HX.out⟩
end Go.Proofs.Ytkblpbpmaoofgaa
