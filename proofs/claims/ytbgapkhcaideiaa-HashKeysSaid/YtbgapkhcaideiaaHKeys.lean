/- telltalelaw08.HashKeys answers true. Conditions: the reach of a text, numbers within their kinds. -/
import Derived.Test.YtbgapkhcaideiaaHAwk
import Derived.Test.YtbgapkhcaideiaaHSmall
namespace Go.Proofs.Ytbgapkhcaideiaa
open Go Go.RowKit

/-- what the slots of the region hold -/
def hkeysG (p m : Int) (k : Nat) (n : Int) (b : Nat) (t y : ByteArray) (X Y : ByteArray) (Q R : Int) (B1 : Nat) : Nat → Value → World → Prop
  | 0, v, _ => v = .pointer (some ⟨B1, 0, none⟩)
  | 1, v, _ => v = .int .i64 p
  | 2, v, _ => v = .agg #[.int .u8 (k : Int), .int .i64 n, .int .u64 (b : Int), .string t]
  | 3, v, _ => v = .string X
  | 4, v, _ => v = .pointer (some ⟨B1, 0, none⟩)
  | 5, v, _ => v = .int .i64 p
  | 6, v, _ => v = .agg #[.int .u8 (k : Int), .int .i64 n, .int .u64 (b : Int), .string t]
  | 7, v, _ => v = .string X
  | 8, v, _ => v = .bool true
  | 9, v, _ => v = .bool true
  | 10, v, _ => v = .pointer (some ⟨B1, 0, none⟩)
  | 11, v, _ => v = .int .i64 p
  | 12, v, _ => v = .string Y
  | 13, v, _ => v = .pointer (some ⟨B1, 0, none⟩)
  | 14, v, _ => v = .int .i64 p
  | 15, v, _ => v = .string Y
  | 16, v, _ => v = .bool true
  | 17, v, _ => v = .bool true
  | 18, v, _ => v = .bool true
  | 19, v, _ => v = .string y
  | 20, v, _ => v = .int .i64 Q
  | 21, v, _ => v = .string y
  | 22, v, _ => v = .int .i64 Q
  | 23, v, _ => v = .bool true
  | 24, v, _ => v = .bool true
  | 25, v, _ => v = .bool true
  | 26, v, _ => v = .string y
  | 27, v, _ => v = .pointer (some ⟨B1, 1, none⟩)
  | 28, v, _ => v = .int .i64 m
  | 29, v, _ => v = .int .i64 R
  | 30, v, _ => v = .string y
  | 31, v, _ => v = .pointer (some ⟨B1, 1, none⟩)
  | 32, v, _ => v = .int .i64 m
  | 33, v, _ => v = .int .i64 R
  | 34, v, _ => v = .bool true
  | 35, v, _ => v = .bool true
  | 36, v, _ => v = .bool true
  | 37, v, _ => v = .bool true
  | 38, v, _ => v = .bool true
  | 39, v, _ => v = .bool true
  | _, _, _ => True
theorem hkeysG_st (p m : Int) (k : Nat) (n : Int) (b : Nat) (t y : ByteArray) (X Y : ByteArray) (Q R : Int) (B1 : Nat) : ∀ i9 z9 x9 y9, hkeysG p m k n b t y X Y Q R B1 i9 z9 x9 → Ext x9 y9 → hkeysG p m k n b t y X Y Q R B1 i9 z9 y9 := by
  intro i9 z9 x9 y9 h e
  unfold hkeysG at *
  split at h <;> first | exact h | trivial

set_option maxRecDepth 100000 in
set_option maxHeartbeats 2000000 in
theorem hkeys_any (p m : Int) (k : Nat) (n : Int) (b : Nat) (t y : ByteArray) (w : World) (hp0 : -9223372036854775808 ≤ p) (hp1 : p ≤ 9223372036854775807) (hm0 : -9223372036854775808 ≤ m) (hm1 : m ≤ 9223372036854775807) (hk : k ≤ 255) (hn0 : -9223372036854775808 ≤ n) (hn1 : n ≤ 9223372036854775807) (hb : b ≤ 18446744073709551615) (ht : t.size ≤ 9223372036854775807) (hy : y.size ≤ 9223372036854775807) :
    Calls Try.prog 4 #[.agg #[.int .i64 p, .int .i64 m], .agg #[.int .u8 (k : Int), .int .i64 n, .int .u64 (b : Int), .string t], .string y] w (Says w (.bool true)) := by
  have s1 := fun W => hsmall_any k n b t W ht
  have k1 := fun W => key_any p k n b t W hp0 hp1 hk hn0 hn1 hb ht
  have k2 := fun W => rkey_any p k n b t W hp0 hp1 hk hn0 hn1 hb ht
  have k3 := fun W => bare_any p W hp0 hp1
  have k4 := fun W => rbare_any p W hp0 hp1
  have k5 := fun W => pattern_any y W hy
  have k6 := fun W => rpattern_any y W hy
  have k7 := fun W => worker_any y m W hy hm0 hm1
  have k8 := fun W => rworker_any y m W hy hm0 hm1
  generalize (⟨(keyH p k n b t).toArray⟩ : ByteArray) = X at *
  generalize (⟨#[bareH p]⟩ : ByteArray) = Y at *
  generalize patH y.data.toList = Q at *
  generalize workerH y.data.toList m = R at *
  clear hp0 hp1 hm0 hm1 hk hn0 hn1 hb
  go_enter Try.func4, Try.ntmps4
  go_wp2_with fail
  refine (s1 _).mono ?_
  rintro e w1 ⟨rfl, hx⟩
  have HB1 := hid (hx.block (heap_alloc2_old w _ _))
  have HB2 := hid (hx.block (heap_alloc2_new w _ _))
  have HX := hid (((Ext.alloc w _).then_alloc _).trans hx)
  clear hx s1
  by_cases h1 : 100 < t.size
  · have h1' : 0 < max 0 ((t.size : Int) - 100) := by omega
    generalize max 0 ((t.size : Int) - 100) = S1 at *
    go_wp2_with fail
    refine (hawake_any _).mono ?_
    rintro e w9 ⟨rfl, hx⟩
    go_wp2_with fail
    go_ret
    exact ⟨rfl, HX.out.trans hx⟩
  · have h1' : max 0 ((t.size : Int) - 100) = 0 := by omega
    rw [h1'] at *
    clear h1 h1'
    by_cases h3 : 100 < y.size
    · have h3' : (100 : Int) < (y.size : Int) := by omega
      go_wp2_with fail
      refine (hawake_any _).mono ?_
      rintro e w9 ⟨rfl, hx⟩
      go_wp2_with fail
      go_ret
      exact ⟨rfl, HX.out.trans hx⟩
    · have h3' : (y.size : Int) ≤ 100 := by omega
      clear h3
      obtain ⟨B1, hB1⟩ : ∃ B1, w.heap.size = B1 := ⟨_, rfl⟩
      rw [hB1] at HB1 HB2 ⊢
      clear hB1
      go_wp2_with fail
      refine wp_region_slots Ext (hkeysG p m k n b t y X Y Q R B1) (by kernel_rfl) Ext.trans Ext.refl (Ext.drew _) (hkeysG_st _ _ _ _ _ _ _ _ _ _ _ _) (by kernel_rfl) ?_ ?_
      · intro tmps wr hle hfr j o ho hty
        have h2 : tmps[2]?.getD undef = .string y := hfr 2 (by kernel_rfl)
        have h3 : tmps[3]?.getD undef = .pointer (some ⟨B1, 0, none⟩) := hfr 3 (by kernel_rfl)
        have h4 : tmps[4]?.getD undef = .pointer (some ⟨B1 + 1, 0, none⟩) := hfr 4 (by kernel_rfl)
        obtain ⟨⟨a0, a1⟩, _, _⟩ := boxH2 (hle.block HB1.out)
        obtain ⟨⟨c0, c1, c2, c3⟩, _, _⟩ := box4 (hle.block HB2.out)
        clear hfr
        match j, ho with
        | 0, ho =>
          obtain rfl := (Option.some.inj ho)
          clear hty ho
          refine step_pure (.pointer (some ⟨B1, 0, none⟩)) (wanted_free rfl) ?_ (Ext.refl _) rfl
          simp [execOp, Act.eval, h3, go_sem]
        | 1, ho =>
          have h16 : tmps[16]?.getD undef = .pointer (some ⟨B1, 0, none⟩) := hty 0 16 rfl (by obtain rfl := (Option.some.inj ho); rfl)
          obtain rfl := (Option.some.inj ho)
          clear hty ho
          refine step_pure (.int .i64 p) (wanted_free rfl) ?_ (Ext.refl _) rfl
          simp [execOp, Act.eval, h16, a0, go_sem]
        | 2, ho =>
          obtain rfl := (Option.some.inj ho)
          clear hty ho
          refine step_pure (.agg #[.int .u8 (k : Int), .int .i64 n, .int .u64 (b : Int), .string t]) (wanted_free rfl) ?_ (Ext.refl _) rfl
          simp [execOp, Act.eval, h4, c0, c1, c2, c3, go_sem]
        | 3, ho =>
          have h17 : tmps[17]?.getD undef = .int .i64 p := hty 1 17 rfl (by obtain rfl := (Option.some.inj ho); rfl)
          have h18 : tmps[18]?.getD undef = .agg #[.int .u8 (k : Int), .int .i64 n, .int .u64 (b : Int), .string t] := hty 2 18 rfl (by obtain rfl := (Option.some.inj ho); rfl)
          obtain rfl := (Option.some.inj ho)
          clear hty ho
          refine step_call 14 #[.int .i64 p, .agg #[.int .u8 (k : Int), .int .i64 n, .int .u64 (b : Int), .string t]] (wanted_free rfl) ?_ ?_
          · simp [execOp, Act.eval, h17, h18, go_sem]
          · exact (k1 _).mono fun e w' ⟨h1, h2⟩ => ⟨_, h1, h2, rfl⟩
        | 4, ho =>
          obtain rfl := (Option.some.inj ho)
          clear hty ho
          refine step_pure (.pointer (some ⟨B1, 0, none⟩)) (wanted_free rfl) ?_ (Ext.refl _) rfl
          simp [execOp, Act.eval, h3, go_sem]
        | 5, ho =>
          have h20 : tmps[20]?.getD undef = .pointer (some ⟨B1, 0, none⟩) := hty 4 20 rfl (by obtain rfl := (Option.some.inj ho); rfl)
          obtain rfl := (Option.some.inj ho)
          clear hty ho
          refine step_pure (.int .i64 p) (wanted_free rfl) ?_ (Ext.refl _) rfl
          simp [execOp, Act.eval, h20, a0, go_sem]
        | 6, ho =>
          obtain rfl := (Option.some.inj ho)
          clear hty ho
          refine step_pure (.agg #[.int .u8 (k : Int), .int .i64 n, .int .u64 (b : Int), .string t]) (wanted_free rfl) ?_ (Ext.refl _) rfl
          simp [execOp, Act.eval, h4, c0, c1, c2, c3, go_sem]
        | 7, ho =>
          have h21 : tmps[21]?.getD undef = .int .i64 p := hty 5 21 rfl (by obtain rfl := (Option.some.inj ho); rfl)
          have h22 : tmps[22]?.getD undef = .agg #[.int .u8 (k : Int), .int .i64 n, .int .u64 (b : Int), .string t] := hty 6 22 rfl (by obtain rfl := (Option.some.inj ho); rfl)
          obtain rfl := (Option.some.inj ho)
          clear hty ho
          refine step_call 15 #[.int .i64 p, .agg #[.int .u8 (k : Int), .int .i64 n, .int .u64 (b : Int), .string t]] (wanted_free rfl) ?_ ?_
          · simp [execOp, Act.eval, h21, h22, go_sem]
          · exact (k2 _).mono fun e w' ⟨h1, h2⟩ => ⟨_, h1, h2, rfl⟩
        | 8, ho =>
          have h19 : tmps[19]?.getD undef = .string X := hty 3 19 rfl (by obtain rfl := (Option.some.inj ho); rfl)
          have h23 : tmps[23]?.getD undef = .string X := hty 7 23 rfl (by obtain rfl := (Option.some.inj ho); rfl)
          obtain rfl := (Option.some.inj ho)
          clear hty ho
          refine step_pure (.bool true) (wanted_free rfl) ?_ (Ext.refl _) rfl
          simp [execOp, Act.eval, h19, h23, go_sem]
        | 9, ho =>
          have h24 : tmps[24]?.getD undef = .bool true := hty 8 24 rfl (by obtain rfl := (Option.some.inj ho); rfl)
          obtain rfl := (Option.some.inj ho)
          clear hty ho
          refine step_pure (.bool true) (wanted_free rfl) ?_ (Ext.refl _) rfl
          simp [execOp, Act.eval, h24, go_sem]
        | 10, ho =>
          have h25 : tmps[25]?.getD undef = .bool true := hty 9 25 rfl (by obtain rfl := (Option.some.inj ho); rfl)
          obtain rfl := (Option.some.inj ho)
          clear hty ho
          refine step_pure (.pointer (some ⟨B1, 0, none⟩)) (wanted_guard rfl rfl h25) ?_ (Ext.refl _) rfl
          simp [execOp, Act.eval, h3, go_sem]
        | 11, ho =>
          have h26 : tmps[26]?.getD undef = .pointer (some ⟨B1, 0, none⟩) := hty 10 26 rfl (by obtain rfl := (Option.some.inj ho); rfl)
          have h25 : tmps[25]?.getD undef = .bool true := hty 9 25 rfl (by obtain rfl := (Option.some.inj ho); rfl)
          obtain rfl := (Option.some.inj ho)
          clear hty ho
          refine step_pure (.int .i64 p) (wanted_guard rfl rfl h25) ?_ (Ext.refl _) rfl
          simp [execOp, Act.eval, h26, a0, go_sem]
        | 12, ho =>
          have h27 : tmps[27]?.getD undef = .int .i64 p := hty 11 27 rfl (by obtain rfl := (Option.some.inj ho); rfl)
          have h25 : tmps[25]?.getD undef = .bool true := hty 9 25 rfl (by obtain rfl := (Option.some.inj ho); rfl)
          obtain rfl := (Option.some.inj ho)
          clear hty ho
          refine step_call 16 #[.int .i64 p] (wanted_guard rfl rfl h25) ?_ ?_
          · simp [execOp, Act.eval, h27, go_sem]
          · exact (k3 _).mono fun e w' ⟨h1, h2⟩ => ⟨_, h1, h2, rfl⟩
        | 13, ho =>
          have h25 : tmps[25]?.getD undef = .bool true := hty 9 25 rfl (by obtain rfl := (Option.some.inj ho); rfl)
          obtain rfl := (Option.some.inj ho)
          clear hty ho
          refine step_pure (.pointer (some ⟨B1, 0, none⟩)) (wanted_guard rfl rfl h25) ?_ (Ext.refl _) rfl
          simp [execOp, Act.eval, h3, go_sem]
        | 14, ho =>
          have h29 : tmps[29]?.getD undef = .pointer (some ⟨B1, 0, none⟩) := hty 13 29 rfl (by obtain rfl := (Option.some.inj ho); rfl)
          have h25 : tmps[25]?.getD undef = .bool true := hty 9 25 rfl (by obtain rfl := (Option.some.inj ho); rfl)
          obtain rfl := (Option.some.inj ho)
          clear hty ho
          refine step_pure (.int .i64 p) (wanted_guard rfl rfl h25) ?_ (Ext.refl _) rfl
          simp [execOp, Act.eval, h29, a0, go_sem]
        | 15, ho =>
          have h30 : tmps[30]?.getD undef = .int .i64 p := hty 14 30 rfl (by obtain rfl := (Option.some.inj ho); rfl)
          have h25 : tmps[25]?.getD undef = .bool true := hty 9 25 rfl (by obtain rfl := (Option.some.inj ho); rfl)
          obtain rfl := (Option.some.inj ho)
          clear hty ho
          refine step_call 17 #[.int .i64 p] (wanted_guard rfl rfl h25) ?_ ?_
          · simp [execOp, Act.eval, h30, go_sem]
          · exact (k4 _).mono fun e w' ⟨h1, h2⟩ => ⟨_, h1, h2, rfl⟩
        | 16, ho =>
          have h28 : tmps[28]?.getD undef = .string Y := hty 12 28 rfl (by obtain rfl := (Option.some.inj ho); rfl)
          have h31 : tmps[31]?.getD undef = .string Y := hty 15 31 rfl (by obtain rfl := (Option.some.inj ho); rfl)
          have h25 : tmps[25]?.getD undef = .bool true := hty 9 25 rfl (by obtain rfl := (Option.some.inj ho); rfl)
          obtain rfl := (Option.some.inj ho)
          clear hty ho
          refine step_pure (.bool true) (wanted_guard rfl rfl h25) ?_ (Ext.refl _) rfl
          simp [execOp, Act.eval, h28, h31, go_sem]
        | 17, ho =>
          have h25 : tmps[25]?.getD undef = .bool true := hty 9 25 rfl (by obtain rfl := (Option.some.inj ho); rfl)
          have h32 : tmps[32]?.getD undef = .bool true := hty 16 32 rfl (by obtain rfl := (Option.some.inj ho); rfl)
          obtain rfl := (Option.some.inj ho)
          clear hty ho
          refine step_pure (.bool true) (wanted_free rfl) ?_ (Ext.refl _) rfl
          simp [execOp, Act.eval, h25, h32, go_sem]
        | 18, ho =>
          have h33 : tmps[33]?.getD undef = .bool true := hty 17 33 rfl (by obtain rfl := (Option.some.inj ho); rfl)
          obtain rfl := (Option.some.inj ho)
          clear hty ho
          refine step_pure (.bool true) (wanted_free rfl) ?_ (Ext.refl _) rfl
          simp [execOp, Act.eval, h33, go_sem]
        | 19, ho =>
          have h34 : tmps[34]?.getD undef = .bool true := hty 18 34 rfl (by obtain rfl := (Option.some.inj ho); rfl)
          obtain rfl := (Option.some.inj ho)
          clear hty ho
          refine step_pure (.string y) (wanted_guard rfl rfl h34) ?_ (Ext.refl _) rfl
          simp [execOp, Act.eval, h2, go_sem]
        | 20, ho =>
          have h35 : tmps[35]?.getD undef = .string y := hty 19 35 rfl (by obtain rfl := (Option.some.inj ho); rfl)
          have h34 : tmps[34]?.getD undef = .bool true := hty 18 34 rfl (by obtain rfl := (Option.some.inj ho); rfl)
          obtain rfl := (Option.some.inj ho)
          clear hty ho
          refine step_call 18 #[.string y] (wanted_guard rfl rfl h34) ?_ ?_
          · simp [execOp, Act.eval, h35, go_sem]
          · exact (k5 _).mono fun e w' ⟨h1, h2⟩ => ⟨_, h1, by rw [h2]; exact Ext.refl _, rfl⟩
        | 21, ho =>
          have h34 : tmps[34]?.getD undef = .bool true := hty 18 34 rfl (by obtain rfl := (Option.some.inj ho); rfl)
          obtain rfl := (Option.some.inj ho)
          clear hty ho
          refine step_pure (.string y) (wanted_guard rfl rfl h34) ?_ (Ext.refl _) rfl
          simp [execOp, Act.eval, h2, go_sem]
        | 22, ho =>
          have h37 : tmps[37]?.getD undef = .string y := hty 21 37 rfl (by obtain rfl := (Option.some.inj ho); rfl)
          have h34 : tmps[34]?.getD undef = .bool true := hty 18 34 rfl (by obtain rfl := (Option.some.inj ho); rfl)
          obtain rfl := (Option.some.inj ho)
          clear hty ho
          refine step_call 19 #[.string y] (wanted_guard rfl rfl h34) ?_ ?_
          · simp [execOp, Act.eval, h37, go_sem]
          · exact (k6 _).mono fun e w' ⟨h1, h2⟩ => ⟨_, h1, by rw [h2]; exact Ext.refl _, rfl⟩
        | 23, ho =>
          have h36 : tmps[36]?.getD undef = .int .i64 Q := hty 20 36 rfl (by obtain rfl := (Option.some.inj ho); rfl)
          have h38 : tmps[38]?.getD undef = .int .i64 Q := hty 22 38 rfl (by obtain rfl := (Option.some.inj ho); rfl)
          have h34 : tmps[34]?.getD undef = .bool true := hty 18 34 rfl (by obtain rfl := (Option.some.inj ho); rfl)
          obtain rfl := (Option.some.inj ho)
          clear hty ho
          refine step_pure (.bool true) (wanted_guard rfl rfl h34) ?_ (Ext.refl _) rfl
          simp [execOp, Act.eval, h36, h38, go_sem]
        | 24, ho =>
          have h34 : tmps[34]?.getD undef = .bool true := hty 18 34 rfl (by obtain rfl := (Option.some.inj ho); rfl)
          have h39 : tmps[39]?.getD undef = .bool true := hty 23 39 rfl (by obtain rfl := (Option.some.inj ho); rfl)
          obtain rfl := (Option.some.inj ho)
          clear hty ho
          refine step_pure (.bool true) (wanted_free rfl) ?_ (Ext.refl _) rfl
          simp [execOp, Act.eval, h34, h39, go_sem]
        | 25, ho =>
          have h40 : tmps[40]?.getD undef = .bool true := hty 24 40 rfl (by obtain rfl := (Option.some.inj ho); rfl)
          obtain rfl := (Option.some.inj ho)
          clear hty ho
          refine step_pure (.bool true) (wanted_free rfl) ?_ (Ext.refl _) rfl
          simp [execOp, Act.eval, h40, go_sem]
        | 26, ho =>
          have h41 : tmps[41]?.getD undef = .bool true := hty 25 41 rfl (by obtain rfl := (Option.some.inj ho); rfl)
          obtain rfl := (Option.some.inj ho)
          clear hty ho
          refine step_pure (.string y) (wanted_guard rfl rfl h41) ?_ (Ext.refl _) rfl
          simp [execOp, Act.eval, h2, go_sem]
        | 27, ho =>
          have h41 : tmps[41]?.getD undef = .bool true := hty 25 41 rfl (by obtain rfl := (Option.some.inj ho); rfl)
          obtain rfl := (Option.some.inj ho)
          clear hty ho
          refine step_pure (.pointer (some ⟨B1, 1, none⟩)) (wanted_guard rfl rfl h41) ?_ (Ext.refl _) rfl
          simp [execOp, Act.eval, h3, go_sem]
        | 28, ho =>
          have h43 : tmps[43]?.getD undef = .pointer (some ⟨B1, 1, none⟩) := hty 27 43 rfl (by obtain rfl := (Option.some.inj ho); rfl)
          have h41 : tmps[41]?.getD undef = .bool true := hty 25 41 rfl (by obtain rfl := (Option.some.inj ho); rfl)
          obtain rfl := (Option.some.inj ho)
          clear hty ho
          refine step_pure (.int .i64 m) (wanted_guard rfl rfl h41) ?_ (Ext.refl _) rfl
          simp [execOp, Act.eval, h43, a1, go_sem]
        | 29, ho =>
          have h42 : tmps[42]?.getD undef = .string y := hty 26 42 rfl (by obtain rfl := (Option.some.inj ho); rfl)
          have h44 : tmps[44]?.getD undef = .int .i64 m := hty 28 44 rfl (by obtain rfl := (Option.some.inj ho); rfl)
          have h41 : tmps[41]?.getD undef = .bool true := hty 25 41 rfl (by obtain rfl := (Option.some.inj ho); rfl)
          obtain rfl := (Option.some.inj ho)
          clear hty ho
          refine step_call 20 #[.string y, .int .i64 m] (wanted_guard rfl rfl h41) ?_ ?_
          · simp [execOp, Act.eval, h42, h44, go_sem]
          · exact (k7 _).mono fun e w' ⟨h1, h2⟩ => ⟨_, h1, by rw [h2]; exact Ext.refl _, rfl⟩
        | 30, ho =>
          have h41 : tmps[41]?.getD undef = .bool true := hty 25 41 rfl (by obtain rfl := (Option.some.inj ho); rfl)
          obtain rfl := (Option.some.inj ho)
          clear hty ho
          refine step_pure (.string y) (wanted_guard rfl rfl h41) ?_ (Ext.refl _) rfl
          simp [execOp, Act.eval, h2, go_sem]
        | 31, ho =>
          have h41 : tmps[41]?.getD undef = .bool true := hty 25 41 rfl (by obtain rfl := (Option.some.inj ho); rfl)
          obtain rfl := (Option.some.inj ho)
          clear hty ho
          refine step_pure (.pointer (some ⟨B1, 1, none⟩)) (wanted_guard rfl rfl h41) ?_ (Ext.refl _) rfl
          simp [execOp, Act.eval, h3, go_sem]
        | 32, ho =>
          have h47 : tmps[47]?.getD undef = .pointer (some ⟨B1, 1, none⟩) := hty 31 47 rfl (by obtain rfl := (Option.some.inj ho); rfl)
          have h41 : tmps[41]?.getD undef = .bool true := hty 25 41 rfl (by obtain rfl := (Option.some.inj ho); rfl)
          obtain rfl := (Option.some.inj ho)
          clear hty ho
          refine step_pure (.int .i64 m) (wanted_guard rfl rfl h41) ?_ (Ext.refl _) rfl
          simp [execOp, Act.eval, h47, a1, go_sem]
        | 33, ho =>
          have h46 : tmps[46]?.getD undef = .string y := hty 30 46 rfl (by obtain rfl := (Option.some.inj ho); rfl)
          have h48 : tmps[48]?.getD undef = .int .i64 m := hty 32 48 rfl (by obtain rfl := (Option.some.inj ho); rfl)
          have h41 : tmps[41]?.getD undef = .bool true := hty 25 41 rfl (by obtain rfl := (Option.some.inj ho); rfl)
          obtain rfl := (Option.some.inj ho)
          clear hty ho
          refine step_call 21 #[.string y, .int .i64 m] (wanted_guard rfl rfl h41) ?_ ?_
          · simp [execOp, Act.eval, h46, h48, go_sem]
          · exact (k8 _).mono fun e w' ⟨h1, h2⟩ => ⟨_, h1, by rw [h2]; exact Ext.refl _, rfl⟩
        | 34, ho =>
          have h45 : tmps[45]?.getD undef = .int .i64 R := hty 29 45 rfl (by obtain rfl := (Option.some.inj ho); rfl)
          have h49 : tmps[49]?.getD undef = .int .i64 R := hty 33 49 rfl (by obtain rfl := (Option.some.inj ho); rfl)
          have h41 : tmps[41]?.getD undef = .bool true := hty 25 41 rfl (by obtain rfl := (Option.some.inj ho); rfl)
          obtain rfl := (Option.some.inj ho)
          clear hty ho
          refine step_pure (.bool true) (wanted_guard rfl rfl h41) ?_ (Ext.refl _) rfl
          simp [execOp, Act.eval, h45, h49, go_sem]
        | 35, ho =>
          have h41 : tmps[41]?.getD undef = .bool true := hty 25 41 rfl (by obtain rfl := (Option.some.inj ho); rfl)
          have h50 : tmps[50]?.getD undef = .bool true := hty 34 50 rfl (by obtain rfl := (Option.some.inj ho); rfl)
          obtain rfl := (Option.some.inj ho)
          clear hty ho
          refine step_pure (.bool true) (wanted_free rfl) ?_ (Ext.refl _) rfl
          simp [execOp, Act.eval, h41, h50, go_sem]
        | 36, ho =>
          have h51 : tmps[51]?.getD undef = .bool true := hty 35 51 rfl (by obtain rfl := (Option.some.inj ho); rfl)
          obtain rfl := (Option.some.inj ho)
          clear hty ho
          refine step_pure (.bool true) (wanted_free rfl) ?_ (Ext.refl _) rfl
          simp [execOp, Act.eval, h51, go_sem]
        | 37, ho =>
          have h52 : tmps[52]?.getD undef = .bool true := hty 36 52 rfl (by obtain rfl := (Option.some.inj ho); rfl)
          obtain rfl := (Option.some.inj ho)
          clear hty ho
          refine step_call 7 #[] (wanted_guard rfl rfl h52) ?_ ?_
          · simp [execOp, Act.eval, go_sem]
          · exact (hawake_any _).mono fun e w' ⟨h1, h2⟩ => ⟨_, h1, h2, rfl⟩
        | 38, ho =>
          have h52 : tmps[52]?.getD undef = .bool true := hty 36 52 rfl (by obtain rfl := (Option.some.inj ho); rfl)
          have h53 : tmps[53]?.getD undef = .bool true := hty 37 53 rfl (by obtain rfl := (Option.some.inj ho); rfl)
          obtain rfl := (Option.some.inj ho)
          clear hty ho
          refine step_pure (.bool true) (wanted_free rfl) ?_ (Ext.refl _) rfl
          simp [execOp, Act.eval, h52, h53, go_sem]
        | 39, ho =>
          have h54 : tmps[54]?.getD undef = .bool true := hty 38 54 rfl (by obtain rfl := (Option.some.inj ho); rfl)
          obtain rfl := (Option.some.inj ho)
          clear hty ho
          refine step_pure (.bool true) (wanted_free rfl) ?_ (Ext.refl _) rfl
          simp [execOp, Act.eval, h54, go_sem]
        | (j + 40), ho => exact absurd ho (by simp)
      · intro tmps w5 hle hs hfr hty
        have h6 : tmps[6]?.getD undef = .bool true := hty 39 6 (by kernel_rfl)
        have hfe := frame_eq [6, 16, 17, 18, 19, 20, 21, 22, 23, 24, 25, 26, 27, 28, 29, 30, 31, 32, 33, 34, 35, 36, 37, 38, 39, 40, 41, 42, 43, 44, 45, 46, 47, 48, 49, 50, 51, 52, 53, 54] hs hfr (by kernel_rfl)
        rw [hfe]
        clear hfe hfr hs hty
        simp only [List.foldl_cons, List.foldl_nil]
        rw [h6]
        generalize tmps[16]?.getD undef = x16
        generalize tmps[17]?.getD undef = x17
        generalize tmps[18]?.getD undef = x18
        generalize tmps[19]?.getD undef = x19
        generalize tmps[20]?.getD undef = x20
        generalize tmps[21]?.getD undef = x21
        generalize tmps[22]?.getD undef = x22
        generalize tmps[23]?.getD undef = x23
        generalize tmps[24]?.getD undef = x24
        generalize tmps[25]?.getD undef = x25
        generalize tmps[26]?.getD undef = x26
        generalize tmps[27]?.getD undef = x27
        generalize tmps[28]?.getD undef = x28
        generalize tmps[29]?.getD undef = x29
        generalize tmps[30]?.getD undef = x30
        generalize tmps[31]?.getD undef = x31
        generalize tmps[32]?.getD undef = x32
        generalize tmps[33]?.getD undef = x33
        generalize tmps[34]?.getD undef = x34
        generalize tmps[35]?.getD undef = x35
        generalize tmps[36]?.getD undef = x36
        generalize tmps[37]?.getD undef = x37
        generalize tmps[38]?.getD undef = x38
        generalize tmps[39]?.getD undef = x39
        generalize tmps[40]?.getD undef = x40
        generalize tmps[41]?.getD undef = x41
        generalize tmps[42]?.getD undef = x42
        generalize tmps[43]?.getD undef = x43
        generalize tmps[44]?.getD undef = x44
        generalize tmps[45]?.getD undef = x45
        generalize tmps[46]?.getD undef = x46
        generalize tmps[47]?.getD undef = x47
        generalize tmps[48]?.getD undef = x48
        generalize tmps[49]?.getD undef = x49
        generalize tmps[50]?.getD undef = x50
        generalize tmps[51]?.getD undef = x51
        generalize tmps[52]?.getD undef = x52
        generalize tmps[53]?.getD undef = x53
        generalize tmps[54]?.getD undef = x54
        have HX5 := hid (HX.out.trans hle)
        clear h6 hle
        simp only [List.setIfInBounds_toArray, List.set_cons_succ, List.set_cons_zero]
        go_wp2_with fail
        go_ret
        exact ⟨rfl, HX5.out⟩
end Go.Proofs.Ytbgapkhcaideiaa
