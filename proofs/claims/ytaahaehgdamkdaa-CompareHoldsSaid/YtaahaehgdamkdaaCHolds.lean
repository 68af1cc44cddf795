/- Whether any test of any two values holds, is told as the document says (the walk). Conditions: the reach of a string, numbers within their kinds. -/
import Derived.Test.YtaahaehgdamkdaaCAwk
import Derived.Test.YtaahaehgdamkdaaVSmall
import Derived.Test.YtaahaehgdamkdaaBase
import Derived.BigQuiet
namespace Go.Proofs.Ytaahaehgdamkdaa
open Go Go.RowKit

/-- what the slots of the region hold -/
def choldsG (o : Nat) (k : Nat) (n : Int) (b : Nat) (t : ByteArray) (l : Nat) (m : Int) (c : Nat) (u : ByteArray) (H : Bool) : Nat → Value → World → Prop
  | 0, v, _ => v = .int .u8 (o : Int)
  | 1, v, _ => v = .agg #[.int .u8 (k : Int), .int .i64 n, .int .u64 (b : Int), .string t]
  | 2, v, _ => v = .agg #[.int .u8 (l : Int), .int .i64 m, .int .u64 (c : Int), .string u]
  | 3, v, _ => v = .bool H
  | 4, v, _ => v = .int .u8 (o : Int)
  | 5, v, _ => v = .agg #[.int .u8 (k : Int), .int .i64 n, .int .u64 (b : Int), .string t]
  | 6, v, _ => v = .agg #[.int .u8 (l : Int), .int .i64 m, .int .u64 (c : Int), .string u]
  | 7, v, _ => v = .bool H
  | 8, v, _ => v = .bool true
  | 9, v, _ => v = .bool true
  | 10, v, _ => v = .bool true
  | 11, v, _ => v = .bool true
  | 12, v, _ => v = .bool true
  | _, _, _ => True
theorem choldsG_st (o : Nat) (k : Nat) (n : Int) (b : Nat) (t : ByteArray) (l : Nat) (m : Int) (c : Nat) (u : ByteArray) (H : Bool) : ∀ i9 z9 x9 y9, choldsG o k n b t l m c u H i9 z9 x9 → Ext x9 y9 → choldsG o k n b t l m c u H i9 z9 y9 := by
  intro i9 z9 x9 y9 h e
  unfold choldsG at *
  split at h <;> first | exact h | exact Bytes.ext h e

set_option maxRecDepth 100000 in
set_option maxHeartbeats 2000000 in
theorem cholds_law (o : Nat) (k : Nat) (n : Int) (b : Nat) (t : ByteArray) (l : Nat) (m : Int) (c : Nat) (u : ByteArray) (w : World) (ho : o ≤ 255) (hk : k ≤ 255) (hl : l ≤ 255) (hn0 : -9223372036854775808 ≤ n) (hn1 : n ≤ 9223372036854775807) (hm0 : -9223372036854775808 ≤ m) (hm1 : m ≤ 9223372036854775807) (hb : b ≤ 18446744073709551615) (hc : c ≤ 18446744073709551615) (ht : t.size ≤ 9223372036854775807) (hu : u.size ≤ 9223372036854775807) : Calls Try.prog 3 #[.int .u8 (o : Int), .agg #[.int .u8 (k : Int), .int .i64 n, .int .u64 (b : Int), .string t], .agg #[.int .u8 (l : Int), .int .i64 m, .int .u64 (c : Int), .string u]] w (Says w (.bool true)) := by
  have kp := fun W => cholds_any o k n b t l m c u W ho hk hl hn0 hn1 hm0 hm1 hb hc ht hu
  have kr := fun W => rholds_any o k n b t l m c u W hn0 hn1 hm0 hm1 hb hc
  generalize holdsV o k n b t l m c u = H at *
  unfold vv at kp kr
  have KP := hid kp
  have KR := hid kr
  clear kp kr
  have s1 := fun W => small_any k n b t W ht
  have s2 := fun W => small_any l m c u W hu
  go_enter Try.func3, Try.ntmps3
  go_wp2_with fail
  refine (s1 _).mono ?_
  rintro e w1 ⟨rfl, hx⟩
  have HV := hid (hx.block (heap_alloc2_old w _ _))
  have HW := hid (hx.block (heap_alloc2_new w _ _))
  have HX := hid (((Ext.alloc w _).then_alloc _).trans hx)
  clear hx
  obtain ⟨⟨a0, a1, a2, a3⟩, _, az⟩ := box4 HV.out
  obtain ⟨⟨b0, b1, b2, b3⟩, _, bz⟩ := box4 HW.out
  by_cases h1 : 100 < t.size
  · have h1' : 0 < max 0 ((t.size : Int) - 100) := by omega
    generalize max 0 ((t.size : Int) - 100) = S1 at *
    go_wp2_with fail
    refine (awake5_any _).mono ?_
    rintro e w9 ⟨rfl, hx⟩
    go_wp2_with fail
    go_ret
    exact ⟨rfl, HX.out.trans hx⟩
  · have h1' : max 0 ((t.size : Int) - 100) = 0 := by omega
    rw [h1'] at *
    go_wp2_with fail
    refine (s2 _).mono ?_
    rintro e w2 ⟨rfl, hx⟩
    replace HV := hid (hx.block HV.out)
    replace HW := hid (hx.block HW.out)
    replace HX := hid (HX.out.trans hx)
    clear hx a0 a1 a2 a3 az b0 b1 b2 b3 bz
    obtain ⟨⟨a0, a1, a2, a3⟩, _, az⟩ := box4 HV.out
    obtain ⟨⟨b0, b1, b2, b3⟩, _, bz⟩ := box4 HW.out
    by_cases h2 : 100 < u.size
    · have h2' : 0 < max 0 ((u.size : Int) - 100) := by omega
      generalize max 0 ((u.size : Int) - 100) = S2 at *
      go_wp2_with fail
      refine (awake5_any _).mono ?_
      rintro e w9 ⟨rfl, hx⟩
      go_wp2_with fail
      go_ret
      exact ⟨rfl, HX.out.trans hx⟩
    · have h2' : max 0 ((u.size : Int) - 100) = 0 := by omega
      rw [h2'] at *
      clear h1 h2 h1' h2' s1 s2
      go_wp2_with fail
      have kp := KP.out
      have kr := KR.out
      refine wp_region_slots Ext (choldsG o k n b t l m c u H) (by kernel_rfl) Ext.trans Ext.refl (Ext.drew _) (choldsG_st _ _ _ _ _ _ _ _ _ _) (by kernel_rfl) ?_ ?_
      · intro tmps wr hle hfr j o9 ho hty
        have h0 : tmps[0]?.getD undef = .int .u8 (o : Int) := hfr 0 (by kernel_rfl)
        have h4 : tmps[4]?.getD undef = .pointer (some ⟨w.heap.size, 0, none⟩) := hfr 4 (by kernel_rfl)
        have h5 : tmps[5]?.getD undef = .pointer (some ⟨w.heap.size + 1, 0, none⟩) := hfr 5 (by kernel_rfl)
        obtain ⟨⟨a0, a1, a2, a3⟩, _, _⟩ := box4 (hle.block HV.out)
        obtain ⟨⟨b0, b1, b2, b3⟩, _, _⟩ := box4 (hle.block HW.out)
        clear hfr
        match j, ho with
        | 0, ho =>
          obtain rfl := (Option.some.inj ho)
          clear hty ho
          refine step_pure (.int .u8 (o : Int)) (wanted_free rfl) ?_ (Ext.refl _) rfl
          simp [execOp, Act.eval, h0, go_sem]
        | 1, ho =>
          obtain rfl := (Option.some.inj ho)
          clear hty ho
          refine step_pure (.agg #[.int .u8 (k : Int), .int .i64 n, .int .u64 (b : Int), .string t]) (wanted_free rfl) ?_ (Ext.refl _) rfl
          simp [execOp, Act.eval, h4, a0, a1, a2, a3, go_sem]
        | 2, ho =>
          obtain rfl := (Option.some.inj ho)
          clear hty ho
          refine step_pure (.agg #[.int .u8 (l : Int), .int .i64 m, .int .u64 (c : Int), .string u]) (wanted_free rfl) ?_ (Ext.refl _) rfl
          simp [execOp, Act.eval, h5, b0, b1, b2, b3, go_sem]
        | 3, ho =>
          have h16 : tmps[16]?.getD undef = .int .u8 (o : Int) := hty 0 16 rfl (by obtain rfl := (Option.some.inj ho); rfl)
          have h17 : tmps[17]?.getD undef = .agg #[.int .u8 (k : Int), .int .i64 n, .int .u64 (b : Int), .string t] := hty 1 17 rfl (by obtain rfl := (Option.some.inj ho); rfl)
          have h18 : tmps[18]?.getD undef = .agg #[.int .u8 (l : Int), .int .i64 m, .int .u64 (c : Int), .string u] := hty 2 18 rfl (by obtain rfl := (Option.some.inj ho); rfl)
          obtain rfl := (Option.some.inj ho)
          clear hty ho
          refine step_call 11 #[.int .u8 (o : Int), .agg #[.int .u8 (k : Int), .int .i64 n, .int .u64 (b : Int), .string t], .agg #[.int .u8 (l : Int), .int .i64 m, .int .u64 (c : Int), .string u]] (wanted_free rfl) ?_ ?_
          · simp [execOp, Act.eval, h16, h17, h18, go_sem]
          · exact (kp _).mono fun e w' h => ⟨_, h.1, h.2, rfl⟩
        | 4, ho =>
          obtain rfl := (Option.some.inj ho)
          clear hty ho
          refine step_pure (.int .u8 (o : Int)) (wanted_free rfl) ?_ (Ext.refl _) rfl
          simp [execOp, Act.eval, h0, go_sem]
        | 5, ho =>
          obtain rfl := (Option.some.inj ho)
          clear hty ho
          refine step_pure (.agg #[.int .u8 (k : Int), .int .i64 n, .int .u64 (b : Int), .string t]) (wanted_free rfl) ?_ (Ext.refl _) rfl
          simp [execOp, Act.eval, h4, a0, a1, a2, a3, go_sem]
        | 6, ho =>
          obtain rfl := (Option.some.inj ho)
          clear hty ho
          refine step_pure (.agg #[.int .u8 (l : Int), .int .i64 m, .int .u64 (c : Int), .string u]) (wanted_free rfl) ?_ (Ext.refl _) rfl
          simp [execOp, Act.eval, h5, b0, b1, b2, b3, go_sem]
        | 7, ho =>
          have h20 : tmps[20]?.getD undef = .int .u8 (o : Int) := hty 4 20 rfl (by obtain rfl := (Option.some.inj ho); rfl)
          have h21 : tmps[21]?.getD undef = .agg #[.int .u8 (k : Int), .int .i64 n, .int .u64 (b : Int), .string t] := hty 5 21 rfl (by obtain rfl := (Option.some.inj ho); rfl)
          have h22 : tmps[22]?.getD undef = .agg #[.int .u8 (l : Int), .int .i64 m, .int .u64 (c : Int), .string u] := hty 6 22 rfl (by obtain rfl := (Option.some.inj ho); rfl)
          obtain rfl := (Option.some.inj ho)
          clear hty ho
          refine step_call 12 #[.int .u8 (o : Int), .agg #[.int .u8 (k : Int), .int .i64 n, .int .u64 (b : Int), .string t], .agg #[.int .u8 (l : Int), .int .i64 m, .int .u64 (c : Int), .string u]] (wanted_free rfl) ?_ ?_
          · simp [execOp, Act.eval, h20, h21, h22, go_sem]
          · exact (kr _).mono fun e w' h => ⟨_, h.1, h.2, rfl⟩
        | 8, ho =>
          have h19 : tmps[19]?.getD undef = .bool H := hty 3 19 rfl (by obtain rfl := (Option.some.inj ho); rfl)
          have h23 : tmps[23]?.getD undef = .bool H := hty 7 23 rfl (by obtain rfl := (Option.some.inj ho); rfl)
          obtain rfl := (Option.some.inj ho)
          clear hty ho
          refine step_pure (.bool true) (wanted_free rfl) ?_ (Ext.refl _) rfl
          simp [execOp, Act.eval, h19, h23, go_sem]
        | 9, ho =>
          have h24 : tmps[24]?.getD undef = .bool true := hty 8 24 rfl (by obtain rfl := (Option.some.inj ho); rfl)
          obtain rfl := (Option.some.inj ho)
          clear hty ho
          refine step_pure (.bool true) (wanted_free rfl) ?_ (Ext.refl _) rfl
          simp [execOp, Act.eval, h24, go_sem]
        | 10, ho =>
          have h25 : tmps[25]?.getD undef = .bool true := hty 9 25 rfl (by obtain rfl := (Option.some.inj ho); rfl)
          obtain rfl := (Option.some.inj ho)
          clear hty ho
          refine step_call 10 #[] (wanted_guard rfl rfl h25) ?_ ?_
          · simp [execOp, Act.eval, go_sem]
          · exact (awake5_any _).mono fun e w' h => ⟨_, h.1, h.2, rfl⟩
        | 11, ho =>
          have h25 : tmps[25]?.getD undef = .bool true := hty 9 25 rfl (by obtain rfl := (Option.some.inj ho); rfl)
          have h26 : tmps[26]?.getD undef = .bool true := hty 10 26 rfl (by obtain rfl := (Option.some.inj ho); rfl)
          obtain rfl := (Option.some.inj ho)
          clear hty ho
          refine step_pure (.bool true) (wanted_free rfl) ?_ (Ext.refl _) rfl
          simp [execOp, Act.eval, h25, h26, go_sem]
        | 12, ho =>
          have h27 : tmps[27]?.getD undef = .bool true := hty 11 27 rfl (by obtain rfl := (Option.some.inj ho); rfl)
          obtain rfl := (Option.some.inj ho)
          clear hty ho
          refine step_pure (.bool true) (wanted_free rfl) ?_ (Ext.refl _) rfl
          simp [execOp, Act.eval, h27, go_sem]
        | (j + 13), ho => exact absurd ho (by simp)
      · intro tmps w6 hle hs hfr hty
        have h6 : tmps[6]?.getD undef = .bool true := hty 12 6 rfl
        have hfe := frame_eq [16, 17, 18, 19, 20, 21, 22, 23, 24, 25, 26, 27, 6] hs hfr (by kernel_rfl)
        rw [hfe]
        clear hfe hfr hs hty
        simp only [List.foldl_cons, List.foldl_nil]
        generalize tmps[16]?.getD undef = x16
        generalize tmps[17]?.getD undef = x17
        generalize tmps[18]?.getD undef = x18
        generalize tmps[19]?.getD undef = x19
        generalize tmps[20]?.getD undef = x20
        generalize tmps[21]?.getD undef = x21
        generalize tmps[22]?.getD undef = x22
        generalize tmps[23]?.getD undef = x23
        generalize tmps[24]?.getD undef = x24
        generalize tmps[25]?.getD undef = x25
        generalize tmps[26]?.getD undef = x26
        generalize tmps[27]?.getD undef = x27
        rw [h6]
        clear h6
        simp only [List.setIfInBounds_toArray, List.set_cons_succ, List.set_cons_zero]
        replace HX := hid (HX.out.trans hle)
        clear hle a0 a1 a2 a3 az b0 b1 b2 b3 bz
        go_wp2_with fail
        go_ret
        exact ⟨rfl, HX.out⟩
end Go.Proofs.Ytaahaehgdamkdaa
