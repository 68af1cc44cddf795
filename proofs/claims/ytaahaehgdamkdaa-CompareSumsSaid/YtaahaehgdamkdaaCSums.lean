/- The sum and the difference of any two values are told as the document says, or that there is none (the walk). Conditions: the reach of a string, numbers within their kinds. -/
import Derived.Test.YtaahaehgdamkdaaCAwk
import Derived.Test.YtaahaehgdamkdaaVSmall
import Derived.Test.YtaahaehgdamkdaaBase
import Derived.BigQuiet
namespace Go.Proofs.Ytaahaehgdamkdaa
open Go Go.RowKit


set_option maxRecDepth 100000 in
set_option maxHeartbeats 2000000 in
theorem csums_law (k : Nat) (n : Int) (b : Nat) (t : ByteArray) (l : Nat) (m : Int) (c : Nat) (u : ByteArray) (w : World) (hk : k ≤ 255) (hl : l ≤ 255) (hn0 : -9223372036854775808 ≤ n) (hn1 : n ≤ 9223372036854775807) (hm0 : -9223372036854775808 ≤ m) (hm1 : m ≤ 9223372036854775807) (hb : b ≤ 18446744073709551615) (hc : c ≤ 18446744073709551615) (ht : t.size ≤ 9223372036854775807) (hu : u.size ≤ 9223372036854775807) : Calls Try.prog 4 #[.agg #[.int .u8 (k : Int), .int .i64 n, .int .u64 (b : Int), .string t], .agg #[.int .u8 (l : Int), .int .i64 m, .int .u64 (c : Int), .string u]] w (Says w (.bool true)) := by
  have kp := fun W => cplus_any k n b t l m c u W hk hl hn0 hn1 hm0 hm1 hb hc ht hu
  have kr := fun W => rplus_any k n b t l m c u W hn0 hn1 hm0 hm1 hb hc
  have mp := fun W => cminus_any k n b t l m c u W hk hl hn0 hn1 hm0 hm1 hb hc ht hu
  have mr := fun W => rminus_any k n b t l m c u W hn0 hn1 hm0 hm1 hb hc
  obtain ⟨⟨p1, p2, p3, p4⟩, pe, hp⟩ : ∃ X E, plusV k n b t l m c u = (X, E) := ⟨_, _, rfl⟩
  obtain ⟨⟨q1, q2, q3, q4⟩, qe, hq⟩ : ∃ X E, minusV k n b t l m c u = (X, E) := ⟨_, _, rfl⟩
  rw [hp] at kp kr
  rw [hq] at mp mr
  have KP : Hid (∀ W, Calls Try.prog 13 #[.agg #[.int .u8 (k : Int), .int .i64 n, .int .u64 (b : Int), .string t], .agg #[.int .u8 (l : Int), .int .i64 m, .int .u64 (c : Int), .string u]] W (fun e w' => e = .returned (.tuple #[.agg #[.int .u8 (p1 : Int), .int .i64 p2, .int .u64 (p3 : Int), .string p4], .bool pe]) ∧ Ext W w')) := kp
  have KR : Hid (∀ W, Calls Try.prog 14 #[.agg #[.int .u8 (k : Int), .int .i64 n, .int .u64 (b : Int), .string t], .agg #[.int .u8 (l : Int), .int .i64 m, .int .u64 (c : Int), .string u]] W (fun e w' => e = .returned (.tuple #[.agg #[.int .u8 (p1 : Int), .int .i64 p2, .int .u64 (p3 : Int), .string p4], .bool pe]) ∧ Ext W w')) := kr
  have MP : Hid (∀ W, Calls Try.prog 15 #[.agg #[.int .u8 (k : Int), .int .i64 n, .int .u64 (b : Int), .string t], .agg #[.int .u8 (l : Int), .int .i64 m, .int .u64 (c : Int), .string u]] W (fun e w' => e = .returned (.tuple #[.agg #[.int .u8 (q1 : Int), .int .i64 q2, .int .u64 (q3 : Int), .string q4], .bool qe]) ∧ Ext W w')) := mp
  have MR : Hid (∀ W, Calls Try.prog 16 #[.agg #[.int .u8 (k : Int), .int .i64 n, .int .u64 (b : Int), .string t], .agg #[.int .u8 (l : Int), .int .i64 m, .int .u64 (c : Int), .string u]] W (fun e w' => e = .returned (.tuple #[.agg #[.int .u8 (q1 : Int), .int .i64 q2, .int .u64 (q3 : Int), .string q4], .bool qe]) ∧ Ext W w')) := mr
  clear kp kr mp mr hp hq
  have s1 := fun W => small_any k n b t W ht
  have s2 := fun W => small_any l m c u W hu
  go_enter Try.func4, Try.ntmps4
  go_wp2_with fail
  refine (s1 _).mono ?_
  rintro e w1 ⟨rfl, hx⟩
  have HV := hid (hx.block (heap_alloc2_old w _ _))
  have HW := hid (hx.block (heap_alloc2_new w _ _))
  have HX := hid (((Ext.alloc w _).then_alloc _).trans hx)
  clear hx
  obtain ⟨⟨a0, a1, a2, a3⟩, _, az⟩ := box4 HV.out
  obtain ⟨⟨b0, b1, b2, b3⟩, _, bz⟩ := box4 HW.out
  by_cases h1 : 100 < t.size
  · have h1' : 0 < max 0 ((t.size : Int) - 100) := by omega
    generalize max 0 ((t.size : Int) - 100) = S1 at *
    go_wp2_with fail
    refine (awake5_any _).mono ?_
    rintro e w9 ⟨rfl, hx⟩
    go_wp2_with fail
    go_ret
    exact ⟨rfl, HX.out.trans hx⟩
  · have h1' : max 0 ((t.size : Int) - 100) = 0 := by omega
    rw [h1'] at *
    go_wp2_with fail
    refine (s2 _).mono ?_
    rintro e w2 ⟨rfl, hx⟩
    replace HV := hid (hx.block HV.out)
    replace HW := hid (hx.block HW.out)
    replace HX := hid (HX.out.trans hx)
    clear hx a0 a1 a2 a3 az b0 b1 b2 b3 bz
    obtain ⟨⟨a0, a1, a2, a3⟩, _, az⟩ := box4 HV.out
    obtain ⟨⟨b0, b1, b2, b3⟩, _, bz⟩ := box4 HW.out
    by_cases h2 : 100 < u.size
    · have h2' : 0 < max 0 ((u.size : Int) - 100) := by omega
      generalize max 0 ((u.size : Int) - 100) = S2 at *
      go_wp2_with fail
      refine (awake5_any _).mono ?_
      rintro e w9 ⟨rfl, hx⟩
      go_wp2_with fail
      go_ret
      exact ⟨rfl, HX.out.trans hx⟩
    · have h2' : max 0 ((u.size : Int) - 100) = 0 := by omega
      rw [h2'] at *
      clear h1 h2 h1' h2' s1 s2
      go_wp2_with fail
      refine (KP.out _).mono ?_
      rintro e w3 ⟨rfl, hx⟩
      replace HV := hid (hx.block HV.out)
      replace HW := hid (hx.block HW.out)
      replace HX := hid (HX.out.trans hx)
      clear hx a0 a1 a2 a3 az b0 b1 b2 b3 bz
      obtain ⟨⟨a0, a1, a2, a3⟩, _, az⟩ := box4 HV.out
      obtain ⟨⟨b0, b1, b2, b3⟩, _, bz⟩ := box4 HW.out
      go_wp2_with fail
      refine (KR.out _).mono ?_
      rintro e w4 ⟨rfl, hx⟩
      have H5 := hid (hx.block (heap_alloc_new w3 _))
      replace HV := hid (hx.block ((Ext.alloc _ _).block HV.out))
      replace HW := hid (hx.block ((Ext.alloc _ _).block HW.out))
      replace HX := hid ((HX.out.then_alloc _).trans hx)
      clear hx a0 a1 a2 a3 az b0 b1 b2 b3 bz
      obtain ⟨⟨a0, a1, a2, a3⟩, _, az⟩ := box4 HV.out
      obtain ⟨⟨b0, b1, b2, b3⟩, _, bz⟩ := box4 HW.out
      go_wp2_with fail
      refine (MP.out _).mono ?_
      rintro e w5 ⟨rfl, hx⟩
      have H7 := hid (hx.block (heap_alloc_new w4 _))
      replace H5 := hid (hx.block ((Ext.alloc _ _).block H5.out))
      replace HV := hid (hx.block ((Ext.alloc _ _).block HV.out))
      replace HW := hid (hx.block ((Ext.alloc _ _).block HW.out))
      replace HX := hid ((HX.out.then_alloc _).trans hx)
      clear hx a0 a1 a2 a3 az b0 b1 b2 b3 bz
      obtain ⟨⟨a0, a1, a2, a3⟩, _, az⟩ := box4 HV.out
      obtain ⟨⟨b0, b1, b2, b3⟩, _, bz⟩ := box4 HW.out
      go_wp2_with fail
      refine (MR.out _).mono ?_
      rintro e w6 ⟨rfl, hx⟩
      have H9 := hid (hx.block (heap_alloc_new w5 _))
      replace H5 := hid (hx.block ((Ext.alloc _ _).block H5.out))
      replace H7 := hid (hx.block ((Ext.alloc _ _).block H7.out))
      replace HV := hid (hx.block ((Ext.alloc _ _).block HV.out))
      replace HW := hid (hx.block ((Ext.alloc _ _).block HW.out))
      replace HX := hid ((HX.out.then_alloc _).trans hx)
      clear hx a0 a1 a2 a3 az b0 b1 b2 b3 bz
      obtain ⟨⟨a0, a1, a2, a3⟩, _, az⟩ := box4 HV.out
      obtain ⟨⟨b0, b1, b2, b3⟩, _, bz⟩ := box4 HW.out
      clear a0 a1 a2 a3 az b0 b1 b2 b3 bz
      obtain ⟨⟨c0, c1, c2, c3⟩, _, cz⟩ := box4 H5.out
      obtain ⟨⟨d0, d1, d2, d3⟩, _, dz⟩ := box4 H7.out
      obtain ⟨⟨e0, e1, e2, e3⟩, _, ez⟩ := box4 H9.out
      have fq1 : ∀ W : World, (binOp .eql 24 (.agg #[.int .u8 (p1 : Int), .int .i64 p2, .int .u64 (p3 : Int), .string p4]) (.agg #[.int .u8 (p1 : Int), .int .i64 p2, .int .u64 (p3 : Int), .string p4])).run Try.prog W = .ok (.bool true) W := fun W => by have h := run_eq_ref p1 p2 p3 p4 p1 p2 p3 p4 W; rw [eqV_self] at h; exact h
      have fq2 : ∀ W : World, (binOp .eql 24 (.agg #[.int .u8 (q1 : Int), .int .i64 q2, .int .u64 (q3 : Int), .string q4]) (.agg #[.int .u8 (q1 : Int), .int .i64 q2, .int .u64 (q3 : Int), .string q4])).run Try.prog W = .ok (.bool true) W := fun W => by have h := run_eq_ref q1 q2 q3 q4 q1 q2 q3 q4 W; rw [eqV_self] at h; exact h
      go_wp2_with fail
      refine (awake5_any _).mono ?_
      rintro e w9 ⟨rfl, hx⟩
      go_wp2_with fail
      go_ret
      exact ⟨rfl, (HX.out.then_alloc _).trans hx⟩
end Go.Proofs.Ytaahaehgdamkdaa
