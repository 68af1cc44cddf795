/- Sums and differences of values undo each other: the walks. Conditions: the reach of a string, numbers within their kinds. -/
import Derived.Test.YtaahaehgdamkdaaCAwk
import Derived.Test.YtaahaehgdamkdaaVSmall
import Derived.Test.YtaahaehgdamkdaaBase
import Derived.BigQuiet
namespace Go.Proofs.Ytaahaehgdamkdaa
open Go Go.RowKit

theorem blocks2e (w : World) (o1 o2 : Obj) : (((w.alloc o1).alloc o2).drew).heap[w.heap.size]? = some o1 ∧ (((w.alloc o1).alloc o2).drew).heap[w.heap.size + 1]? = some o2 ∧ Ext w ((w.alloc o1).alloc o2).drew := by
  have h1 := ((Ext.alloc (w.alloc o1) o2).then_drew).block (heap_alloc_new w o1)
  have h2 := (Ext.drew ((w.alloc o1).alloc o2)).block (heap_alloc2_new w o1 o2)
  exact ⟨h1, h2, (((Ext.alloc w o1).then_alloc o2).then_drew)⟩
theorem unlike_self (k : Nat) (n : Int) (b : Nat) (t : ByteArray) (w : World) : (binOp .neq 28 (.agg #[.int .u8 (k : Int), .int .i64 n, .int .u64 (b : Int), .string t]) (.agg #[.int .u8 (k : Int), .int .i64 n, .int .u64 (b : Int), .string t])).run Try.prog w = .ok (.bool false) w := by
  have h := run_unlike_val k n b t k n b t w
  have e : sameV k n b t k n b t = true := decide_eq_true ⟨rfl, rfl, rfl, rfl⟩
  rw [e] at h
  exact h
theorem like_self (k : Nat) (n : Int) (b : Nat) (t : ByteArray) (w : World) : (binOp .eql 28 (.agg #[.int .u8 (k : Int), .int .i64 n, .int .u64 (b : Int), .string t]) (.agg #[.int .u8 (k : Int), .int .i64 n, .int .u64 (b : Int), .string t])).run Try.prog w = .ok (.bool true) w := by
  have h := run_eq_val k n b t k n b t w
  rw [eqV_self] at h
  exact h

/-- what the slots of the region hold -/
def cbackG_no (_k _l _p1 : Nat) (_p2 : Int) (_p3 : Nat) (_p4 : ByteArray) (_g5 _g6 _g7 _g9 : Nat) : Nat → Value → World → Prop
  | 0, v, _ => v = .agg #[.int .u8 0, .int .i64 0, .int .u64 0, .string ⟨#[]⟩]
  | 1, v, _ => v = .agg #[.int .u8 0, .int .i64 0, .int .u64 0, .string ⟨#[]⟩]
  | 2, v, _ => v = .bool false
  | 3, v, _ => v = .bool false
  | 4, v, _ => v = .bool false
  | 5, v, _ => v = .bool false
  | 6, v, _ => v = .bool false
  | 7, v, _ => v = .bool false
  | 8, v, _ => v = .bool false
  | 9, v, _ => v = .bool false
  | 10, v, _ => v = .bool false
  | 11, v, _ => v = undef
  | 12, v, _ => v = undef
  | 13, v, _ => v = undef
  | 14, v, _ => v = undef
  | 15, v, _ => v = undef
  | 16, v, _ => v = undef
  | 17, v, _ => v = undef
  | 18, v, _ => v = undef
  | 19, v, _ => v = .bool false
  | 20, v, _ => v = .bool false
  | 21, v, _ => v = .bool false
  | 22, v, _ => v = .bool false
  | 23, v, _ => v = .bool true
  | 24, v, _ => v = .bool true
  | 25, v, _ => v = .agg #[.int .u8 0, .int .i64 0, .int .u64 0, .string ⟨#[]⟩]
  | 26, v, _ => v = .agg #[.int .u8 0, .int .i64 0, .int .u64 0, .string ⟨#[]⟩]
  | 27, v, _ => v = .bool false
  | 28, v, _ => v = .bool false
  | 29, v, _ => v = .bool false
  | 30, v, _ => v = .bool false
  | 31, v, _ => v = .bool false
  | 32, v, _ => v = .bool false
  | 33, v, _ => v = undef
  | 34, v, _ => v = undef
  | 35, v, _ => v = undef
  | 36, v, _ => v = .bool false
  | 37, v, _ => v = .bool false
  | _, _, _ => True
theorem cbackG_no_st (k l p1 : Nat) (p2 : Int) (p3 : Nat) (p4 : ByteArray) (g5 g6 g7 g9 : Nat) : ∀ i9 z9 x9 y9, cbackG_no k l p1 p2 p3 p4 g5 g6 g7 g9 i9 z9 x9 → Ext x9 y9 → cbackG_no k l p1 p2 p3 p4 g5 g6 g7 g9 i9 z9 y9 := by
  intro i9 z9 x9 y9 h e
  unfold cbackG_no at *
  split at h <;> first | exact h | exact Bytes.ext h e

set_option maxRecDepth 100000 in
set_option maxHeartbeats 8000000 in
theorem cback_no (k : Nat) (n : Int) (b : Nat) (t : ByteArray) (l : Nat) (m : Int) (c : Nat) (u : ByteArray) (p1 : Nat) (p2 : Int) (p3 : Nat) (p4 : ByteArray) (q1 : Nat) (q2 : Int) (q3 : Nat) (q4 : ByteArray) (qe : Bool) (w : World) (ht : t.size ≤ 9223372036854775807) (hu : u.size ≤ 9223372036854775807) (hp1 : ∀ W, Calls Try.prog 13 #[.agg #[.int .u8 (k : Int), .int .i64 n, .int .u64 (b : Int), .string t], .agg #[.int .u8 (l : Int), .int .i64 m, .int .u64 (c : Int), .string u]] W (fun e w' => e = .returned (.tuple #[.agg #[.int .u8 0, .int .i64 0, .int .u64 0, .string ⟨#[]⟩], .bool false]) ∧ Ext W w')) (hp2 : ∀ W, Calls Try.prog 13 #[.agg #[.int .u8 (l : Int), .int .i64 m, .int .u64 (c : Int), .string u], .agg #[.int .u8 (k : Int), .int .i64 n, .int .u64 (b : Int), .string t]] W (fun e w' => e = .returned (.tuple #[.agg #[.int .u8 0, .int .i64 0, .int .u64 0, .string ⟨#[]⟩], .bool false]) ∧ Ext W w')) (hm : ∀ W, Calls Try.prog 15 #[.agg #[.int .u8 (k : Int), .int .i64 n, .int .u64 (b : Int), .string t], .agg #[.int .u8 (l : Int), .int .i64 m, .int .u64 (c : Int), .string u]] W (fun e w' => e = .returned (.tuple #[.agg #[.int .u8 (q1 : Int), .int .i64 q2, .int .u64 (q3 : Int), .string q4], .bool qe]) ∧ Ext W w')) (hno : qe = false → q1 = 0 ∧ q2 = 0 ∧ q3 = 0 ∧ q4 = ⟨#[]⟩) (hd : qe = true → q1 = 1 → ∀ W, Calls Try.prog 13 #[.agg #[.int .u8 (q1 : Int), .int .i64 q2, .int .u64 (q3 : Int), .string q4], .agg #[.int .u8 (l : Int), .int .i64 m, .int .u64 (c : Int), .string u]] W (fun e w' => e = .returned (.tuple #[.agg #[.int .u8 (k : Int), .int .i64 n, .int .u64 (b : Int), .string t], .bool true]) ∧ Ext W w')) : Calls Try.prog 7 #[.agg #[.int .u8 (k : Int), .int .i64 n, .int .u64 (b : Int), .string t], .agg #[.int .u8 (l : Int), .int .i64 m, .int .u64 (c : Int), .string u]] w (Says w (.bool true)) := by
  have KP1 := hid hp1
  have KP2 := hid hp2
  have KM := hid hm
  have HNO := hid hno
  have HD := hid hd
  have FE : Hid (∀ W : World, (binOp .neq 28 (.agg #[.int .u8 0, .int .i64 0, .int .u64 0, .string ⟨#[]⟩]) (.agg #[.int .u8 0, .int .i64 0, .int .u64 0, .string ⟨#[]⟩])).run Try.prog W = .ok (.bool false) W) := fun W => unlike_self 0 0 0 noText W
  have fx : ∀ W : World, (binOp .neq 28 (.agg #[.int .u8 (k : Int), .int .i64 n, .int .u64 (b : Int), .string t]) (.agg #[.int .u8 (k : Int), .int .i64 n, .int .u64 (b : Int), .string t])).run Try.prog W = .ok (.bool false) W := fun W => unlike_self k n b t W
  have fz : ∀ W : World, (binOp .eql 28 (.agg #[.int .u8 0, .int .i64 0, .int .u64 0, .string ⟨#[]⟩]) (.agg #[.int .u8 0, .int .i64 0, .int .u64 0, .string ⟨#[]⟩])).run Try.prog W = .ok (.bool true) W := fun W => like_self 0 0 0 noText W
  clear hp1 hp2 hm hno hd
  have s1 := fun W => small_any k n b t W ht
  have s2 := fun W => small_any l m c u W hu
  go_enter Try.func7, Try.ntmps7
  go_wp2_with fail
  refine (s1 _).mono ?_
  rintro e w1 ⟨rfl, hx⟩
  have HV := hid (hx.block (heap_alloc2_old w _ _))
  have HW := hid (hx.block (heap_alloc2_new w _ _))
  have HX := hid (((Ext.alloc w _).then_alloc _).trans hx)
  clear hx
  obtain ⟨⟨a0, a1, a2, a3⟩, _, az⟩ := box4 HV.out
  obtain ⟨⟨b0, b1, b2, b3⟩, _, bz⟩ := box4 HW.out
  by_cases h1 : 100 < t.size
  · have h1' : 0 < max 0 ((t.size : Int) - 100) := by omega
    generalize max 0 ((t.size : Int) - 100) = S1 at *
    go_wp2_with fail
    refine (awake5_any _).mono ?_
    rintro e w9 ⟨rfl, hx⟩
    go_wp2_with fail
    go_ret
    exact ⟨rfl, HX.out.trans hx⟩
  · have h1' : max 0 ((t.size : Int) - 100) = 0 := by omega
    rw [h1'] at *
    go_wp2_with fail
    refine (s2 _).mono ?_
    rintro e w2 ⟨rfl, hx⟩
    replace HV := hid (hx.block HV.out)
    replace HW := hid (hx.block HW.out)
    replace HX := hid (HX.out.trans hx)
    clear hx a0 a1 a2 a3 az b0 b1 b2 b3 bz
    obtain ⟨⟨a0, a1, a2, a3⟩, _, az⟩ := box4 HV.out
    obtain ⟨⟨b0, b1, b2, b3⟩, _, bz⟩ := box4 HW.out
    by_cases h2 : 100 < u.size
    · have h2' : 0 < max 0 ((u.size : Int) - 100) := by omega
      generalize max 0 ((u.size : Int) - 100) = S2 at *
      go_wp2_with fail
      refine (awake5_any _).mono ?_
      rintro e w9 ⟨rfl, hx⟩
      go_wp2_with fail
      go_ret
      exact ⟨rfl, HX.out.trans hx⟩
    · have h2' : max 0 ((u.size : Int) - 100) = 0 := by omega
      rw [h2'] at *
      clear h1 h2 h1' h2' s1 s2
      have hd0 : ¬ w.heap.size = w2.heap.size := by omega
      have hd1 : ¬ w.heap.size = w2.heap.size + 1 := by omega
      have hd2 : ¬ w.heap.size + 1 = w2.heap.size := by omega
      have hd3 : ¬ w.heap.size + 1 = w2.heap.size + 1 := by omega
      have hz1 : w.heap.size < w2.heap.size + 1 := by omega
      have hz2 : w.heap.size < w2.heap.size + 1 + 1 := by omega
      have hz3 : w.heap.size + 1 < w2.heap.size + 1 := by omega
      have hz4 : w.heap.size + 1 < w2.heap.size + 1 + 1 := by omega
      have hz5 : w.heap.size < w2.heap.size + 2 := by omega
      have hz6 : w.heap.size + 1 < w2.heap.size + 2 := by omega
      go_upto_region 3 with fail
      go_cut [5, 6] from 26 to 130 (fun x y wx => ∃ g5 g6, x = .pointer (some ⟨g5, 0, none⟩) ∧ y = .pointer (some ⟨g6, 0, none⟩) ∧ Hid (wx.heap[g5]? = some (.cells #[.int .u8 (k : Int), .int .i64 n, .int .u64 (b : Int), .string t] 28 (0, 0))) ∧ Hid (wx.heap[g6]? = some (.cells #[.int .u8 (l : Int), .int .i64 m, .int .u64 (c : Int), .string u] 28 (0, 0))) ∧ Ext w2 wx)
      case first =>
        go_region
        all_goals (go_wp2_with fail)
        all_goals go_meet
        all_goals
          obtain ⟨q1, q2, q3⟩ := blocks2e w2 _ _
          exact ⟨_, _, rfl, rfl, (by first | exact q1 | exact q2), (by first | exact q1 | exact q2), q3⟩
      case rest =>
        obtain ⟨g5, g6, rfl, rfl, H5, H6, hx⟩ := hcut
        replace HX := hid (HX.out.trans hx)
        clear hx HV HW a0 a1 a2 a3 az b0 b1 b2 b3 bz hd0 hd1 hd2 hd3 hz1 hz2 hz3 hz4 hz5 hz6
        obtain ⟨⟨a0, a1, a2, a3⟩, _, az⟩ := box4 H5.out
        obtain ⟨⟨b0, b1, b2, b3⟩, _, bz⟩ := box4 H6.out
        go_wp2_with fail
        refine (KP1.out _).mono ?_
        rintro e w3 ⟨rfl, hx⟩
        (first | replace HX := hid (HX.out.trans hx) | replace HX := hid ((HX.out.then_alloc _).trans hx))
        (first | replace H5 := hid (hx.block H5.out) | replace H5 := hid (hx.block ((Ext.alloc _ _).block H5.out)))
        (first | replace H6 := hid (hx.block H6.out) | replace H6 := hid (hx.block ((Ext.alloc _ _).block H6.out)))
        clear hx a0 a1 a2 a3 az b0 b1 b2 b3 bz
        obtain ⟨⟨a0, a1, a2, a3⟩, _, az⟩ := box4 H5.out
        obtain ⟨⟨b0, b1, b2, b3⟩, _, bz⟩ := box4 H6.out
        go_wp2_with fail
        obtain ⟨g7, hg7⟩ : ∃ g, g = w3.heap.size := ⟨_, rfl⟩
        have H7 := hid (heap_alloc_new w3 (.cells #[.int .u8 0, .int .i64 0, .int .u64 0, .string ⟨#[]⟩] 28))
        rw [← hg7] at H7 ⊢
        clear hg7
        refine (KP2.out _).mono ?_
        rintro e w4 ⟨rfl, hx⟩
        replace H7 := hid (hx.block H7.out)
        (first | replace HX := hid (HX.out.trans hx) | replace HX := hid ((HX.out.then_alloc _).trans hx))
        (first | replace H5 := hid (hx.block H5.out) | replace H5 := hid (hx.block ((Ext.alloc _ _).block H5.out)))
        (first | replace H6 := hid (hx.block H6.out) | replace H6 := hid (hx.block ((Ext.alloc _ _).block H6.out)))
        clear hx a0 a1 a2 a3 az b0 b1 b2 b3 bz
        obtain ⟨⟨a0, a1, a2, a3⟩, _, az⟩ := box4 H5.out
        obtain ⟨⟨b0, b1, b2, b3⟩, _, bz⟩ := box4 H6.out
        obtain ⟨⟨c0, c1, c2, c3⟩, _, cz⟩ := box4 H7.out
        go_wp2_with fail
        have H9 := hid (heap_alloc_new w4 (.cells #[.int .u8 0, .int .i64 0, .int .u64 0, .string ⟨#[]⟩] 28))
        obtain ⟨g9, hg9⟩ : ∃ g, g = w4.heap.size := ⟨_, rfl⟩
        rw [← hg9] at H9 ⊢
        clear hg9
        replace H5 := hid ((Ext.alloc w4 (.cells #[.int .u8 0, .int .i64 0, .int .u64 0, .string ⟨#[]⟩] 28)).block H5.out)
        replace H6 := hid ((Ext.alloc w4 (.cells #[.int .u8 0, .int .i64 0, .int .u64 0, .string ⟨#[]⟩] 28)).block H6.out)
        replace H7 := hid ((Ext.alloc w4 (.cells #[.int .u8 0, .int .i64 0, .int .u64 0, .string ⟨#[]⟩] 28)).block H7.out)
        replace HX := hid (HX.out.then_alloc (.cells #[.int .u8 0, .int .i64 0, .int .u64 0, .string ⟨#[]⟩] 28))
        clear a0 a1 a2 a3 az b0 b1 b2 b3 bz c0 c1 c2 c3 cz
        refine wp_region_slots Ext (cbackG_no k l p1 p2 p3 p4 g5 g6 g7 g9) (by kernel_rfl) Ext.trans Ext.refl (Ext.drew _) (cbackG_no_st _ _ _ _ _ _ _ _ _ _) (by kernel_rfl) ?_ ?_
        · intro tmps wr hle hfr j o9 ho hty
          have h5 : tmps[5]?.getD undef = .pointer (some ⟨g5, 0, none⟩) := hfr 5 (by kernel_rfl)
          have h6 : tmps[6]?.getD undef = .pointer (some ⟨g6, 0, none⟩) := hfr 6 (by kernel_rfl)
          have h7 : tmps[7]?.getD undef = .pointer (some ⟨g7, 0, none⟩) := hfr 7 (by kernel_rfl)
          have h8 : tmps[8]?.getD undef = .bool false := hfr 8 (by kernel_rfl)
          have h9 : tmps[9]?.getD undef = .pointer (some ⟨g9, 0, none⟩) := hfr 9 (by kernel_rfl)
          have h10 : tmps[10]?.getD undef = .bool false := hfr 10 (by kernel_rfl)
          obtain ⟨⟨a0, a1, a2, a3⟩, _, _⟩ := box4 (hle.block H5.out)
          obtain ⟨⟨b0, b1, b2, b3⟩, _, _⟩ := box4 (hle.block H6.out)
          obtain ⟨⟨c0, c1, c2, c3⟩, _, _⟩ := box4 (hle.block H7.out)
          obtain ⟨⟨d0, d1, d2, d3⟩, _, _⟩ := box4 (hle.block H9.out)
          have fe := FE.out
          clear hfr
          match j, ho with
          | 0, ho =>
            obtain rfl := (Option.some.inj ho)
            clear hty ho
            refine step_pure (.agg #[.int .u8 0, .int .i64 0, .int .u64 0, .string ⟨#[]⟩]) (wanted_free rfl) ?_ (Ext.refl _) rfl
            simp [execOp, Act.eval, h7, c0, c1, c2, c3, go_sem]
          | 1, ho =>
            obtain rfl := (Option.some.inj ho)
            clear hty ho
            refine step_pure (.agg #[.int .u8 0, .int .i64 0, .int .u64 0, .string ⟨#[]⟩]) (wanted_free rfl) ?_ (Ext.refl _) rfl
            simp [execOp, Act.eval, h9, d0, d1, d2, d3, go_sem]
          | 2, ho =>
            have h40 : tmps[40]?.getD undef = .agg #[.int .u8 0, .int .i64 0, .int .u64 0, .string ⟨#[]⟩] := hty 0 40 rfl (by obtain rfl := (Option.some.inj ho); rfl)
            have h41 : tmps[41]?.getD undef = .agg #[.int .u8 0, .int .i64 0, .int .u64 0, .string ⟨#[]⟩] := hty 1 41 rfl (by obtain rfl := (Option.some.inj ho); rfl)
            obtain rfl := (Option.some.inj ho)
            clear hty ho
            refine step_pure (.bool false) (wanted_free rfl) ?_ (Ext.refl _) rfl
            simp [execOp, Act.eval, h40, h41, fe, run_eqGuard_agg, go_sem]
          | 3, ho =>
            have h42 : tmps[42]?.getD undef = .bool false := hty 2 42 rfl (by obtain rfl := (Option.some.inj ho); rfl)
            obtain rfl := (Option.some.inj ho)
            clear hty ho
            refine step_pure (.bool false) (wanted_free rfl) ?_ (Ext.refl _) rfl
            simp [execOp, Act.eval, h42, go_sem]
          | 4, ho =>
            have h43 : tmps[43]?.getD undef = .bool false := hty 3 43 rfl (by obtain rfl := (Option.some.inj ho); rfl)
            obtain rfl := (Option.some.inj ho)
            clear hty ho
            refine step_pure (.bool false) (wanted_guard rfl rfl h43) ?_ (Ext.refl _) rfl
            simp [execOp, Act.eval, h8, go_sem]
          | 5, ho =>
            have h43 : tmps[43]?.getD undef = .bool false := hty 3 43 rfl (by obtain rfl := (Option.some.inj ho); rfl)
            obtain rfl := (Option.some.inj ho)
            clear hty ho
            refine step_pure (.bool false) (wanted_guard rfl rfl h43) ?_ (Ext.refl _) rfl
            simp [execOp, Act.eval, h10, go_sem]
          | 6, ho =>
            have h44 : tmps[44]?.getD undef = .bool false := hty 4 44 rfl (by obtain rfl := (Option.some.inj ho); rfl)
            have h45 : tmps[45]?.getD undef = .bool false := hty 5 45 rfl (by obtain rfl := (Option.some.inj ho); rfl)
            have h43 : tmps[43]?.getD undef = .bool false := hty 3 43 rfl (by obtain rfl := (Option.some.inj ho); rfl)
            obtain rfl := (Option.some.inj ho)
            clear hty ho
            refine step_pure (.bool false) (wanted_guard rfl rfl h43) ?_ (Ext.refl _) rfl
            simp [execOp, Act.eval, h44, h45, go_sem]
          | 7, ho =>
            have h43 : tmps[43]?.getD undef = .bool false := hty 3 43 rfl (by obtain rfl := (Option.some.inj ho); rfl)
            have h46 : tmps[46]?.getD undef = .bool false := hty 6 46 rfl (by obtain rfl := (Option.some.inj ho); rfl)
            obtain rfl := (Option.some.inj ho)
            clear hty ho
            refine step_pure (.bool false) (wanted_free rfl) ?_ (Ext.refl _) rfl
            simp [execOp, Act.eval, h43, h46, go_sem]
          | 8, ho =>
            have h47 : tmps[47]?.getD undef = .bool false := hty 7 47 rfl (by obtain rfl := (Option.some.inj ho); rfl)
            obtain rfl := (Option.some.inj ho)
            clear hty ho
            refine step_pure (.bool false) (wanted_free rfl) ?_ (Ext.refl _) rfl
            simp [execOp, Act.eval, h47, go_sem]
          | 9, ho =>
            have h48 : tmps[48]?.getD undef = .bool false := hty 8 48 rfl (by obtain rfl := (Option.some.inj ho); rfl)
            obtain rfl := (Option.some.inj ho)
            clear hty ho
            refine step_pure (.bool false) (wanted_guard rfl rfl h48) ?_ (Ext.refl _) rfl
            simp [execOp, Act.eval, h8, go_sem]
          | 10, ho =>
            have h49 : tmps[49]?.getD undef = .bool false := hty 9 49 rfl (by obtain rfl := (Option.some.inj ho); rfl)
            have h48 : tmps[48]?.getD undef = .bool false := hty 8 48 rfl (by obtain rfl := (Option.some.inj ho); rfl)
            obtain rfl := (Option.some.inj ho)
            clear hty ho
            refine step_pure (.bool false) (wanted_guard rfl rfl h48) ?_ (Ext.refl _) rfl
            simp [execOp, Act.eval, h49, go_sem]
          | 11, ho =>
            have h50 : tmps[50]?.getD undef = .bool false := hty 10 50 rfl (by obtain rfl := (Option.some.inj ho); rfl)
            obtain rfl := (Option.some.inj ho)
            clear hty ho
            exact step_skip (unwanted_guard rfl rfl h50 (by decide)) rfl
          | 12, ho =>
            have h51 : tmps[51]?.getD undef = undef := hty 11 51 rfl (by obtain rfl := (Option.some.inj ho); rfl)
            have h50 : tmps[50]?.getD undef = .bool false := hty 10 50 rfl (by obtain rfl := (Option.some.inj ho); rfl)
            obtain rfl := (Option.some.inj ho)
            clear hty ho
            exact step_skip (unwanted_guard rfl rfl h50 (by decide)) rfl
          | 13, ho =>
            have h50 : tmps[50]?.getD undef = .bool false := hty 10 50 rfl (by obtain rfl := (Option.some.inj ho); rfl)
            obtain rfl := (Option.some.inj ho)
            clear hty ho
            exact step_skip (unwanted_guard rfl rfl h50 (by decide)) rfl
          | 14, ho =>
            have h53 : tmps[53]?.getD undef = undef := hty 13 53 rfl (by obtain rfl := (Option.some.inj ho); rfl)
            have h50 : tmps[50]?.getD undef = .bool false := hty 10 50 rfl (by obtain rfl := (Option.some.inj ho); rfl)
            obtain rfl := (Option.some.inj ho)
            clear hty ho
            exact step_skip (unwanted_guard rfl rfl h50 (by decide)) rfl
          | 15, ho =>
            have h50 : tmps[50]?.getD undef = .bool false := hty 10 50 rfl (by obtain rfl := (Option.some.inj ho); rfl)
            obtain rfl := (Option.some.inj ho)
            clear hty ho
            exact step_skip (unwanted_guard rfl rfl h50 (by decide)) rfl
          | 16, ho =>
            have h55 : tmps[55]?.getD undef = undef := hty 15 55 rfl (by obtain rfl := (Option.some.inj ho); rfl)
            have h50 : tmps[50]?.getD undef = .bool false := hty 10 50 rfl (by obtain rfl := (Option.some.inj ho); rfl)
            obtain rfl := (Option.some.inj ho)
            clear hty ho
            exact step_skip (unwanted_guard rfl rfl h50 (by decide)) rfl
          | 17, ho =>
            have h54 : tmps[54]?.getD undef = undef := hty 14 54 rfl (by obtain rfl := (Option.some.inj ho); rfl)
            have h56 : tmps[56]?.getD undef = undef := hty 16 56 rfl (by obtain rfl := (Option.some.inj ho); rfl)
            have h50 : tmps[50]?.getD undef = .bool false := hty 10 50 rfl (by obtain rfl := (Option.some.inj ho); rfl)
            obtain rfl := (Option.some.inj ho)
            clear hty ho
            exact step_skip (unwanted_guard rfl rfl h50 (by decide)) rfl
          | 18, ho =>
            have h52 : tmps[52]?.getD undef = undef := hty 12 52 rfl (by obtain rfl := (Option.some.inj ho); rfl)
            have h57 : tmps[57]?.getD undef = undef := hty 17 57 rfl (by obtain rfl := (Option.some.inj ho); rfl)
            have h50 : tmps[50]?.getD undef = .bool false := hty 10 50 rfl (by obtain rfl := (Option.some.inj ho); rfl)
            obtain rfl := (Option.some.inj ho)
            clear hty ho
            exact step_skip (unwanted_guard rfl rfl h50 (by decide)) rfl
          | 19, ho =>
            have h50 : tmps[50]?.getD undef = .bool false := hty 10 50 rfl (by obtain rfl := (Option.some.inj ho); rfl)
            have h58 : tmps[58]?.getD undef = undef := hty 18 58 rfl (by obtain rfl := (Option.some.inj ho); rfl)
            have h48 : tmps[48]?.getD undef = .bool false := hty 8 48 rfl (by obtain rfl := (Option.some.inj ho); rfl)
            obtain rfl := (Option.some.inj ho)
            clear hty ho
            refine step_pure (.bool false) (wanted_guard rfl rfl h48) ?_ (Ext.refl _) rfl
            simp [execOp, Act.eval, h50, h58, go_sem]
          | 20, ho =>
            have h48 : tmps[48]?.getD undef = .bool false := hty 8 48 rfl (by obtain rfl := (Option.some.inj ho); rfl)
            have h59 : tmps[59]?.getD undef = .bool false := hty 19 59 rfl (by obtain rfl := (Option.some.inj ho); rfl)
            obtain rfl := (Option.some.inj ho)
            clear hty ho
            refine step_pure (.bool false) (wanted_free rfl) ?_ (Ext.refl _) rfl
            simp [execOp, Act.eval, h48, h59, go_sem]
          | 21, ho =>
            have h60 : tmps[60]?.getD undef = .bool false := hty 20 60 rfl (by obtain rfl := (Option.some.inj ho); rfl)
            obtain rfl := (Option.some.inj ho)
            clear hty ho
            refine step_pure (.bool false) (wanted_free rfl) ?_ (Ext.refl _) rfl
            simp [execOp, Act.eval, h60, go_sem]
          | 22, ho =>
            have h61 : tmps[61]?.getD undef = .bool false := hty 21 61 rfl (by obtain rfl := (Option.some.inj ho); rfl)
            obtain rfl := (Option.some.inj ho)
            clear hty ho
            refine step_pure (.bool false) (wanted_guard rfl rfl h61) ?_ (Ext.refl _) rfl
            simp [execOp, Act.eval, h8, go_sem]
          | 23, ho =>
            have h62 : tmps[62]?.getD undef = .bool false := hty 22 62 rfl (by obtain rfl := (Option.some.inj ho); rfl)
            have h61 : tmps[61]?.getD undef = .bool false := hty 21 61 rfl (by obtain rfl := (Option.some.inj ho); rfl)
            obtain rfl := (Option.some.inj ho)
            clear hty ho
            refine step_pure (.bool true) (wanted_guard rfl rfl h61) ?_ (Ext.refl _) rfl
            simp [execOp, Act.eval, h62, go_sem]
          | 24, ho =>
            have h63 : tmps[63]?.getD undef = .bool true := hty 23 63 rfl (by obtain rfl := (Option.some.inj ho); rfl)
            have h61 : tmps[61]?.getD undef = .bool false := hty 21 61 rfl (by obtain rfl := (Option.some.inj ho); rfl)
            obtain rfl := (Option.some.inj ho)
            clear hty ho
            refine step_pure (.bool true) (wanted_guard rfl rfl h61) ?_ (Ext.refl _) rfl
            simp [execOp, Act.eval, h63, go_sem]
          | 25, ho =>
            have h64 : tmps[64]?.getD undef = .bool true := hty 24 64 rfl (by obtain rfl := (Option.some.inj ho); rfl)
            obtain rfl := (Option.some.inj ho)
            clear hty ho
            refine step_pure (.agg #[.int .u8 0, .int .i64 0, .int .u64 0, .string ⟨#[]⟩]) (wanted_guard rfl rfl h64) ?_ (Ext.refl _) rfl
            simp [execOp, Act.eval, h7, c0, c1, c2, c3, go_sem]
          | 26, ho =>
            have h64 : tmps[64]?.getD undef = .bool true := hty 24 64 rfl (by obtain rfl := (Option.some.inj ho); rfl)
            obtain rfl := (Option.some.inj ho)
            clear hty ho
            refine step_pure (.agg #[.int .u8 0, .int .i64 0, .int .u64 0, .string ⟨#[]⟩]) (wanted_guard rfl rfl h64) ?_ (Ext.refl _) rfl
            simp [execOp, Act.eval, go_sem]
          | 27, ho =>
            have h65 : tmps[65]?.getD undef = .agg #[.int .u8 0, .int .i64 0, .int .u64 0, .string ⟨#[]⟩] := hty 25 65 rfl (by obtain rfl := (Option.some.inj ho); rfl)
            have h66 : tmps[66]?.getD undef = .agg #[.int .u8 0, .int .i64 0, .int .u64 0, .string ⟨#[]⟩] := hty 26 66 rfl (by obtain rfl := (Option.some.inj ho); rfl)
            have h64 : tmps[64]?.getD undef = .bool true := hty 24 64 rfl (by obtain rfl := (Option.some.inj ho); rfl)
            obtain rfl := (Option.some.inj ho)
            clear hty ho
            refine step_pure (.bool false) (wanted_guard rfl rfl h64) ?_ (Ext.refl _) rfl
            simp [execOp, Act.eval, h65, h66, fe, run_eqGuard_agg, go_sem]
          | 28, ho =>
            have h64 : tmps[64]?.getD undef = .bool true := hty 24 64 rfl (by obtain rfl := (Option.some.inj ho); rfl)
            have h67 : tmps[67]?.getD undef = .bool false := hty 27 67 rfl (by obtain rfl := (Option.some.inj ho); rfl)
            have h61 : tmps[61]?.getD undef = .bool false := hty 21 61 rfl (by obtain rfl := (Option.some.inj ho); rfl)
            obtain rfl := (Option.some.inj ho)
            clear hty ho
            refine step_pure (.bool false) (wanted_guard rfl rfl h61) ?_ (Ext.refl _) rfl
            simp [execOp, Act.eval, h64, h67, go_sem]
          | 29, ho =>
            have h61 : tmps[61]?.getD undef = .bool false := hty 21 61 rfl (by obtain rfl := (Option.some.inj ho); rfl)
            have h68 : tmps[68]?.getD undef = .bool false := hty 28 68 rfl (by obtain rfl := (Option.some.inj ho); rfl)
            obtain rfl := (Option.some.inj ho)
            clear hty ho
            refine step_pure (.bool false) (wanted_free rfl) ?_ (Ext.refl _) rfl
            simp [execOp, Act.eval, h61, h68, go_sem]
          | 30, ho =>
            have h69 : tmps[69]?.getD undef = .bool false := hty 29 69 rfl (by obtain rfl := (Option.some.inj ho); rfl)
            obtain rfl := (Option.some.inj ho)
            clear hty ho
            refine step_pure (.bool false) (wanted_free rfl) ?_ (Ext.refl _) rfl
            simp [execOp, Act.eval, h69, go_sem]
          | 31, ho =>
            have h70 : tmps[70]?.getD undef = .bool false := hty 30 70 rfl (by obtain rfl := (Option.some.inj ho); rfl)
            obtain rfl := (Option.some.inj ho)
            clear hty ho
            refine step_pure (.bool false) (wanted_guard rfl rfl h70) ?_ (Ext.refl _) rfl
            simp [execOp, Act.eval, h8, go_sem]
          | 32, ho =>
            have h71 : tmps[71]?.getD undef = .bool false := hty 31 71 rfl (by obtain rfl := (Option.some.inj ho); rfl)
            have h70 : tmps[70]?.getD undef = .bool false := hty 30 70 rfl (by obtain rfl := (Option.some.inj ho); rfl)
            obtain rfl := (Option.some.inj ho)
            clear hty ho
            refine step_pure (.bool false) (wanted_guard rfl rfl h70) ?_ (Ext.refl _) rfl
            simp [execOp, Act.eval, h71, go_sem]
          | 33, ho =>
            have h72 : tmps[72]?.getD undef = .bool false := hty 32 72 rfl (by obtain rfl := (Option.some.inj ho); rfl)
            obtain rfl := (Option.some.inj ho)
            clear hty ho
            exact step_skip (unwanted_guard rfl rfl h72 (by decide)) rfl
          | 34, ho =>
            have h73 : tmps[73]?.getD undef = undef := hty 33 73 rfl (by obtain rfl := (Option.some.inj ho); rfl)
            have h72 : tmps[72]?.getD undef = .bool false := hty 32 72 rfl (by obtain rfl := (Option.some.inj ho); rfl)
            obtain rfl := (Option.some.inj ho)
            clear hty ho
            exact step_skip (unwanted_guard rfl rfl h72 (by decide)) rfl
          | 35, ho =>
            have h74 : tmps[74]?.getD undef = undef := hty 34 74 rfl (by obtain rfl := (Option.some.inj ho); rfl)
            have h72 : tmps[72]?.getD undef = .bool false := hty 32 72 rfl (by obtain rfl := (Option.some.inj ho); rfl)
            obtain rfl := (Option.some.inj ho)
            clear hty ho
            exact step_skip (unwanted_guard rfl rfl h72 (by decide)) rfl
          | 36, ho =>
            have h72 : tmps[72]?.getD undef = .bool false := hty 32 72 rfl (by obtain rfl := (Option.some.inj ho); rfl)
            have h75 : tmps[75]?.getD undef = undef := hty 35 75 rfl (by obtain rfl := (Option.some.inj ho); rfl)
            have h70 : tmps[70]?.getD undef = .bool false := hty 30 70 rfl (by obtain rfl := (Option.some.inj ho); rfl)
            obtain rfl := (Option.some.inj ho)
            clear hty ho
            refine step_pure (.bool false) (wanted_guard rfl rfl h70) ?_ (Ext.refl _) rfl
            simp [execOp, Act.eval, h72, h75, go_sem]
          | 37, ho =>
            have h70 : tmps[70]?.getD undef = .bool false := hty 30 70 rfl (by obtain rfl := (Option.some.inj ho); rfl)
            have h76 : tmps[76]?.getD undef = .bool false := hty 36 76 rfl (by obtain rfl := (Option.some.inj ho); rfl)
            obtain rfl := (Option.some.inj ho)
            clear hty ho
            refine step_pure (.bool false) (wanted_free rfl) ?_ (Ext.refl _) rfl
            simp [execOp, Act.eval, h70, h76, go_sem]
          | (j + 38), ho => exact absurd ho (by simp)
        · intro tmps w6 hle hs hfr hty
          have h77 : tmps[77]?.getD undef = .bool false := hty 37 77 rfl
          have hfe := frame_eq [40, 41, 42, 43, 44, 45, 46, 47, 48, 49, 50, 51, 52, 53, 54, 55, 56, 57, 58, 59, 60, 61, 62, 63, 64, 65, 66, 67, 68, 69, 70, 71, 72, 73, 74, 75, 76, 77] hs hfr (by kernel_rfl)
          rw [hfe]
          clear hfe hfr hs hty
          simp only [List.foldl_cons, List.foldl_nil]
          generalize tmps[40]?.getD undef = x40
          generalize tmps[41]?.getD undef = x41
          generalize tmps[42]?.getD undef = x42
          generalize tmps[43]?.getD undef = x43
          generalize tmps[44]?.getD undef = x44
          generalize tmps[45]?.getD undef = x45
          generalize tmps[46]?.getD undef = x46
          generalize tmps[47]?.getD undef = x47
          generalize tmps[48]?.getD undef = x48
          generalize tmps[49]?.getD undef = x49
          generalize tmps[50]?.getD undef = x50
          generalize tmps[51]?.getD undef = x51
          generalize tmps[52]?.getD undef = x52
          generalize tmps[53]?.getD undef = x53
          generalize tmps[54]?.getD undef = x54
          generalize tmps[55]?.getD undef = x55
          generalize tmps[56]?.getD undef = x56
          generalize tmps[57]?.getD undef = x57
          generalize tmps[58]?.getD undef = x58
          generalize tmps[59]?.getD undef = x59
          generalize tmps[60]?.getD undef = x60
          generalize tmps[61]?.getD undef = x61
          generalize tmps[62]?.getD undef = x62
          generalize tmps[63]?.getD undef = x63
          generalize tmps[64]?.getD undef = x64
          generalize tmps[65]?.getD undef = x65
          generalize tmps[66]?.getD undef = x66
          generalize tmps[67]?.getD undef = x67
          generalize tmps[68]?.getD undef = x68
          generalize tmps[69]?.getD undef = x69
          generalize tmps[70]?.getD undef = x70
          generalize tmps[71]?.getD undef = x71
          generalize tmps[72]?.getD undef = x72
          generalize tmps[73]?.getD undef = x73
          generalize tmps[74]?.getD undef = x74
          generalize tmps[75]?.getD undef = x75
          generalize tmps[76]?.getD undef = x76
          rw [h77]
          clear h77
          simp only [List.setIfInBounds_toArray, List.set_cons_succ, List.set_cons_zero]
          replace HX := hid (HX.out.trans hle)
          replace H5 := hid (hle.block H5.out)
          replace H6 := hid (hle.block H6.out)
          replace H7 := hid (hle.block H7.out)
          clear hle
          obtain ⟨⟨a0, a1, a2, a3⟩, _, az⟩ := box4 H5.out
          obtain ⟨⟨b0, b1, b2, b3⟩, _, bz⟩ := box4 H6.out
          obtain ⟨⟨c0, c1, c2, c3⟩, _, cz⟩ := box4 H7.out
          go_wp2_with fail
          refine (KM.out _).mono ?_
          rintro e w8 ⟨rfl, hx⟩
          (first | replace HX := hid (HX.out.trans hx) | replace HX := hid ((HX.out.then_alloc _).trans hx))
          (first | replace H5 := hid (hx.block H5.out) | replace H5 := hid (hx.block ((Ext.alloc _ _).block H5.out)))
          (first | replace H6 := hid (hx.block H6.out) | replace H6 := hid (hx.block ((Ext.alloc _ _).block H6.out)))
          (first | replace H7 := hid (hx.block H7.out) | replace H7 := hid (hx.block ((Ext.alloc _ _).block H7.out)))
          clear hx a0 a1 a2 a3 az b0 b1 b2 b3 bz c0 c1 c2 c3 cz
          obtain ⟨⟨a0, a1, a2, a3⟩, _, az⟩ := box4 H5.out
          obtain ⟨⟨b0, b1, b2, b3⟩, _, bz⟩ := box4 H6.out
          obtain ⟨⟨c0, c1, c2, c3⟩, _, cz⟩ := box4 H7.out
          cases qe
          case false =>
            obtain ⟨rfl, rfl, rfl, rfl⟩ := HNO.out rfl
            go_wp2_with ((with_reducible show Calls _ 10 _ _ _); refine (awake5_any _).mono ?_; rintro e w9 ⟨rfl, hx⟩; replace HX := hid ((HX.out.then_alloc _).trans hx); clear hx)
            go_ret
            exact ⟨rfl, HX.out⟩
          case true =>
            by_cases hq1 : q1 = 1
            · subst hq1
              have KPD := hid (HD.out rfl rfl)
              go_wp2_with fail
              refine (KPD.out _).mono ?_
              rintro e w9 ⟨rfl, hx⟩
              (first | replace HX := hid (HX.out.trans hx) | replace HX := hid ((HX.out.then_alloc _).trans hx))
              (first | replace H5 := hid (hx.block H5.out) | replace H5 := hid (hx.block ((Ext.alloc _ _).block H5.out)))
              (first | replace H6 := hid (hx.block H6.out) | replace H6 := hid (hx.block ((Ext.alloc _ _).block H6.out)))
              (first | replace H7 := hid (hx.block H7.out) | replace H7 := hid (hx.block ((Ext.alloc _ _).block H7.out)))
              clear hx a0 a1 a2 a3 az b0 b1 b2 b3 bz c0 c1 c2 c3 cz
              obtain ⟨⟨a0, a1, a2, a3⟩, _, az⟩ := box4 H5.out
              obtain ⟨⟨b0, b1, b2, b3⟩, _, bz⟩ := box4 H6.out
              obtain ⟨⟨c0, c1, c2, c3⟩, _, cz⟩ := box4 H7.out
              go_wp2_with ((with_reducible show Calls _ 10 _ _ _); refine (awake5_any _).mono ?_; rintro e w9 ⟨rfl, hx⟩; replace HX := hid ((HX.out.then_alloc _).trans hx); clear hx)
              go_ret
              exact ⟨rfl, HX.out⟩
            · have nq1 : ((q1 : Int) == 1) = false := beq_eq_false_iff_ne.2 (by omega)
              clear hq1
              go_wp2_with ((with_reducible show Calls _ 10 _ _ _); refine (awake5_any _).mono ?_; rintro e w9 ⟨rfl, hx⟩; replace HX := hid ((HX.out.then_alloc _).trans hx); clear hx)
              go_ret
              exact ⟨rfl, HX.out⟩
/-- what the slots of the region hold -/
def cbackG_int (k l p1 : Nat) (p2 : Int) (p3 : Nat) (p4 : ByteArray) (g5 g6 g7 _g9 : Nat) : Nat → Value → World → Prop
  | 0, v, _ => v = .agg #[.int .u8 (p1 : Int), .int .i64 p2, .int .u64 (p3 : Int), .string p4]
  | 1, v, _ => v = .agg #[.int .u8 (p1 : Int), .int .i64 p2, .int .u64 (p3 : Int), .string p4]
  | 2, v, _ => v = .bool false
  | 3, v, _ => v = .bool false
  | 4, v, _ => v = .bool true
  | 5, v, _ => v = .bool true
  | 6, v, _ => v = .bool false
  | 7, v, _ => v = .bool false
  | 8, v, _ => v = .bool false
  | 9, v, _ => v = .bool true
  | 10, v, _ => v = .bool true
  | 11, v, _ => v = .pointer (some ⟨g7, 0, none⟩)
  | 12, v, _ => v = .int .u8 (p1 : Int)
  | 13, v, _ => v = .pointer (some ⟨g5, 0, none⟩)
  | 14, v, _ => v = .int .u8 (k : Int)
  | 15, v, _ => v = .pointer (some ⟨g6, 0, none⟩)
  | 16, v, _ => v = .int .u8 (l : Int)
  | 17, v, _ => v = .int .u8 (p1 : Int)
  | 18, v, _ => v = .bool false
  | 19, v, _ => v = .bool false
  | 20, v, _ => v = .bool false
  | 21, v, _ => v = .bool false
  | 22, v, _ => v = .bool true
  | 23, v, _ => v = .bool false
  | 24, v, _ => v = .bool false
  | 25, v, _ => v = undef
  | 26, v, _ => v = undef
  | 27, v, _ => v = undef
  | 28, v, _ => v = .bool false
  | 29, v, _ => v = .bool false
  | 30, v, _ => v = .bool false
  | 31, v, _ => v = .bool true
  | 32, v, _ => v = .bool true
  | 33, v, _ => v = .agg #[.int .u8 (p1 : Int), .int .i64 p2, .int .u64 (p3 : Int), .string p4]
  | 34, v, _ => v = .int .i64 0
  | 35, v, _ => v = .bool false
  | 36, v, _ => v = .bool false
  | 37, v, _ => v = .bool false
  | _, _, _ => True
theorem cbackG_int_st (k l p1 : Nat) (p2 : Int) (p3 : Nat) (p4 : ByteArray) (g5 g6 g7 g9 : Nat) : ∀ i9 z9 x9 y9, cbackG_int k l p1 p2 p3 p4 g5 g6 g7 g9 i9 z9 x9 → Ext x9 y9 → cbackG_int k l p1 p2 p3 p4 g5 g6 g7 g9 i9 z9 y9 := by
  intro i9 z9 x9 y9 h e
  unfold cbackG_int at *
  split at h <;> first | exact h | exact Bytes.ext h e

set_option maxRecDepth 100000 in
set_option maxHeartbeats 8000000 in
theorem cback_int (k : Nat) (n : Int) (b : Nat) (t : ByteArray) (l : Nat) (m : Int) (c : Nat) (u : ByteArray) (p1 : Nat) (p2 : Int) (p3 : Nat) (p4 : ByteArray) (q1 : Nat) (q2 : Int) (q3 : Nat) (q4 : ByteArray) (qe : Bool) (w : World) (ht : t.size ≤ 9223372036854775807) (hu : u.size ≤ 9223372036854775807) (hp1 : ∀ W, Calls Try.prog 13 #[.agg #[.int .u8 (k : Int), .int .i64 n, .int .u64 (b : Int), .string t], .agg #[.int .u8 (l : Int), .int .i64 m, .int .u64 (c : Int), .string u]] W (fun e w' => e = .returned (.tuple #[.agg #[.int .u8 (p1 : Int), .int .i64 p2, .int .u64 (p3 : Int), .string p4], .bool true]) ∧ Ext W w')) (hp2 : ∀ W, Calls Try.prog 13 #[.agg #[.int .u8 (l : Int), .int .i64 m, .int .u64 (c : Int), .string u], .agg #[.int .u8 (k : Int), .int .i64 n, .int .u64 (b : Int), .string t]] W (fun e w' => e = .returned (.tuple #[.agg #[.int .u8 (p1 : Int), .int .i64 p2, .int .u64 (p3 : Int), .string p4], .bool true]) ∧ Ext W w')) (hm : ∀ W, Calls Try.prog 15 #[.agg #[.int .u8 (k : Int), .int .i64 n, .int .u64 (b : Int), .string t], .agg #[.int .u8 (l : Int), .int .i64 m, .int .u64 (c : Int), .string u]] W (fun e w' => e = .returned (.tuple #[.agg #[.int .u8 (q1 : Int), .int .i64 q2, .int .u64 (q3 : Int), .string q4], .bool qe]) ∧ Ext W w')) (hno : qe = false → q1 = 0 ∧ q2 = 0 ∧ q3 = 0 ∧ q4 = ⟨#[]⟩) (hd : qe = true → q1 = 1 → ∀ W, Calls Try.prog 13 #[.agg #[.int .u8 (q1 : Int), .int .i64 q2, .int .u64 (q3 : Int), .string q4], .agg #[.int .u8 (l : Int), .int .i64 m, .int .u64 (c : Int), .string u]] W (fun e w' => e = .returned (.tuple #[.agg #[.int .u8 (k : Int), .int .i64 n, .int .u64 (b : Int), .string t], .bool true]) ∧ Ext W w')) (hs : ∀ W, Calls Try.prog 23 #[.int .u8 (k : Int), .int .u8 (l : Int)] W (fun e w' => e = .returned (.int .u8 (p1 : Int)) ∧ Ext W w')) (hc0 : ∀ W, Calls Try.prog 25 #[.agg #[.int .u8 (p1 : Int), .int .i64 p2, .int .u64 (p3 : Int), .string p4]] W (fun e w' => e = .returned (.int .i64 0) ∧ Ext W w')) (hk1 : p1 = 1) (hms : ∀ W, Calls Try.prog 15 #[.agg #[.int .u8 (p1 : Int), .int .i64 p2, .int .u64 (p3 : Int), .string p4], .agg #[.int .u8 (l : Int), .int .i64 m, .int .u64 (c : Int), .string u]] W (fun e w' => e = .returned (.tuple #[.agg #[.int .u8 (k : Int), .int .i64 n, .int .u64 (b : Int), .string t], .bool true]) ∧ Ext W w')) : Calls Try.prog 7 #[.agg #[.int .u8 (k : Int), .int .i64 n, .int .u64 (b : Int), .string t], .agg #[.int .u8 (l : Int), .int .i64 m, .int .u64 (c : Int), .string u]] w (Says w (.bool true)) := by
  have KP1 := hid hp1
  have KP2 := hid hp2
  have KM := hid hm
  have HNO := hid hno
  have HD := hid hd
  have KS := hid hs
  have KC := hid hc0
  have KMS := hid hms
  have FE : Hid (∀ W : World, (binOp .neq 28 (.agg #[.int .u8 (p1 : Int), .int .i64 p2, .int .u64 (p3 : Int), .string p4]) (.agg #[.int .u8 (p1 : Int), .int .i64 p2, .int .u64 (p3 : Int), .string p4])).run Try.prog W = .ok (.bool false) W) := fun W => unlike_self p1 p2 p3 p4 W
  have fx : ∀ W : World, (binOp .neq 28 (.agg #[.int .u8 (k : Int), .int .i64 n, .int .u64 (b : Int), .string t]) (.agg #[.int .u8 (k : Int), .int .i64 n, .int .u64 (b : Int), .string t])).run Try.prog W = .ok (.bool false) W := fun W => unlike_self k n b t W
  have fz : ∀ W : World, (binOp .eql 28 (.agg #[.int .u8 0, .int .i64 0, .int .u64 0, .string ⟨#[]⟩]) (.agg #[.int .u8 0, .int .i64 0, .int .u64 0, .string ⟨#[]⟩])).run Try.prog W = .ok (.bool true) W := fun W => like_self 0 0 0 noText W
  have ik1 : ((p1 : Int) == 1) = true := beq_iff_eq.2 (by omega)
  clear hp1 hp2 hm hno hd hs hc0 hms hk1
  have s1 := fun W => small_any k n b t W ht
  have s2 := fun W => small_any l m c u W hu
  go_enter Try.func7, Try.ntmps7
  go_wp2_with fail
  refine (s1 _).mono ?_
  rintro e w1 ⟨rfl, hx⟩
  have HV := hid (hx.block (heap_alloc2_old w _ _))
  have HW := hid (hx.block (heap_alloc2_new w _ _))
  have HX := hid (((Ext.alloc w _).then_alloc _).trans hx)
  clear hx
  obtain ⟨⟨a0, a1, a2, a3⟩, _, az⟩ := box4 HV.out
  obtain ⟨⟨b0, b1, b2, b3⟩, _, bz⟩ := box4 HW.out
  by_cases h1 : 100 < t.size
  · have h1' : 0 < max 0 ((t.size : Int) - 100) := by omega
    generalize max 0 ((t.size : Int) - 100) = S1 at *
    go_wp2_with fail
    refine (awake5_any _).mono ?_
    rintro e w9 ⟨rfl, hx⟩
    go_wp2_with fail
    go_ret
    exact ⟨rfl, HX.out.trans hx⟩
  · have h1' : max 0 ((t.size : Int) - 100) = 0 := by omega
    rw [h1'] at *
    go_wp2_with fail
    refine (s2 _).mono ?_
    rintro e w2 ⟨rfl, hx⟩
    replace HV := hid (hx.block HV.out)
    replace HW := hid (hx.block HW.out)
    replace HX := hid (HX.out.trans hx)
    clear hx a0 a1 a2 a3 az b0 b1 b2 b3 bz
    obtain ⟨⟨a0, a1, a2, a3⟩, _, az⟩ := box4 HV.out
    obtain ⟨⟨b0, b1, b2, b3⟩, _, bz⟩ := box4 HW.out
    by_cases h2 : 100 < u.size
    · have h2' : 0 < max 0 ((u.size : Int) - 100) := by omega
      generalize max 0 ((u.size : Int) - 100) = S2 at *
      go_wp2_with fail
      refine (awake5_any _).mono ?_
      rintro e w9 ⟨rfl, hx⟩
      go_wp2_with fail
      go_ret
      exact ⟨rfl, HX.out.trans hx⟩
    · have h2' : max 0 ((u.size : Int) - 100) = 0 := by omega
      rw [h2'] at *
      clear h1 h2 h1' h2' s1 s2
      have hd0 : ¬ w.heap.size = w2.heap.size := by omega
      have hd1 : ¬ w.heap.size = w2.heap.size + 1 := by omega
      have hd2 : ¬ w.heap.size + 1 = w2.heap.size := by omega
      have hd3 : ¬ w.heap.size + 1 = w2.heap.size + 1 := by omega
      have hz1 : w.heap.size < w2.heap.size + 1 := by omega
      have hz2 : w.heap.size < w2.heap.size + 1 + 1 := by omega
      have hz3 : w.heap.size + 1 < w2.heap.size + 1 := by omega
      have hz4 : w.heap.size + 1 < w2.heap.size + 1 + 1 := by omega
      have hz5 : w.heap.size < w2.heap.size + 2 := by omega
      have hz6 : w.heap.size + 1 < w2.heap.size + 2 := by omega
      go_upto_region 3 with fail
      go_cut [5, 6] from 26 to 130 (fun x y wx => ∃ g5 g6, x = .pointer (some ⟨g5, 0, none⟩) ∧ y = .pointer (some ⟨g6, 0, none⟩) ∧ Hid (wx.heap[g5]? = some (.cells #[.int .u8 (k : Int), .int .i64 n, .int .u64 (b : Int), .string t] 28 (0, 0))) ∧ Hid (wx.heap[g6]? = some (.cells #[.int .u8 (l : Int), .int .i64 m, .int .u64 (c : Int), .string u] 28 (0, 0))) ∧ Ext w2 wx)
      case first =>
        go_region
        all_goals (go_wp2_with fail)
        all_goals go_meet
        all_goals
          obtain ⟨q1, q2, q3⟩ := blocks2e w2 _ _
          exact ⟨_, _, rfl, rfl, (by first | exact q1 | exact q2), (by first | exact q1 | exact q2), q3⟩
      case rest =>
        obtain ⟨g5, g6, rfl, rfl, H5, H6, hx⟩ := hcut
        replace HX := hid (HX.out.trans hx)
        clear hx HV HW a0 a1 a2 a3 az b0 b1 b2 b3 bz hd0 hd1 hd2 hd3 hz1 hz2 hz3 hz4 hz5 hz6
        obtain ⟨⟨a0, a1, a2, a3⟩, _, az⟩ := box4 H5.out
        obtain ⟨⟨b0, b1, b2, b3⟩, _, bz⟩ := box4 H6.out
        go_wp2_with fail
        refine (KP1.out _).mono ?_
        rintro e w3 ⟨rfl, hx⟩
        (first | replace HX := hid (HX.out.trans hx) | replace HX := hid ((HX.out.then_alloc _).trans hx))
        (first | replace H5 := hid (hx.block H5.out) | replace H5 := hid (hx.block ((Ext.alloc _ _).block H5.out)))
        (first | replace H6 := hid (hx.block H6.out) | replace H6 := hid (hx.block ((Ext.alloc _ _).block H6.out)))
        clear hx a0 a1 a2 a3 az b0 b1 b2 b3 bz
        obtain ⟨⟨a0, a1, a2, a3⟩, _, az⟩ := box4 H5.out
        obtain ⟨⟨b0, b1, b2, b3⟩, _, bz⟩ := box4 H6.out
        go_wp2_with fail
        obtain ⟨g7, hg7⟩ : ∃ g, g = w3.heap.size := ⟨_, rfl⟩
        have H7 := hid (heap_alloc_new w3 (.cells #[.int .u8 (p1 : Int), .int .i64 p2, .int .u64 (p3 : Int), .string p4] 28))
        rw [← hg7] at H7 ⊢
        clear hg7
        refine (KP2.out _).mono ?_
        rintro e w4 ⟨rfl, hx⟩
        replace H7 := hid (hx.block H7.out)
        (first | replace HX := hid (HX.out.trans hx) | replace HX := hid ((HX.out.then_alloc _).trans hx))
        (first | replace H5 := hid (hx.block H5.out) | replace H5 := hid (hx.block ((Ext.alloc _ _).block H5.out)))
        (first | replace H6 := hid (hx.block H6.out) | replace H6 := hid (hx.block ((Ext.alloc _ _).block H6.out)))
        clear hx a0 a1 a2 a3 az b0 b1 b2 b3 bz
        obtain ⟨⟨a0, a1, a2, a3⟩, _, az⟩ := box4 H5.out
        obtain ⟨⟨b0, b1, b2, b3⟩, _, bz⟩ := box4 H6.out
        obtain ⟨⟨c0, c1, c2, c3⟩, _, cz⟩ := box4 H7.out
        go_wp2_with fail
        have H9 := hid (heap_alloc_new w4 (.cells #[.int .u8 (p1 : Int), .int .i64 p2, .int .u64 (p3 : Int), .string p4] 28))
        obtain ⟨g9, hg9⟩ : ∃ g, g = w4.heap.size := ⟨_, rfl⟩
        rw [← hg9] at H9 ⊢
        clear hg9
        replace H5 := hid ((Ext.alloc w4 (.cells #[.int .u8 (p1 : Int), .int .i64 p2, .int .u64 (p3 : Int), .string p4] 28)).block H5.out)
        replace H6 := hid ((Ext.alloc w4 (.cells #[.int .u8 (p1 : Int), .int .i64 p2, .int .u64 (p3 : Int), .string p4] 28)).block H6.out)
        replace H7 := hid ((Ext.alloc w4 (.cells #[.int .u8 (p1 : Int), .int .i64 p2, .int .u64 (p3 : Int), .string p4] 28)).block H7.out)
        replace HX := hid (HX.out.then_alloc (.cells #[.int .u8 (p1 : Int), .int .i64 p2, .int .u64 (p3 : Int), .string p4] 28))
        clear a0 a1 a2 a3 az b0 b1 b2 b3 bz c0 c1 c2 c3 cz
        refine wp_region_slots Ext (cbackG_int k l p1 p2 p3 p4 g5 g6 g7 g9) (by kernel_rfl) Ext.trans Ext.refl (Ext.drew _) (cbackG_int_st _ _ _ _ _ _ _ _ _ _) (by kernel_rfl) ?_ ?_
        · intro tmps wr hle hfr j o9 ho hty
          have h5 : tmps[5]?.getD undef = .pointer (some ⟨g5, 0, none⟩) := hfr 5 (by kernel_rfl)
          have h6 : tmps[6]?.getD undef = .pointer (some ⟨g6, 0, none⟩) := hfr 6 (by kernel_rfl)
          have h7 : tmps[7]?.getD undef = .pointer (some ⟨g7, 0, none⟩) := hfr 7 (by kernel_rfl)
          have h8 : tmps[8]?.getD undef = .bool true := hfr 8 (by kernel_rfl)
          have h9 : tmps[9]?.getD undef = .pointer (some ⟨g9, 0, none⟩) := hfr 9 (by kernel_rfl)
          have h10 : tmps[10]?.getD undef = .bool true := hfr 10 (by kernel_rfl)
          obtain ⟨⟨a0, a1, a2, a3⟩, _, _⟩ := box4 (hle.block H5.out)
          obtain ⟨⟨b0, b1, b2, b3⟩, _, _⟩ := box4 (hle.block H6.out)
          obtain ⟨⟨c0, c1, c2, c3⟩, _, _⟩ := box4 (hle.block H7.out)
          obtain ⟨⟨d0, d1, d2, d3⟩, _, _⟩ := box4 (hle.block H9.out)
          have fe := FE.out
          clear hfr
          match j, ho with
          | 0, ho =>
            obtain rfl := (Option.some.inj ho)
            clear hty ho
            refine step_pure (.agg #[.int .u8 (p1 : Int), .int .i64 p2, .int .u64 (p3 : Int), .string p4]) (wanted_free rfl) ?_ (Ext.refl _) rfl
            simp [execOp, Act.eval, h7, c0, c1, c2, c3, go_sem]
          | 1, ho =>
            obtain rfl := (Option.some.inj ho)
            clear hty ho
            refine step_pure (.agg #[.int .u8 (p1 : Int), .int .i64 p2, .int .u64 (p3 : Int), .string p4]) (wanted_free rfl) ?_ (Ext.refl _) rfl
            simp [execOp, Act.eval, h9, d0, d1, d2, d3, go_sem]
          | 2, ho =>
            have h40 : tmps[40]?.getD undef = .agg #[.int .u8 (p1 : Int), .int .i64 p2, .int .u64 (p3 : Int), .string p4] := hty 0 40 rfl (by obtain rfl := (Option.some.inj ho); rfl)
            have h41 : tmps[41]?.getD undef = .agg #[.int .u8 (p1 : Int), .int .i64 p2, .int .u64 (p3 : Int), .string p4] := hty 1 41 rfl (by obtain rfl := (Option.some.inj ho); rfl)
            obtain rfl := (Option.some.inj ho)
            clear hty ho
            refine step_pure (.bool false) (wanted_free rfl) ?_ (Ext.refl _) rfl
            simp [execOp, Act.eval, h40, h41, fe, run_eqGuard_agg, go_sem]
          | 3, ho =>
            have h42 : tmps[42]?.getD undef = .bool false := hty 2 42 rfl (by obtain rfl := (Option.some.inj ho); rfl)
            obtain rfl := (Option.some.inj ho)
            clear hty ho
            refine step_pure (.bool false) (wanted_free rfl) ?_ (Ext.refl _) rfl
            simp [execOp, Act.eval, h42, go_sem]
          | 4, ho =>
            have h43 : tmps[43]?.getD undef = .bool false := hty 3 43 rfl (by obtain rfl := (Option.some.inj ho); rfl)
            obtain rfl := (Option.some.inj ho)
            clear hty ho
            refine step_pure (.bool true) (wanted_guard rfl rfl h43) ?_ (Ext.refl _) rfl
            simp [execOp, Act.eval, h8, go_sem]
          | 5, ho =>
            have h43 : tmps[43]?.getD undef = .bool false := hty 3 43 rfl (by obtain rfl := (Option.some.inj ho); rfl)
            obtain rfl := (Option.some.inj ho)
            clear hty ho
            refine step_pure (.bool true) (wanted_guard rfl rfl h43) ?_ (Ext.refl _) rfl
            simp [execOp, Act.eval, h10, go_sem]
          | 6, ho =>
            have h44 : tmps[44]?.getD undef = .bool true := hty 4 44 rfl (by obtain rfl := (Option.some.inj ho); rfl)
            have h45 : tmps[45]?.getD undef = .bool true := hty 5 45 rfl (by obtain rfl := (Option.some.inj ho); rfl)
            have h43 : tmps[43]?.getD undef = .bool false := hty 3 43 rfl (by obtain rfl := (Option.some.inj ho); rfl)
            obtain rfl := (Option.some.inj ho)
            clear hty ho
            refine step_pure (.bool false) (wanted_guard rfl rfl h43) ?_ (Ext.refl _) rfl
            simp [execOp, Act.eval, h44, h45, go_sem]
          | 7, ho =>
            have h43 : tmps[43]?.getD undef = .bool false := hty 3 43 rfl (by obtain rfl := (Option.some.inj ho); rfl)
            have h46 : tmps[46]?.getD undef = .bool false := hty 6 46 rfl (by obtain rfl := (Option.some.inj ho); rfl)
            obtain rfl := (Option.some.inj ho)
            clear hty ho
            refine step_pure (.bool false) (wanted_free rfl) ?_ (Ext.refl _) rfl
            simp [execOp, Act.eval, h43, h46, go_sem]
          | 8, ho =>
            have h47 : tmps[47]?.getD undef = .bool false := hty 7 47 rfl (by obtain rfl := (Option.some.inj ho); rfl)
            obtain rfl := (Option.some.inj ho)
            clear hty ho
            refine step_pure (.bool false) (wanted_free rfl) ?_ (Ext.refl _) rfl
            simp [execOp, Act.eval, h47, go_sem]
          | 9, ho =>
            have h48 : tmps[48]?.getD undef = .bool false := hty 8 48 rfl (by obtain rfl := (Option.some.inj ho); rfl)
            obtain rfl := (Option.some.inj ho)
            clear hty ho
            refine step_pure (.bool true) (wanted_guard rfl rfl h48) ?_ (Ext.refl _) rfl
            simp [execOp, Act.eval, h8, go_sem]
          | 10, ho =>
            have h49 : tmps[49]?.getD undef = .bool true := hty 9 49 rfl (by obtain rfl := (Option.some.inj ho); rfl)
            have h48 : tmps[48]?.getD undef = .bool false := hty 8 48 rfl (by obtain rfl := (Option.some.inj ho); rfl)
            obtain rfl := (Option.some.inj ho)
            clear hty ho
            refine step_pure (.bool true) (wanted_guard rfl rfl h48) ?_ (Ext.refl _) rfl
            simp [execOp, Act.eval, h49, go_sem]
          | 11, ho =>
            have h50 : tmps[50]?.getD undef = .bool true := hty 10 50 rfl (by obtain rfl := (Option.some.inj ho); rfl)
            obtain rfl := (Option.some.inj ho)
            clear hty ho
            refine step_pure (.pointer (some ⟨g7, 0, none⟩)) (wanted_guard rfl rfl h50) ?_ (Ext.refl _) rfl
            simp [execOp, Act.eval, h7, go_sem]
          | 12, ho =>
            have h51 : tmps[51]?.getD undef = .pointer (some ⟨g7, 0, none⟩) := hty 11 51 rfl (by obtain rfl := (Option.some.inj ho); rfl)
            have h50 : tmps[50]?.getD undef = .bool true := hty 10 50 rfl (by obtain rfl := (Option.some.inj ho); rfl)
            obtain rfl := (Option.some.inj ho)
            clear hty ho
            refine step_pure (.int .u8 (p1 : Int)) (wanted_guard rfl rfl h50) ?_ (Ext.refl _) rfl
            simp [execOp, Act.eval, h51, c0, go_sem]
          | 13, ho =>
            have h50 : tmps[50]?.getD undef = .bool true := hty 10 50 rfl (by obtain rfl := (Option.some.inj ho); rfl)
            obtain rfl := (Option.some.inj ho)
            clear hty ho
            refine step_pure (.pointer (some ⟨g5, 0, none⟩)) (wanted_guard rfl rfl h50) ?_ (Ext.refl _) rfl
            simp [execOp, Act.eval, h5, go_sem]
          | 14, ho =>
            have h53 : tmps[53]?.getD undef = .pointer (some ⟨g5, 0, none⟩) := hty 13 53 rfl (by obtain rfl := (Option.some.inj ho); rfl)
            have h50 : tmps[50]?.getD undef = .bool true := hty 10 50 rfl (by obtain rfl := (Option.some.inj ho); rfl)
            obtain rfl := (Option.some.inj ho)
            clear hty ho
            refine step_pure (.int .u8 (k : Int)) (wanted_guard rfl rfl h50) ?_ (Ext.refl _) rfl
            simp [execOp, Act.eval, h53, a0, go_sem]
          | 15, ho =>
            have h50 : tmps[50]?.getD undef = .bool true := hty 10 50 rfl (by obtain rfl := (Option.some.inj ho); rfl)
            obtain rfl := (Option.some.inj ho)
            clear hty ho
            refine step_pure (.pointer (some ⟨g6, 0, none⟩)) (wanted_guard rfl rfl h50) ?_ (Ext.refl _) rfl
            simp [execOp, Act.eval, h6, go_sem]
          | 16, ho =>
            have h55 : tmps[55]?.getD undef = .pointer (some ⟨g6, 0, none⟩) := hty 15 55 rfl (by obtain rfl := (Option.some.inj ho); rfl)
            have h50 : tmps[50]?.getD undef = .bool true := hty 10 50 rfl (by obtain rfl := (Option.some.inj ho); rfl)
            obtain rfl := (Option.some.inj ho)
            clear hty ho
            refine step_pure (.int .u8 (l : Int)) (wanted_guard rfl rfl h50) ?_ (Ext.refl _) rfl
            simp [execOp, Act.eval, h55, b0, go_sem]
          | 17, ho =>
            have h54 : tmps[54]?.getD undef = .int .u8 (k : Int) := hty 14 54 rfl (by obtain rfl := (Option.some.inj ho); rfl)
            have h56 : tmps[56]?.getD undef = .int .u8 (l : Int) := hty 16 56 rfl (by obtain rfl := (Option.some.inj ho); rfl)
            have h50 : tmps[50]?.getD undef = .bool true := hty 10 50 rfl (by obtain rfl := (Option.some.inj ho); rfl)
            obtain rfl := (Option.some.inj ho)
            clear hty ho
            refine step_call 23 #[.int .u8 (k : Int), .int .u8 (l : Int)] (wanted_guard rfl rfl h50) ?_ ?_
            · simp [execOp, Act.eval, h54, h56, go_sem]
            · exact (KS.out _).mono fun e w' h => ⟨_, h.1, h.2, rfl⟩
          | 18, ho =>
            have h52 : tmps[52]?.getD undef = .int .u8 (p1 : Int) := hty 12 52 rfl (by obtain rfl := (Option.some.inj ho); rfl)
            have h57 : tmps[57]?.getD undef = .int .u8 (p1 : Int) := hty 17 57 rfl (by obtain rfl := (Option.some.inj ho); rfl)
            have h50 : tmps[50]?.getD undef = .bool true := hty 10 50 rfl (by obtain rfl := (Option.some.inj ho); rfl)
            obtain rfl := (Option.some.inj ho)
            clear hty ho
            refine step_pure (.bool false) (wanted_guard rfl rfl h50) ?_ (Ext.refl _) rfl
            simp [execOp, Act.eval, h52, h57, go_sem]
          | 19, ho =>
            have h50 : tmps[50]?.getD undef = .bool true := hty 10 50 rfl (by obtain rfl := (Option.some.inj ho); rfl)
            have h58 : tmps[58]?.getD undef = .bool false := hty 18 58 rfl (by obtain rfl := (Option.some.inj ho); rfl)
            have h48 : tmps[48]?.getD undef = .bool false := hty 8 48 rfl (by obtain rfl := (Option.some.inj ho); rfl)
            obtain rfl := (Option.some.inj ho)
            clear hty ho
            refine step_pure (.bool false) (wanted_guard rfl rfl h48) ?_ (Ext.refl _) rfl
            simp [execOp, Act.eval, h50, h58, go_sem]
          | 20, ho =>
            have h48 : tmps[48]?.getD undef = .bool false := hty 8 48 rfl (by obtain rfl := (Option.some.inj ho); rfl)
            have h59 : tmps[59]?.getD undef = .bool false := hty 19 59 rfl (by obtain rfl := (Option.some.inj ho); rfl)
            obtain rfl := (Option.some.inj ho)
            clear hty ho
            refine step_pure (.bool false) (wanted_free rfl) ?_ (Ext.refl _) rfl
            simp [execOp, Act.eval, h48, h59, go_sem]
          | 21, ho =>
            have h60 : tmps[60]?.getD undef = .bool false := hty 20 60 rfl (by obtain rfl := (Option.some.inj ho); rfl)
            obtain rfl := (Option.some.inj ho)
            clear hty ho
            refine step_pure (.bool false) (wanted_free rfl) ?_ (Ext.refl _) rfl
            simp [execOp, Act.eval, h60, go_sem]
          | 22, ho =>
            have h61 : tmps[61]?.getD undef = .bool false := hty 21 61 rfl (by obtain rfl := (Option.some.inj ho); rfl)
            obtain rfl := (Option.some.inj ho)
            clear hty ho
            refine step_pure (.bool true) (wanted_guard rfl rfl h61) ?_ (Ext.refl _) rfl
            simp [execOp, Act.eval, h8, go_sem]
          | 23, ho =>
            have h62 : tmps[62]?.getD undef = .bool true := hty 22 62 rfl (by obtain rfl := (Option.some.inj ho); rfl)
            have h61 : tmps[61]?.getD undef = .bool false := hty 21 61 rfl (by obtain rfl := (Option.some.inj ho); rfl)
            obtain rfl := (Option.some.inj ho)
            clear hty ho
            refine step_pure (.bool false) (wanted_guard rfl rfl h61) ?_ (Ext.refl _) rfl
            simp [execOp, Act.eval, h62, go_sem]
          | 24, ho =>
            have h63 : tmps[63]?.getD undef = .bool false := hty 23 63 rfl (by obtain rfl := (Option.some.inj ho); rfl)
            have h61 : tmps[61]?.getD undef = .bool false := hty 21 61 rfl (by obtain rfl := (Option.some.inj ho); rfl)
            obtain rfl := (Option.some.inj ho)
            clear hty ho
            refine step_pure (.bool false) (wanted_guard rfl rfl h61) ?_ (Ext.refl _) rfl
            simp [execOp, Act.eval, h63, go_sem]
          | 25, ho =>
            have h64 : tmps[64]?.getD undef = .bool false := hty 24 64 rfl (by obtain rfl := (Option.some.inj ho); rfl)
            obtain rfl := (Option.some.inj ho)
            clear hty ho
            exact step_skip (unwanted_guard rfl rfl h64 (by decide)) rfl
          | 26, ho =>
            have h64 : tmps[64]?.getD undef = .bool false := hty 24 64 rfl (by obtain rfl := (Option.some.inj ho); rfl)
            obtain rfl := (Option.some.inj ho)
            clear hty ho
            exact step_skip (unwanted_guard rfl rfl h64 (by decide)) rfl
          | 27, ho =>
            have h65 : tmps[65]?.getD undef = undef := hty 25 65 rfl (by obtain rfl := (Option.some.inj ho); rfl)
            have h66 : tmps[66]?.getD undef = undef := hty 26 66 rfl (by obtain rfl := (Option.some.inj ho); rfl)
            have h64 : tmps[64]?.getD undef = .bool false := hty 24 64 rfl (by obtain rfl := (Option.some.inj ho); rfl)
            obtain rfl := (Option.some.inj ho)
            clear hty ho
            exact step_skip (unwanted_guard rfl rfl h64 (by decide)) rfl
          | 28, ho =>
            have h64 : tmps[64]?.getD undef = .bool false := hty 24 64 rfl (by obtain rfl := (Option.some.inj ho); rfl)
            have h67 : tmps[67]?.getD undef = undef := hty 27 67 rfl (by obtain rfl := (Option.some.inj ho); rfl)
            have h61 : tmps[61]?.getD undef = .bool false := hty 21 61 rfl (by obtain rfl := (Option.some.inj ho); rfl)
            obtain rfl := (Option.some.inj ho)
            clear hty ho
            refine step_pure (.bool false) (wanted_guard rfl rfl h61) ?_ (Ext.refl _) rfl
            simp [execOp, Act.eval, h64, h67, go_sem]
          | 29, ho =>
            have h61 : tmps[61]?.getD undef = .bool false := hty 21 61 rfl (by obtain rfl := (Option.some.inj ho); rfl)
            have h68 : tmps[68]?.getD undef = .bool false := hty 28 68 rfl (by obtain rfl := (Option.some.inj ho); rfl)
            obtain rfl := (Option.some.inj ho)
            clear hty ho
            refine step_pure (.bool false) (wanted_free rfl) ?_ (Ext.refl _) rfl
            simp [execOp, Act.eval, h61, h68, go_sem]
          | 30, ho =>
            have h69 : tmps[69]?.getD undef = .bool false := hty 29 69 rfl (by obtain rfl := (Option.some.inj ho); rfl)
            obtain rfl := (Option.some.inj ho)
            clear hty ho
            refine step_pure (.bool false) (wanted_free rfl) ?_ (Ext.refl _) rfl
            simp [execOp, Act.eval, h69, go_sem]
          | 31, ho =>
            have h70 : tmps[70]?.getD undef = .bool false := hty 30 70 rfl (by obtain rfl := (Option.some.inj ho); rfl)
            obtain rfl := (Option.some.inj ho)
            clear hty ho
            refine step_pure (.bool true) (wanted_guard rfl rfl h70) ?_ (Ext.refl _) rfl
            simp [execOp, Act.eval, h8, go_sem]
          | 32, ho =>
            have h71 : tmps[71]?.getD undef = .bool true := hty 31 71 rfl (by obtain rfl := (Option.some.inj ho); rfl)
            have h70 : tmps[70]?.getD undef = .bool false := hty 30 70 rfl (by obtain rfl := (Option.some.inj ho); rfl)
            obtain rfl := (Option.some.inj ho)
            clear hty ho
            refine step_pure (.bool true) (wanted_guard rfl rfl h70) ?_ (Ext.refl _) rfl
            simp [execOp, Act.eval, h71, go_sem]
          | 33, ho =>
            have h72 : tmps[72]?.getD undef = .bool true := hty 32 72 rfl (by obtain rfl := (Option.some.inj ho); rfl)
            obtain rfl := (Option.some.inj ho)
            clear hty ho
            refine step_pure (.agg #[.int .u8 (p1 : Int), .int .i64 p2, .int .u64 (p3 : Int), .string p4]) (wanted_guard rfl rfl h72) ?_ (Ext.refl _) rfl
            simp [execOp, Act.eval, h7, c0, c1, c2, c3, go_sem]
          | 34, ho =>
            have h73 : tmps[73]?.getD undef = .agg #[.int .u8 (p1 : Int), .int .i64 p2, .int .u64 (p3 : Int), .string p4] := hty 33 73 rfl (by obtain rfl := (Option.some.inj ho); rfl)
            have h72 : tmps[72]?.getD undef = .bool true := hty 32 72 rfl (by obtain rfl := (Option.some.inj ho); rfl)
            obtain rfl := (Option.some.inj ho)
            clear hty ho
            refine step_call 25 #[.agg #[.int .u8 (p1 : Int), .int .i64 p2, .int .u64 (p3 : Int), .string p4]] (wanted_guard rfl rfl h72) ?_ ?_
            · simp [execOp, Act.eval, h73, go_sem]
            · exact (KC.out _).mono fun e w' h => ⟨_, h.1, h.2, rfl⟩
          | 35, ho =>
            have h74 : tmps[74]?.getD undef = .int .i64 0 := hty 34 74 rfl (by obtain rfl := (Option.some.inj ho); rfl)
            have h72 : tmps[72]?.getD undef = .bool true := hty 32 72 rfl (by obtain rfl := (Option.some.inj ho); rfl)
            obtain rfl := (Option.some.inj ho)
            clear hty ho
            refine step_pure (.bool false) (wanted_guard rfl rfl h72) ?_ (Ext.refl _) rfl
            simp [execOp, Act.eval, h74, go_sem]
          | 36, ho =>
            have h72 : tmps[72]?.getD undef = .bool true := hty 32 72 rfl (by obtain rfl := (Option.some.inj ho); rfl)
            have h75 : tmps[75]?.getD undef = .bool false := hty 35 75 rfl (by obtain rfl := (Option.some.inj ho); rfl)
            have h70 : tmps[70]?.getD undef = .bool false := hty 30 70 rfl (by obtain rfl := (Option.some.inj ho); rfl)
            obtain rfl := (Option.some.inj ho)
            clear hty ho
            refine step_pure (.bool false) (wanted_guard rfl rfl h70) ?_ (Ext.refl _) rfl
            simp [execOp, Act.eval, h72, h75, go_sem]
          | 37, ho =>
            have h70 : tmps[70]?.getD undef = .bool false := hty 30 70 rfl (by obtain rfl := (Option.some.inj ho); rfl)
            have h76 : tmps[76]?.getD undef = .bool false := hty 36 76 rfl (by obtain rfl := (Option.some.inj ho); rfl)
            obtain rfl := (Option.some.inj ho)
            clear hty ho
            refine step_pure (.bool false) (wanted_free rfl) ?_ (Ext.refl _) rfl
            simp [execOp, Act.eval, h70, h76, go_sem]
          | (j + 38), ho => exact absurd ho (by simp)
        · intro tmps w6 hle hs hfr hty
          have h77 : tmps[77]?.getD undef = .bool false := hty 37 77 rfl
          have hfe := frame_eq [40, 41, 42, 43, 44, 45, 46, 47, 48, 49, 50, 51, 52, 53, 54, 55, 56, 57, 58, 59, 60, 61, 62, 63, 64, 65, 66, 67, 68, 69, 70, 71, 72, 73, 74, 75, 76, 77] hs hfr (by kernel_rfl)
          rw [hfe]
          clear hfe hfr hs hty
          simp only [List.foldl_cons, List.foldl_nil]
          generalize tmps[40]?.getD undef = x40
          generalize tmps[41]?.getD undef = x41
          generalize tmps[42]?.getD undef = x42
          generalize tmps[43]?.getD undef = x43
          generalize tmps[44]?.getD undef = x44
          generalize tmps[45]?.getD undef = x45
          generalize tmps[46]?.getD undef = x46
          generalize tmps[47]?.getD undef = x47
          generalize tmps[48]?.getD undef = x48
          generalize tmps[49]?.getD undef = x49
          generalize tmps[50]?.getD undef = x50
          generalize tmps[51]?.getD undef = x51
          generalize tmps[52]?.getD undef = x52
          generalize tmps[53]?.getD undef = x53
          generalize tmps[54]?.getD undef = x54
          generalize tmps[55]?.getD undef = x55
          generalize tmps[56]?.getD undef = x56
          generalize tmps[57]?.getD undef = x57
          generalize tmps[58]?.getD undef = x58
          generalize tmps[59]?.getD undef = x59
          generalize tmps[60]?.getD undef = x60
          generalize tmps[61]?.getD undef = x61
          generalize tmps[62]?.getD undef = x62
          generalize tmps[63]?.getD undef = x63
          generalize tmps[64]?.getD undef = x64
          generalize tmps[65]?.getD undef = x65
          generalize tmps[66]?.getD undef = x66
          generalize tmps[67]?.getD undef = x67
          generalize tmps[68]?.getD undef = x68
          generalize tmps[69]?.getD undef = x69
          generalize tmps[70]?.getD undef = x70
          generalize tmps[71]?.getD undef = x71
          generalize tmps[72]?.getD undef = x72
          generalize tmps[73]?.getD undef = x73
          generalize tmps[74]?.getD undef = x74
          generalize tmps[75]?.getD undef = x75
          generalize tmps[76]?.getD undef = x76
          rw [h77]
          clear h77
          simp only [List.setIfInBounds_toArray, List.set_cons_succ, List.set_cons_zero]
          replace HX := hid (HX.out.trans hle)
          replace H5 := hid (hle.block H5.out)
          replace H6 := hid (hle.block H6.out)
          replace H7 := hid (hle.block H7.out)
          clear hle
          obtain ⟨⟨a0, a1, a2, a3⟩, _, az⟩ := box4 H5.out
          obtain ⟨⟨b0, b1, b2, b3⟩, _, bz⟩ := box4 H6.out
          obtain ⟨⟨c0, c1, c2, c3⟩, _, cz⟩ := box4 H7.out
          go_wp2_with fail
          refine (KMS.out _).mono ?_
          rintro e w7 ⟨rfl, hx⟩
          (first | replace HX := hid (HX.out.trans hx) | replace HX := hid ((HX.out.then_alloc _).trans hx))
          (first | replace H5 := hid (hx.block H5.out) | replace H5 := hid (hx.block ((Ext.alloc _ _).block H5.out)))
          (first | replace H6 := hid (hx.block H6.out) | replace H6 := hid (hx.block ((Ext.alloc _ _).block H6.out)))
          (first | replace H7 := hid (hx.block H7.out) | replace H7 := hid (hx.block ((Ext.alloc _ _).block H7.out)))
          clear hx a0 a1 a2 a3 az b0 b1 b2 b3 bz c0 c1 c2 c3 cz
          obtain ⟨⟨a0, a1, a2, a3⟩, _, az⟩ := box4 H5.out
          obtain ⟨⟨b0, b1, b2, b3⟩, _, bz⟩ := box4 H6.out
          obtain ⟨⟨c0, c1, c2, c3⟩, _, cz⟩ := box4 H7.out
          go_wp2_with fail
          refine (KM.out _).mono ?_
          rintro e w8 ⟨rfl, hx⟩
          (first | replace HX := hid (HX.out.trans hx) | replace HX := hid ((HX.out.then_alloc _).trans hx))
          (first | replace H5 := hid (hx.block H5.out) | replace H5 := hid (hx.block ((Ext.alloc _ _).block H5.out)))
          (first | replace H6 := hid (hx.block H6.out) | replace H6 := hid (hx.block ((Ext.alloc _ _).block H6.out)))
          (first | replace H7 := hid (hx.block H7.out) | replace H7 := hid (hx.block ((Ext.alloc _ _).block H7.out)))
          clear hx a0 a1 a2 a3 az b0 b1 b2 b3 bz c0 c1 c2 c3 cz
          obtain ⟨⟨a0, a1, a2, a3⟩, _, az⟩ := box4 H5.out
          obtain ⟨⟨b0, b1, b2, b3⟩, _, bz⟩ := box4 H6.out
          obtain ⟨⟨c0, c1, c2, c3⟩, _, cz⟩ := box4 H7.out
          cases qe
          case false =>
            obtain ⟨rfl, rfl, rfl, rfl⟩ := HNO.out rfl
            go_wp2_with ((with_reducible show Calls _ 10 _ _ _); refine (awake5_any _).mono ?_; rintro e w9 ⟨rfl, hx⟩; replace HX := hid ((HX.out.then_alloc _).trans hx); clear hx)
            go_ret
            exact ⟨rfl, HX.out⟩
          case true =>
            by_cases hq1 : q1 = 1
            · subst hq1
              have KPD := hid (HD.out rfl rfl)
              go_wp2_with fail
              refine (KPD.out _).mono ?_
              rintro e w9 ⟨rfl, hx⟩
              (first | replace HX := hid (HX.out.trans hx) | replace HX := hid ((HX.out.then_alloc _).trans hx))
              (first | replace H5 := hid (hx.block H5.out) | replace H5 := hid (hx.block ((Ext.alloc _ _).block H5.out)))
              (first | replace H6 := hid (hx.block H6.out) | replace H6 := hid (hx.block ((Ext.alloc _ _).block H6.out)))
              (first | replace H7 := hid (hx.block H7.out) | replace H7 := hid (hx.block ((Ext.alloc _ _).block H7.out)))
              clear hx a0 a1 a2 a3 az b0 b1 b2 b3 bz c0 c1 c2 c3 cz
              obtain ⟨⟨a0, a1, a2, a3⟩, _, az⟩ := box4 H5.out
              obtain ⟨⟨b0, b1, b2, b3⟩, _, bz⟩ := box4 H6.out
              obtain ⟨⟨c0, c1, c2, c3⟩, _, cz⟩ := box4 H7.out
              go_wp2_with ((with_reducible show Calls _ 10 _ _ _); refine (awake5_any _).mono ?_; rintro e w9 ⟨rfl, hx⟩; replace HX := hid ((HX.out.then_alloc _).trans hx); clear hx)
              go_ret
              exact ⟨rfl, HX.out⟩
            · have nq1 : ((q1 : Int) == 1) = false := beq_eq_false_iff_ne.2 (by omega)
              clear hq1
              go_wp2_with ((with_reducible show Calls _ 10 _ _ _); refine (awake5_any _).mono ?_; rintro e w9 ⟨rfl, hx⟩; replace HX := hid ((HX.out.then_alloc _).trans hx); clear hx)
              go_ret
              exact ⟨rfl, HX.out⟩
/-- what the slots of the region hold -/
def cbackG_real (k l p1 : Nat) (p2 : Int) (p3 : Nat) (p4 : ByteArray) (g5 g6 g7 _g9 : Nat) : Nat → Value → World → Prop
  | 0, v, _ => v = .agg #[.int .u8 (p1 : Int), .int .i64 p2, .int .u64 (p3 : Int), .string p4]
  | 1, v, _ => v = .agg #[.int .u8 (p1 : Int), .int .i64 p2, .int .u64 (p3 : Int), .string p4]
  | 2, v, _ => v = .bool false
  | 3, v, _ => v = .bool false
  | 4, v, _ => v = .bool true
  | 5, v, _ => v = .bool true
  | 6, v, _ => v = .bool false
  | 7, v, _ => v = .bool false
  | 8, v, _ => v = .bool false
  | 9, v, _ => v = .bool true
  | 10, v, _ => v = .bool true
  | 11, v, _ => v = .pointer (some ⟨g7, 0, none⟩)
  | 12, v, _ => v = .int .u8 (p1 : Int)
  | 13, v, _ => v = .pointer (some ⟨g5, 0, none⟩)
  | 14, v, _ => v = .int .u8 (k : Int)
  | 15, v, _ => v = .pointer (some ⟨g6, 0, none⟩)
  | 16, v, _ => v = .int .u8 (l : Int)
  | 17, v, _ => v = .int .u8 (p1 : Int)
  | 18, v, _ => v = .bool false
  | 19, v, _ => v = .bool false
  | 20, v, _ => v = .bool false
  | 21, v, _ => v = .bool false
  | 22, v, _ => v = .bool true
  | 23, v, _ => v = .bool false
  | 24, v, _ => v = .bool false
  | 25, v, _ => v = undef
  | 26, v, _ => v = undef
  | 27, v, _ => v = undef
  | 28, v, _ => v = .bool false
  | 29, v, _ => v = .bool false
  | 30, v, _ => v = .bool false
  | 31, v, _ => v = .bool true
  | 32, v, _ => v = .bool true
  | 33, v, _ => v = .agg #[.int .u8 (p1 : Int), .int .i64 p2, .int .u64 (p3 : Int), .string p4]
  | 34, v, _ => v = .int .i64 0
  | 35, v, _ => v = .bool false
  | 36, v, _ => v = .bool false
  | 37, v, _ => v = .bool false
  | _, _, _ => True
theorem cbackG_real_st (k l p1 : Nat) (p2 : Int) (p3 : Nat) (p4 : ByteArray) (g5 g6 g7 g9 : Nat) : ∀ i9 z9 x9 y9, cbackG_real k l p1 p2 p3 p4 g5 g6 g7 g9 i9 z9 x9 → Ext x9 y9 → cbackG_real k l p1 p2 p3 p4 g5 g6 g7 g9 i9 z9 y9 := by
  intro i9 z9 x9 y9 h e
  unfold cbackG_real at *
  split at h <;> first | exact h | exact Bytes.ext h e

set_option maxRecDepth 100000 in
set_option maxHeartbeats 8000000 in
theorem cback_real (k : Nat) (n : Int) (b : Nat) (t : ByteArray) (l : Nat) (m : Int) (c : Nat) (u : ByteArray) (p1 : Nat) (p2 : Int) (p3 : Nat) (p4 : ByteArray) (q1 : Nat) (q2 : Int) (q3 : Nat) (q4 : ByteArray) (qe : Bool) (w : World) (ht : t.size ≤ 9223372036854775807) (hu : u.size ≤ 9223372036854775807) (hp1 : ∀ W, Calls Try.prog 13 #[.agg #[.int .u8 (k : Int), .int .i64 n, .int .u64 (b : Int), .string t], .agg #[.int .u8 (l : Int), .int .i64 m, .int .u64 (c : Int), .string u]] W (fun e w' => e = .returned (.tuple #[.agg #[.int .u8 (p1 : Int), .int .i64 p2, .int .u64 (p3 : Int), .string p4], .bool true]) ∧ Ext W w')) (hp2 : ∀ W, Calls Try.prog 13 #[.agg #[.int .u8 (l : Int), .int .i64 m, .int .u64 (c : Int), .string u], .agg #[.int .u8 (k : Int), .int .i64 n, .int .u64 (b : Int), .string t]] W (fun e w' => e = .returned (.tuple #[.agg #[.int .u8 (p1 : Int), .int .i64 p2, .int .u64 (p3 : Int), .string p4], .bool true]) ∧ Ext W w')) (hm : ∀ W, Calls Try.prog 15 #[.agg #[.int .u8 (k : Int), .int .i64 n, .int .u64 (b : Int), .string t], .agg #[.int .u8 (l : Int), .int .i64 m, .int .u64 (c : Int), .string u]] W (fun e w' => e = .returned (.tuple #[.agg #[.int .u8 (q1 : Int), .int .i64 q2, .int .u64 (q3 : Int), .string q4], .bool qe]) ∧ Ext W w')) (hno : qe = false → q1 = 0 ∧ q2 = 0 ∧ q3 = 0 ∧ q4 = ⟨#[]⟩) (hd : qe = true → q1 = 1 → ∀ W, Calls Try.prog 13 #[.agg #[.int .u8 (q1 : Int), .int .i64 q2, .int .u64 (q3 : Int), .string q4], .agg #[.int .u8 (l : Int), .int .i64 m, .int .u64 (c : Int), .string u]] W (fun e w' => e = .returned (.tuple #[.agg #[.int .u8 (k : Int), .int .i64 n, .int .u64 (b : Int), .string t], .bool true]) ∧ Ext W w')) (hs : ∀ W, Calls Try.prog 23 #[.int .u8 (k : Int), .int .u8 (l : Int)] W (fun e w' => e = .returned (.int .u8 (p1 : Int)) ∧ Ext W w')) (hc0 : ∀ W, Calls Try.prog 25 #[.agg #[.int .u8 (p1 : Int), .int .i64 p2, .int .u64 (p3 : Int), .string p4]] W (fun e w' => e = .returned (.int .i64 0) ∧ Ext W w')) (hk1 : p1 ≠ 1) : Calls Try.prog 7 #[.agg #[.int .u8 (k : Int), .int .i64 n, .int .u64 (b : Int), .string t], .agg #[.int .u8 (l : Int), .int .i64 m, .int .u64 (c : Int), .string u]] w (Says w (.bool true)) := by
  have KP1 := hid hp1
  have KP2 := hid hp2
  have KM := hid hm
  have HNO := hid hno
  have HD := hid hd
  have KS := hid hs
  have KC := hid hc0
  have FE : Hid (∀ W : World, (binOp .neq 28 (.agg #[.int .u8 (p1 : Int), .int .i64 p2, .int .u64 (p3 : Int), .string p4]) (.agg #[.int .u8 (p1 : Int), .int .i64 p2, .int .u64 (p3 : Int), .string p4])).run Try.prog W = .ok (.bool false) W) := fun W => unlike_self p1 p2 p3 p4 W
  have fx : ∀ W : World, (binOp .neq 28 (.agg #[.int .u8 (k : Int), .int .i64 n, .int .u64 (b : Int), .string t]) (.agg #[.int .u8 (k : Int), .int .i64 n, .int .u64 (b : Int), .string t])).run Try.prog W = .ok (.bool false) W := fun W => unlike_self k n b t W
  have fz : ∀ W : World, (binOp .eql 28 (.agg #[.int .u8 0, .int .i64 0, .int .u64 0, .string ⟨#[]⟩]) (.agg #[.int .u8 0, .int .i64 0, .int .u64 0, .string ⟨#[]⟩])).run Try.prog W = .ok (.bool true) W := fun W => like_self 0 0 0 noText W
  have nk1 : ((p1 : Int) == 1) = false := beq_eq_false_iff_ne.2 (by omega)
  clear hp1 hp2 hm hno hd hs hc0 hk1
  have s1 := fun W => small_any k n b t W ht
  have s2 := fun W => small_any l m c u W hu
  go_enter Try.func7, Try.ntmps7
  go_wp2_with fail
  refine (s1 _).mono ?_
  rintro e w1 ⟨rfl, hx⟩
  have HV := hid (hx.block (heap_alloc2_old w _ _))
  have HW := hid (hx.block (heap_alloc2_new w _ _))
  have HX := hid (((Ext.alloc w _).then_alloc _).trans hx)
  clear hx
  obtain ⟨⟨a0, a1, a2, a3⟩, _, az⟩ := box4 HV.out
  obtain ⟨⟨b0, b1, b2, b3⟩, _, bz⟩ := box4 HW.out
  by_cases h1 : 100 < t.size
  · have h1' : 0 < max 0 ((t.size : Int) - 100) := by omega
    generalize max 0 ((t.size : Int) - 100) = S1 at *
    go_wp2_with fail
    refine (awake5_any _).mono ?_
    rintro e w9 ⟨rfl, hx⟩
    go_wp2_with fail
    go_ret
    exact ⟨rfl, HX.out.trans hx⟩
  · have h1' : max 0 ((t.size : Int) - 100) = 0 := by omega
    rw [h1'] at *
    go_wp2_with fail
    refine (s2 _).mono ?_
    rintro e w2 ⟨rfl, hx⟩
    replace HV := hid (hx.block HV.out)
    replace HW := hid (hx.block HW.out)
    replace HX := hid (HX.out.trans hx)
    clear hx a0 a1 a2 a3 az b0 b1 b2 b3 bz
    obtain ⟨⟨a0, a1, a2, a3⟩, _, az⟩ := box4 HV.out
    obtain ⟨⟨b0, b1, b2, b3⟩, _, bz⟩ := box4 HW.out
    by_cases h2 : 100 < u.size
    · have h2' : 0 < max 0 ((u.size : Int) - 100) := by omega
      generalize max 0 ((u.size : Int) - 100) = S2 at *
      go_wp2_with fail
      refine (awake5_any _).mono ?_
      rintro e w9 ⟨rfl, hx⟩
      go_wp2_with fail
      go_ret
      exact ⟨rfl, HX.out.trans hx⟩
    · have h2' : max 0 ((u.size : Int) - 100) = 0 := by omega
      rw [h2'] at *
      clear h1 h2 h1' h2' s1 s2
      have hd0 : ¬ w.heap.size = w2.heap.size := by omega
      have hd1 : ¬ w.heap.size = w2.heap.size + 1 := by omega
      have hd2 : ¬ w.heap.size + 1 = w2.heap.size := by omega
      have hd3 : ¬ w.heap.size + 1 = w2.heap.size + 1 := by omega
      have hz1 : w.heap.size < w2.heap.size + 1 := by omega
      have hz2 : w.heap.size < w2.heap.size + 1 + 1 := by omega
      have hz3 : w.heap.size + 1 < w2.heap.size + 1 := by omega
      have hz4 : w.heap.size + 1 < w2.heap.size + 1 + 1 := by omega
      have hz5 : w.heap.size < w2.heap.size + 2 := by omega
      have hz6 : w.heap.size + 1 < w2.heap.size + 2 := by omega
      go_upto_region 3 with fail
      go_cut [5, 6] from 26 to 130 (fun x y wx => ∃ g5 g6, x = .pointer (some ⟨g5, 0, none⟩) ∧ y = .pointer (some ⟨g6, 0, none⟩) ∧ Hid (wx.heap[g5]? = some (.cells #[.int .u8 (k : Int), .int .i64 n, .int .u64 (b : Int), .string t] 28 (0, 0))) ∧ Hid (wx.heap[g6]? = some (.cells #[.int .u8 (l : Int), .int .i64 m, .int .u64 (c : Int), .string u] 28 (0, 0))) ∧ Ext w2 wx)
      case first =>
        go_region
        all_goals (go_wp2_with fail)
        all_goals go_meet
        all_goals
          obtain ⟨q1, q2, q3⟩ := blocks2e w2 _ _
          exact ⟨_, _, rfl, rfl, (by first | exact q1 | exact q2), (by first | exact q1 | exact q2), q3⟩
      case rest =>
        obtain ⟨g5, g6, rfl, rfl, H5, H6, hx⟩ := hcut
        replace HX := hid (HX.out.trans hx)
        clear hx HV HW a0 a1 a2 a3 az b0 b1 b2 b3 bz hd0 hd1 hd2 hd3 hz1 hz2 hz3 hz4 hz5 hz6
        obtain ⟨⟨a0, a1, a2, a3⟩, _, az⟩ := box4 H5.out
        obtain ⟨⟨b0, b1, b2, b3⟩, _, bz⟩ := box4 H6.out
        go_wp2_with fail
        refine (KP1.out _).mono ?_
        rintro e w3 ⟨rfl, hx⟩
        (first | replace HX := hid (HX.out.trans hx) | replace HX := hid ((HX.out.then_alloc _).trans hx))
        (first | replace H5 := hid (hx.block H5.out) | replace H5 := hid (hx.block ((Ext.alloc _ _).block H5.out)))
        (first | replace H6 := hid (hx.block H6.out) | replace H6 := hid (hx.block ((Ext.alloc _ _).block H6.out)))
        clear hx a0 a1 a2 a3 az b0 b1 b2 b3 bz
        obtain ⟨⟨a0, a1, a2, a3⟩, _, az⟩ := box4 H5.out
        obtain ⟨⟨b0, b1, b2, b3⟩, _, bz⟩ := box4 H6.out
        go_wp2_with fail
        obtain ⟨g7, hg7⟩ : ∃ g, g = w3.heap.size := ⟨_, rfl⟩
        have H7 := hid (heap_alloc_new w3 (.cells #[.int .u8 (p1 : Int), .int .i64 p2, .int .u64 (p3 : Int), .string p4] 28))
        rw [← hg7] at H7 ⊢
        clear hg7
        refine (KP2.out _).mono ?_
        rintro e w4 ⟨rfl, hx⟩
        replace H7 := hid (hx.block H7.out)
        (first | replace HX := hid (HX.out.trans hx) | replace HX := hid ((HX.out.then_alloc _).trans hx))
        (first | replace H5 := hid (hx.block H5.out) | replace H5 := hid (hx.block ((Ext.alloc _ _).block H5.out)))
        (first | replace H6 := hid (hx.block H6.out) | replace H6 := hid (hx.block ((Ext.alloc _ _).block H6.out)))
        clear hx a0 a1 a2 a3 az b0 b1 b2 b3 bz
        obtain ⟨⟨a0, a1, a2, a3⟩, _, az⟩ := box4 H5.out
        obtain ⟨⟨b0, b1, b2, b3⟩, _, bz⟩ := box4 H6.out
        obtain ⟨⟨c0, c1, c2, c3⟩, _, cz⟩ := box4 H7.out
        go_wp2_with fail
        have H9 := hid (heap_alloc_new w4 (.cells #[.int .u8 (p1 : Int), .int .i64 p2, .int .u64 (p3 : Int), .string p4] 28))
        obtain ⟨g9, hg9⟩ : ∃ g, g = w4.heap.size := ⟨_, rfl⟩
        rw [← hg9] at H9 ⊢
        clear hg9
        replace H5 := hid ((Ext.alloc w4 (.cells #[.int .u8 (p1 : Int), .int .i64 p2, .int .u64 (p3 : Int), .string p4] 28)).block H5.out)
        replace H6 := hid ((Ext.alloc w4 (.cells #[.int .u8 (p1 : Int), .int .i64 p2, .int .u64 (p3 : Int), .string p4] 28)).block H6.out)
        replace H7 := hid ((Ext.alloc w4 (.cells #[.int .u8 (p1 : Int), .int .i64 p2, .int .u64 (p3 : Int), .string p4] 28)).block H7.out)
        replace HX := hid (HX.out.then_alloc (.cells #[.int .u8 (p1 : Int), .int .i64 p2, .int .u64 (p3 : Int), .string p4] 28))
        clear a0 a1 a2 a3 az b0 b1 b2 b3 bz c0 c1 c2 c3 cz
        refine wp_region_slots Ext (cbackG_real k l p1 p2 p3 p4 g5 g6 g7 g9) (by kernel_rfl) Ext.trans Ext.refl (Ext.drew _) (cbackG_real_st _ _ _ _ _ _ _ _ _ _) (by kernel_rfl) ?_ ?_
        · intro tmps wr hle hfr j o9 ho hty
          have h5 : tmps[5]?.getD undef = .pointer (some ⟨g5, 0, none⟩) := hfr 5 (by kernel_rfl)
          have h6 : tmps[6]?.getD undef = .pointer (some ⟨g6, 0, none⟩) := hfr 6 (by kernel_rfl)
          have h7 : tmps[7]?.getD undef = .pointer (some ⟨g7, 0, none⟩) := hfr 7 (by kernel_rfl)
          have h8 : tmps[8]?.getD undef = .bool true := hfr 8 (by kernel_rfl)
          have h9 : tmps[9]?.getD undef = .pointer (some ⟨g9, 0, none⟩) := hfr 9 (by kernel_rfl)
          have h10 : tmps[10]?.getD undef = .bool true := hfr 10 (by kernel_rfl)
          obtain ⟨⟨a0, a1, a2, a3⟩, _, _⟩ := box4 (hle.block H5.out)
          obtain ⟨⟨b0, b1, b2, b3⟩, _, _⟩ := box4 (hle.block H6.out)
          obtain ⟨⟨c0, c1, c2, c3⟩, _, _⟩ := box4 (hle.block H7.out)
          obtain ⟨⟨d0, d1, d2, d3⟩, _, _⟩ := box4 (hle.block H9.out)
          have fe := FE.out
          clear hfr
          match j, ho with
          | 0, ho =>
            obtain rfl := (Option.some.inj ho)
            clear hty ho
            refine step_pure (.agg #[.int .u8 (p1 : Int), .int .i64 p2, .int .u64 (p3 : Int), .string p4]) (wanted_free rfl) ?_ (Ext.refl _) rfl
            simp [execOp, Act.eval, h7, c0, c1, c2, c3, go_sem]
          | 1, ho =>
            obtain rfl := (Option.some.inj ho)
            clear hty ho
            refine step_pure (.agg #[.int .u8 (p1 : Int), .int .i64 p2, .int .u64 (p3 : Int), .string p4]) (wanted_free rfl) ?_ (Ext.refl _) rfl
            simp [execOp, Act.eval, h9, d0, d1, d2, d3, go_sem]
          | 2, ho =>
            have h40 : tmps[40]?.getD undef = .agg #[.int .u8 (p1 : Int), .int .i64 p2, .int .u64 (p3 : Int), .string p4] := hty 0 40 rfl (by obtain rfl := (Option.some.inj ho); rfl)
            have h41 : tmps[41]?.getD undef = .agg #[.int .u8 (p1 : Int), .int .i64 p2, .int .u64 (p3 : Int), .string p4] := hty 1 41 rfl (by obtain rfl := (Option.some.inj ho); rfl)
            obtain rfl := (Option.some.inj ho)
            clear hty ho
            refine step_pure (.bool false) (wanted_free rfl) ?_ (Ext.refl _) rfl
            simp [execOp, Act.eval, h40, h41, fe, run_eqGuard_agg, go_sem]
          | 3, ho =>
            have h42 : tmps[42]?.getD undef = .bool false := hty 2 42 rfl (by obtain rfl := (Option.some.inj ho); rfl)
            obtain rfl := (Option.some.inj ho)
            clear hty ho
            refine step_pure (.bool false) (wanted_free rfl) ?_ (Ext.refl _) rfl
            simp [execOp, Act.eval, h42, go_sem]
          | 4, ho =>
            have h43 : tmps[43]?.getD undef = .bool false := hty 3 43 rfl (by obtain rfl := (Option.some.inj ho); rfl)
            obtain rfl := (Option.some.inj ho)
            clear hty ho
            refine step_pure (.bool true) (wanted_guard rfl rfl h43) ?_ (Ext.refl _) rfl
            simp [execOp, Act.eval, h8, go_sem]
          | 5, ho =>
            have h43 : tmps[43]?.getD undef = .bool false := hty 3 43 rfl (by obtain rfl := (Option.some.inj ho); rfl)
            obtain rfl := (Option.some.inj ho)
            clear hty ho
            refine step_pure (.bool true) (wanted_guard rfl rfl h43) ?_ (Ext.refl _) rfl
            simp [execOp, Act.eval, h10, go_sem]
          | 6, ho =>
            have h44 : tmps[44]?.getD undef = .bool true := hty 4 44 rfl (by obtain rfl := (Option.some.inj ho); rfl)
            have h45 : tmps[45]?.getD undef = .bool true := hty 5 45 rfl (by obtain rfl := (Option.some.inj ho); rfl)
            have h43 : tmps[43]?.getD undef = .bool false := hty 3 43 rfl (by obtain rfl := (Option.some.inj ho); rfl)
            obtain rfl := (Option.some.inj ho)
            clear hty ho
            refine step_pure (.bool false) (wanted_guard rfl rfl h43) ?_ (Ext.refl _) rfl
            simp [execOp, Act.eval, h44, h45, go_sem]
          | 7, ho =>
            have h43 : tmps[43]?.getD undef = .bool false := hty 3 43 rfl (by obtain rfl := (Option.some.inj ho); rfl)
            have h46 : tmps[46]?.getD undef = .bool false := hty 6 46 rfl (by obtain rfl := (Option.some.inj ho); rfl)
            obtain rfl := (Option.some.inj ho)
            clear hty ho
            refine step_pure (.bool false) (wanted_free rfl) ?_ (Ext.refl _) rfl
            simp [execOp, Act.eval, h43, h46, go_sem]
          | 8, ho =>
            have h47 : tmps[47]?.getD undef = .bool false := hty 7 47 rfl (by obtain rfl := (Option.some.inj ho); rfl)
            obtain rfl := (Option.some.inj ho)
            clear hty ho
            refine step_pure (.bool false) (wanted_free rfl) ?_ (Ext.refl _) rfl
            simp [execOp, Act.eval, h47, go_sem]
          | 9, ho =>
            have h48 : tmps[48]?.getD undef = .bool false := hty 8 48 rfl (by obtain rfl := (Option.some.inj ho); rfl)
            obtain rfl := (Option.some.inj ho)
            clear hty ho
            refine step_pure (.bool true) (wanted_guard rfl rfl h48) ?_ (Ext.refl _) rfl
            simp [execOp, Act.eval, h8, go_sem]
          | 10, ho =>
            have h49 : tmps[49]?.getD undef = .bool true := hty 9 49 rfl (by obtain rfl := (Option.some.inj ho); rfl)
            have h48 : tmps[48]?.getD undef = .bool false := hty 8 48 rfl (by obtain rfl := (Option.some.inj ho); rfl)
            obtain rfl := (Option.some.inj ho)
            clear hty ho
            refine step_pure (.bool true) (wanted_guard rfl rfl h48) ?_ (Ext.refl _) rfl
            simp [execOp, Act.eval, h49, go_sem]
          | 11, ho =>
            have h50 : tmps[50]?.getD undef = .bool true := hty 10 50 rfl (by obtain rfl := (Option.some.inj ho); rfl)
            obtain rfl := (Option.some.inj ho)
            clear hty ho
            refine step_pure (.pointer (some ⟨g7, 0, none⟩)) (wanted_guard rfl rfl h50) ?_ (Ext.refl _) rfl
            simp [execOp, Act.eval, h7, go_sem]
          | 12, ho =>
            have h51 : tmps[51]?.getD undef = .pointer (some ⟨g7, 0, none⟩) := hty 11 51 rfl (by obtain rfl := (Option.some.inj ho); rfl)
            have h50 : tmps[50]?.getD undef = .bool true := hty 10 50 rfl (by obtain rfl := (Option.some.inj ho); rfl)
            obtain rfl := (Option.some.inj ho)
            clear hty ho
            refine step_pure (.int .u8 (p1 : Int)) (wanted_guard rfl rfl h50) ?_ (Ext.refl _) rfl
            simp [execOp, Act.eval, h51, c0, go_sem]
          | 13, ho =>
            have h50 : tmps[50]?.getD undef = .bool true := hty 10 50 rfl (by obtain rfl := (Option.some.inj ho); rfl)
            obtain rfl := (Option.some.inj ho)
            clear hty ho
            refine step_pure (.pointer (some ⟨g5, 0, none⟩)) (wanted_guard rfl rfl h50) ?_ (Ext.refl _) rfl
            simp [execOp, Act.eval, h5, go_sem]
          | 14, ho =>
            have h53 : tmps[53]?.getD undef = .pointer (some ⟨g5, 0, none⟩) := hty 13 53 rfl (by obtain rfl := (Option.some.inj ho); rfl)
            have h50 : tmps[50]?.getD undef = .bool true := hty 10 50 rfl (by obtain rfl := (Option.some.inj ho); rfl)
            obtain rfl := (Option.some.inj ho)
            clear hty ho
            refine step_pure (.int .u8 (k : Int)) (wanted_guard rfl rfl h50) ?_ (Ext.refl _) rfl
            simp [execOp, Act.eval, h53, a0, go_sem]
          | 15, ho =>
            have h50 : tmps[50]?.getD undef = .bool true := hty 10 50 rfl (by obtain rfl := (Option.some.inj ho); rfl)
            obtain rfl := (Option.some.inj ho)
            clear hty ho
            refine step_pure (.pointer (some ⟨g6, 0, none⟩)) (wanted_guard rfl rfl h50) ?_ (Ext.refl _) rfl
            simp [execOp, Act.eval, h6, go_sem]
          | 16, ho =>
            have h55 : tmps[55]?.getD undef = .pointer (some ⟨g6, 0, none⟩) := hty 15 55 rfl (by obtain rfl := (Option.some.inj ho); rfl)
            have h50 : tmps[50]?.getD undef = .bool true := hty 10 50 rfl (by obtain rfl := (Option.some.inj ho); rfl)
            obtain rfl := (Option.some.inj ho)
            clear hty ho
            refine step_pure (.int .u8 (l : Int)) (wanted_guard rfl rfl h50) ?_ (Ext.refl _) rfl
            simp [execOp, Act.eval, h55, b0, go_sem]
          | 17, ho =>
            have h54 : tmps[54]?.getD undef = .int .u8 (k : Int) := hty 14 54 rfl (by obtain rfl := (Option.some.inj ho); rfl)
            have h56 : tmps[56]?.getD undef = .int .u8 (l : Int) := hty 16 56 rfl (by obtain rfl := (Option.some.inj ho); rfl)
            have h50 : tmps[50]?.getD undef = .bool true := hty 10 50 rfl (by obtain rfl := (Option.some.inj ho); rfl)
            obtain rfl := (Option.some.inj ho)
            clear hty ho
            refine step_call 23 #[.int .u8 (k : Int), .int .u8 (l : Int)] (wanted_guard rfl rfl h50) ?_ ?_
            · simp [execOp, Act.eval, h54, h56, go_sem]
            · exact (KS.out _).mono fun e w' h => ⟨_, h.1, h.2, rfl⟩
          | 18, ho =>
            have h52 : tmps[52]?.getD undef = .int .u8 (p1 : Int) := hty 12 52 rfl (by obtain rfl := (Option.some.inj ho); rfl)
            have h57 : tmps[57]?.getD undef = .int .u8 (p1 : Int) := hty 17 57 rfl (by obtain rfl := (Option.some.inj ho); rfl)
            have h50 : tmps[50]?.getD undef = .bool true := hty 10 50 rfl (by obtain rfl := (Option.some.inj ho); rfl)
            obtain rfl := (Option.some.inj ho)
            clear hty ho
            refine step_pure (.bool false) (wanted_guard rfl rfl h50) ?_ (Ext.refl _) rfl
            simp [execOp, Act.eval, h52, h57, go_sem]
          | 19, ho =>
            have h50 : tmps[50]?.getD undef = .bool true := hty 10 50 rfl (by obtain rfl := (Option.some.inj ho); rfl)
            have h58 : tmps[58]?.getD undef = .bool false := hty 18 58 rfl (by obtain rfl := (Option.some.inj ho); rfl)
            have h48 : tmps[48]?.getD undef = .bool false := hty 8 48 rfl (by obtain rfl := (Option.some.inj ho); rfl)
            obtain rfl := (Option.some.inj ho)
            clear hty ho
            refine step_pure (.bool false) (wanted_guard rfl rfl h48) ?_ (Ext.refl _) rfl
            simp [execOp, Act.eval, h50, h58, go_sem]
          | 20, ho =>
            have h48 : tmps[48]?.getD undef = .bool false := hty 8 48 rfl (by obtain rfl := (Option.some.inj ho); rfl)
            have h59 : tmps[59]?.getD undef = .bool false := hty 19 59 rfl (by obtain rfl := (Option.some.inj ho); rfl)
            obtain rfl := (Option.some.inj ho)
            clear hty ho
            refine step_pure (.bool false) (wanted_free rfl) ?_ (Ext.refl _) rfl
            simp [execOp, Act.eval, h48, h59, go_sem]
          | 21, ho =>
            have h60 : tmps[60]?.getD undef = .bool false := hty 20 60 rfl (by obtain rfl := (Option.some.inj ho); rfl)
            obtain rfl := (Option.some.inj ho)
            clear hty ho
            refine step_pure (.bool false) (wanted_free rfl) ?_ (Ext.refl _) rfl
            simp [execOp, Act.eval, h60, go_sem]
          | 22, ho =>
            have h61 : tmps[61]?.getD undef = .bool false := hty 21 61 rfl (by obtain rfl := (Option.some.inj ho); rfl)
            obtain rfl := (Option.some.inj ho)
            clear hty ho
            refine step_pure (.bool true) (wanted_guard rfl rfl h61) ?_ (Ext.refl _) rfl
            simp [execOp, Act.eval, h8, go_sem]
          | 23, ho =>
            have h62 : tmps[62]?.getD undef = .bool true := hty 22 62 rfl (by obtain rfl := (Option.some.inj ho); rfl)
            have h61 : tmps[61]?.getD undef = .bool false := hty 21 61 rfl (by obtain rfl := (Option.some.inj ho); rfl)
            obtain rfl := (Option.some.inj ho)
            clear hty ho
            refine step_pure (.bool false) (wanted_guard rfl rfl h61) ?_ (Ext.refl _) rfl
            simp [execOp, Act.eval, h62, go_sem]
          | 24, ho =>
            have h63 : tmps[63]?.getD undef = .bool false := hty 23 63 rfl (by obtain rfl := (Option.some.inj ho); rfl)
            have h61 : tmps[61]?.getD undef = .bool false := hty 21 61 rfl (by obtain rfl := (Option.some.inj ho); rfl)
            obtain rfl := (Option.some.inj ho)
            clear hty ho
            refine step_pure (.bool false) (wanted_guard rfl rfl h61) ?_ (Ext.refl _) rfl
            simp [execOp, Act.eval, h63, go_sem]
          | 25, ho =>
            have h64 : tmps[64]?.getD undef = .bool false := hty 24 64 rfl (by obtain rfl := (Option.some.inj ho); rfl)
            obtain rfl := (Option.some.inj ho)
            clear hty ho
            exact step_skip (unwanted_guard rfl rfl h64 (by decide)) rfl
          | 26, ho =>
            have h64 : tmps[64]?.getD undef = .bool false := hty 24 64 rfl (by obtain rfl := (Option.some.inj ho); rfl)
            obtain rfl := (Option.some.inj ho)
            clear hty ho
            exact step_skip (unwanted_guard rfl rfl h64 (by decide)) rfl
          | 27, ho =>
            have h65 : tmps[65]?.getD undef = undef := hty 25 65 rfl (by obtain rfl := (Option.some.inj ho); rfl)
            have h66 : tmps[66]?.getD undef = undef := hty 26 66 rfl (by obtain rfl := (Option.some.inj ho); rfl)
            have h64 : tmps[64]?.getD undef = .bool false := hty 24 64 rfl (by obtain rfl := (Option.some.inj ho); rfl)
            obtain rfl := (Option.some.inj ho)
            clear hty ho
            exact step_skip (unwanted_guard rfl rfl h64 (by decide)) rfl
          | 28, ho =>
            have h64 : tmps[64]?.getD undef = .bool false := hty 24 64 rfl (by obtain rfl := (Option.some.inj ho); rfl)
            have h67 : tmps[67]?.getD undef = undef := hty 27 67 rfl (by obtain rfl := (Option.some.inj ho); rfl)
            have h61 : tmps[61]?.getD undef = .bool false := hty 21 61 rfl (by obtain rfl := (Option.some.inj ho); rfl)
            obtain rfl := (Option.some.inj ho)
            clear hty ho
            refine step_pure (.bool false) (wanted_guard rfl rfl h61) ?_ (Ext.refl _) rfl
            simp [execOp, Act.eval, h64, h67, go_sem]
          | 29, ho =>
            have h61 : tmps[61]?.getD undef = .bool false := hty 21 61 rfl (by obtain rfl := (Option.some.inj ho); rfl)
            have h68 : tmps[68]?.getD undef = .bool false := hty 28 68 rfl (by obtain rfl := (Option.some.inj ho); rfl)
            obtain rfl := (Option.some.inj ho)
            clear hty ho
            refine step_pure (.bool false) (wanted_free rfl) ?_ (Ext.refl _) rfl
            simp [execOp, Act.eval, h61, h68, go_sem]
          | 30, ho =>
            have h69 : tmps[69]?.getD undef = .bool false := hty 29 69 rfl (by obtain rfl := (Option.some.inj ho); rfl)
            obtain rfl := (Option.some.inj ho)
            clear hty ho
            refine step_pure (.bool false) (wanted_free rfl) ?_ (Ext.refl _) rfl
            simp [execOp, Act.eval, h69, go_sem]
          | 31, ho =>
            have h70 : tmps[70]?.getD undef = .bool false := hty 30 70 rfl (by obtain rfl := (Option.some.inj ho); rfl)
            obtain rfl := (Option.some.inj ho)
            clear hty ho
            refine step_pure (.bool true) (wanted_guard rfl rfl h70) ?_ (Ext.refl _) rfl
            simp [execOp, Act.eval, h8, go_sem]
          | 32, ho =>
            have h71 : tmps[71]?.getD undef = .bool true := hty 31 71 rfl (by obtain rfl := (Option.some.inj ho); rfl)
            have h70 : tmps[70]?.getD undef = .bool false := hty 30 70 rfl (by obtain rfl := (Option.some.inj ho); rfl)
            obtain rfl := (Option.some.inj ho)
            clear hty ho
            refine step_pure (.bool true) (wanted_guard rfl rfl h70) ?_ (Ext.refl _) rfl
            simp [execOp, Act.eval, h71, go_sem]
          | 33, ho =>
            have h72 : tmps[72]?.getD undef = .bool true := hty 32 72 rfl (by obtain rfl := (Option.some.inj ho); rfl)
            obtain rfl := (Option.some.inj ho)
            clear hty ho
            refine step_pure (.agg #[.int .u8 (p1 : Int), .int .i64 p2, .int .u64 (p3 : Int), .string p4]) (wanted_guard rfl rfl h72) ?_ (Ext.refl _) rfl
            simp [execOp, Act.eval, h7, c0, c1, c2, c3, go_sem]
          | 34, ho =>
            have h73 : tmps[73]?.getD undef = .agg #[.int .u8 (p1 : Int), .int .i64 p2, .int .u64 (p3 : Int), .string p4] := hty 33 73 rfl (by obtain rfl := (Option.some.inj ho); rfl)
            have h72 : tmps[72]?.getD undef = .bool true := hty 32 72 rfl (by obtain rfl := (Option.some.inj ho); rfl)
            obtain rfl := (Option.some.inj ho)
            clear hty ho
            refine step_call 25 #[.agg #[.int .u8 (p1 : Int), .int .i64 p2, .int .u64 (p3 : Int), .string p4]] (wanted_guard rfl rfl h72) ?_ ?_
            · simp [execOp, Act.eval, h73, go_sem]
            · exact (KC.out _).mono fun e w' h => ⟨_, h.1, h.2, rfl⟩
          | 35, ho =>
            have h74 : tmps[74]?.getD undef = .int .i64 0 := hty 34 74 rfl (by obtain rfl := (Option.some.inj ho); rfl)
            have h72 : tmps[72]?.getD undef = .bool true := hty 32 72 rfl (by obtain rfl := (Option.some.inj ho); rfl)
            obtain rfl := (Option.some.inj ho)
            clear hty ho
            refine step_pure (.bool false) (wanted_guard rfl rfl h72) ?_ (Ext.refl _) rfl
            simp [execOp, Act.eval, h74, go_sem]
          | 36, ho =>
            have h72 : tmps[72]?.getD undef = .bool true := hty 32 72 rfl (by obtain rfl := (Option.some.inj ho); rfl)
            have h75 : tmps[75]?.getD undef = .bool false := hty 35 75 rfl (by obtain rfl := (Option.some.inj ho); rfl)
            have h70 : tmps[70]?.getD undef = .bool false := hty 30 70 rfl (by obtain rfl := (Option.some.inj ho); rfl)
            obtain rfl := (Option.some.inj ho)
            clear hty ho
            refine step_pure (.bool false) (wanted_guard rfl rfl h70) ?_ (Ext.refl _) rfl
            simp [execOp, Act.eval, h72, h75, go_sem]
          | 37, ho =>
            have h70 : tmps[70]?.getD undef = .bool false := hty 30 70 rfl (by obtain rfl := (Option.some.inj ho); rfl)
            have h76 : tmps[76]?.getD undef = .bool false := hty 36 76 rfl (by obtain rfl := (Option.some.inj ho); rfl)
            obtain rfl := (Option.some.inj ho)
            clear hty ho
            refine step_pure (.bool false) (wanted_free rfl) ?_ (Ext.refl _) rfl
            simp [execOp, Act.eval, h70, h76, go_sem]
          | (j + 38), ho => exact absurd ho (by simp)
        · intro tmps w6 hle hs hfr hty
          have h77 : tmps[77]?.getD undef = .bool false := hty 37 77 rfl
          have hfe := frame_eq [40, 41, 42, 43, 44, 45, 46, 47, 48, 49, 50, 51, 52, 53, 54, 55, 56, 57, 58, 59, 60, 61, 62, 63, 64, 65, 66, 67, 68, 69, 70, 71, 72, 73, 74, 75, 76, 77] hs hfr (by kernel_rfl)
          rw [hfe]
          clear hfe hfr hs hty
          simp only [List.foldl_cons, List.foldl_nil]
          generalize tmps[40]?.getD undef = x40
          generalize tmps[41]?.getD undef = x41
          generalize tmps[42]?.getD undef = x42
          generalize tmps[43]?.getD undef = x43
          generalize tmps[44]?.getD undef = x44
          generalize tmps[45]?.getD undef = x45
          generalize tmps[46]?.getD undef = x46
          generalize tmps[47]?.getD undef = x47
          generalize tmps[48]?.getD undef = x48
          generalize tmps[49]?.getD undef = x49
          generalize tmps[50]?.getD undef = x50
          generalize tmps[51]?.getD undef = x51
          generalize tmps[52]?.getD undef = x52
          generalize tmps[53]?.getD undef = x53
          generalize tmps[54]?.getD undef = x54
          generalize tmps[55]?.getD undef = x55
          generalize tmps[56]?.getD undef = x56
          generalize tmps[57]?.getD undef = x57
          generalize tmps[58]?.getD undef = x58
          generalize tmps[59]?.getD undef = x59
          generalize tmps[60]?.getD undef = x60
          generalize tmps[61]?.getD undef = x61
          generalize tmps[62]?.getD undef = x62
          generalize tmps[63]?.getD undef = x63
          generalize tmps[64]?.getD undef = x64
          generalize tmps[65]?.getD undef = x65
          generalize tmps[66]?.getD undef = x66
          generalize tmps[67]?.getD undef = x67
          generalize tmps[68]?.getD undef = x68
          generalize tmps[69]?.getD undef = x69
          generalize tmps[70]?.getD undef = x70
          generalize tmps[71]?.getD undef = x71
          generalize tmps[72]?.getD undef = x72
          generalize tmps[73]?.getD undef = x73
          generalize tmps[74]?.getD undef = x74
          generalize tmps[75]?.getD undef = x75
          generalize tmps[76]?.getD undef = x76
          rw [h77]
          clear h77
          simp only [List.setIfInBounds_toArray, List.set_cons_succ, List.set_cons_zero]
          replace HX := hid (HX.out.trans hle)
          replace H5 := hid (hle.block H5.out)
          replace H6 := hid (hle.block H6.out)
          replace H7 := hid (hle.block H7.out)
          clear hle
          obtain ⟨⟨a0, a1, a2, a3⟩, _, az⟩ := box4 H5.out
          obtain ⟨⟨b0, b1, b2, b3⟩, _, bz⟩ := box4 H6.out
          obtain ⟨⟨c0, c1, c2, c3⟩, _, cz⟩ := box4 H7.out
          go_wp2_with fail
          refine (KM.out _).mono ?_
          rintro e w8 ⟨rfl, hx⟩
          (first | replace HX := hid (HX.out.trans hx) | replace HX := hid ((HX.out.then_alloc _).trans hx))
          (first | replace H5 := hid (hx.block H5.out) | replace H5 := hid (hx.block ((Ext.alloc _ _).block H5.out)))
          (first | replace H6 := hid (hx.block H6.out) | replace H6 := hid (hx.block ((Ext.alloc _ _).block H6.out)))
          (first | replace H7 := hid (hx.block H7.out) | replace H7 := hid (hx.block ((Ext.alloc _ _).block H7.out)))
          clear hx a0 a1 a2 a3 az b0 b1 b2 b3 bz c0 c1 c2 c3 cz
          obtain ⟨⟨a0, a1, a2, a3⟩, _, az⟩ := box4 H5.out
          obtain ⟨⟨b0, b1, b2, b3⟩, _, bz⟩ := box4 H6.out
          obtain ⟨⟨c0, c1, c2, c3⟩, _, cz⟩ := box4 H7.out
          cases qe
          case false =>
            obtain ⟨rfl, rfl, rfl, rfl⟩ := HNO.out rfl
            go_wp2_with ((with_reducible show Calls _ 10 _ _ _); refine (awake5_any _).mono ?_; rintro e w9 ⟨rfl, hx⟩; replace HX := hid ((HX.out.then_alloc _).trans hx); clear hx)
            go_ret
            exact ⟨rfl, HX.out⟩
          case true =>
            by_cases hq1 : q1 = 1
            · subst hq1
              have KPD := hid (HD.out rfl rfl)
              go_wp2_with fail
              refine (KPD.out _).mono ?_
              rintro e w9 ⟨rfl, hx⟩
              (first | replace HX := hid (HX.out.trans hx) | replace HX := hid ((HX.out.then_alloc _).trans hx))
              (first | replace H5 := hid (hx.block H5.out) | replace H5 := hid (hx.block ((Ext.alloc _ _).block H5.out)))
              (first | replace H6 := hid (hx.block H6.out) | replace H6 := hid (hx.block ((Ext.alloc _ _).block H6.out)))
              (first | replace H7 := hid (hx.block H7.out) | replace H7 := hid (hx.block ((Ext.alloc _ _).block H7.out)))
              clear hx a0 a1 a2 a3 az b0 b1 b2 b3 bz c0 c1 c2 c3 cz
              obtain ⟨⟨a0, a1, a2, a3⟩, _, az⟩ := box4 H5.out
              obtain ⟨⟨b0, b1, b2, b3⟩, _, bz⟩ := box4 H6.out
              obtain ⟨⟨c0, c1, c2, c3⟩, _, cz⟩ := box4 H7.out
              go_wp2_with ((with_reducible show Calls _ 10 _ _ _); refine (awake5_any _).mono ?_; rintro e w9 ⟨rfl, hx⟩; replace HX := hid ((HX.out.then_alloc _).trans hx); clear hx)
              go_ret
              exact ⟨rfl, HX.out⟩
            · have nq1 : ((q1 : Int) == 1) = false := beq_eq_false_iff_ne.2 (by omega)
              clear hq1
              go_wp2_with ((with_reducible show Calls _ 10 _ _ _); refine (awake5_any _).mono ?_; rintro e w9 ⟨rfl, hx⟩; replace HX := hid ((HX.out.then_alloc _).trans hx); clear hx)
              go_ret
              exact ⟨rfl, HX.out⟩
end Go.Proofs.Ytaahaehgdamkdaa
