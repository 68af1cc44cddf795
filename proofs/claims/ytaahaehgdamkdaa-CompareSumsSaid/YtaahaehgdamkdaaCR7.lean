/- The document's Minus of values, by its contract. Conditions: numbers within their kinds. -/
import Derived.Test.YtaahaehgdamkdaaCR6
import Derived.BigQuiet
import Derived.Deep.RegionWith
namespace Go.Proofs.Ytaahaehgdamkdaa
open Go Go.RowKit

theorem neg_is_clean {u : Nat} (hu : u < 18446744073709551616) : cleanZ (negZ u) = negZ u := by
  by_cases h : kindZ u = 5
  · rw [neg_nan h]; decide
  · unfold cleanZ
    rw [if_neg (by rw [neg_kind hu]; exact h)]

theorem blocks3' (w : World) (o1 o2 o3 : Obj) : (((w.alloc o1).alloc o2).alloc o3).heap[w.heap.size]? = some o1 ∧ (((w.alloc o1).alloc o2).alloc o3).heap[w.heap.size + 1]? = some o2 ∧ (((w.alloc o1).alloc o2).alloc o3).heap[w.heap.size + 1 + 1]? = some o3 ∧ Ext w (((w.alloc o1).alloc o2).alloc o3) := by
  have e1 : (w.alloc o1).heap.size = w.heap.size + 1 := by simp
  have e2 : ((w.alloc o1).alloc o2).heap.size = w.heap.size + 1 + 1 := by simp
  have h1 := ((Ext.alloc (w.alloc o1) o2).then_alloc o3).block (heap_alloc_new w o1)
  have h2 := (Ext.alloc ((w.alloc o1).alloc o2) o3).block (heap_alloc_new (w.alloc o1) o2)
  have h3 := heap_alloc_new ((w.alloc o1).alloc o2) o3
  rw [e1] at h2
  rw [e2] at h3
  exact ⟨h1, h2, h3, ((Ext.alloc w o1).then_alloc o2).then_alloc o3⟩

/-- what the slots of the region hold -/
def vminusG (a b : Value) (X Y : Nat) (o p : Value) (E : Bool) : Nat → Value → World → Prop
  | 0, v, _ => v = a
  | 1, v, _ => v = b
  | 2, v, _ => v = .int .u64 (X : Int)
  | 3, v, _ => v = .int .u64 (Y : Int)
  | 4, v, _ => v = o
  | 5, v, _ => v = .tuple #[p, .bool E]
  | 6, v, _ => v = p
  | 7, v, _ => v = .bool E
  | _, _, _ => True
theorem vminusG_st (a b : Value) (X Y : Nat) (o p : Value) (E : Bool) : ∀ i9 z9 x9 y9, vminusG a b X Y o p E i9 z9 x9 → Ext x9 y9 → vminusG a b X Y o p E i9 z9 y9 := by
  intro i9 z9 x9 y9 h _
  unfold vminusG at *
  split at h <;> first | exact h | trivial

set_option maxRecDepth 100000 in
set_option maxHeartbeats 2000000 in
theorem rminus_bad (k : Nat) (n : Int) (b : Nat) (t : ByteArray) (l : Nat) (m : Int) (c : Nat) (u : ByteArray) (w : World) (_hn0 : -9223372036854775808 ≤ n) (_hn1 : n ≤ 9223372036854775807) (_hm0 : -9223372036854775808 ≤ m) (_hm1 : m ≤ 9223372036854775807) (_hb : b ≤ 18446744073709551615) (hc : c ≤ 18446744073709551615) (h : checkV l m c u ≠ 0) :
    Calls Try.prog 16 #[.agg #[.int .u8 (k : Int), .int .i64 n, .int .u64 (b : Int), .string t], .agg #[.int .u8 (l : Int), .int .i64 m, .int .u64 (c : Int), .string u]] w (SaysVB w (VZ.none, false)) := by
  have k2 := fun W => rcheck_any l m c u W hc
  generalize checkV l m c u = E at *
  have hE : (E != 0) = true := bne_iff_ne.2 h
  unfold vv at k2
  clear h
  go_enter Try.func16, Try.ntmps16
  go_wp2_with fail
  refine (k2 _).mono ?_
  rintro e w1 ⟨rfl, hx⟩
  obtain ⟨q1, q2, q3, q5⟩ := blocks3' w _ _ _
  have hA := hid (hx.block q1)
  have hBB := hid (hx.block q2)
  have hR := hid (hx.block q3)
  have HX := hid (q5.trans hx)
  clear hx q1 q2 q3 q5 k2
  obtain ⟨⟨a0, a1, a2, a3⟩, ⟨am0, am1, am2, am3⟩, az⟩ := box4 hA.out
  obtain ⟨⟨b0, b1, b2, b3⟩, ⟨bm0, bm1, bm2, bm3⟩, bz⟩ := box4 hBB.out
  obtain ⟨⟨c0, c1, c2, c3⟩, ⟨m0, m1, m2, m3⟩, z0⟩ := box4 hR.out
  go_wp2_with fail
  refine bodyPost_ret (ret_cell_tmp rfl _ _ (w.heap.size + 1 + 1) 24 _ (0, 0) _ rfl (set4 hR.out) Try.underlying24 rfl (by kernel_rfl)) rfl (SaysVB.mk rfl rfl ?_)
  repeat (first | (with_reducible exact HX.out) | (with_reducible apply Ext.then_drew) | (with_reducible apply Ext.then_alloc) | (with_reducible refine Ext.setCell ?_ (by simp; omega) _))

set_option maxRecDepth 100000 in
set_option maxHeartbeats 2000000 in
theorem rminus_none2 (k : Nat) (n : Int) (b : Nat) (t : ByteArray) (m : Int) (c : Nat) (u : ByteArray) (w : World) (_hn0 : -9223372036854775808 ≤ n) (_hn1 : n ≤ 9223372036854775807) (_hm0 : -9223372036854775808 ≤ m) (_hm1 : m ≤ 9223372036854775807) (_hb : b ≤ 18446744073709551615) (hc : c ≤ 18446744073709551615) (h2 : checkV 2 m c u = 0) :
    Calls Try.prog 16 #[.agg #[.int .u8 (k : Int), .int .i64 n, .int .u64 (b : Int), .string t], .agg #[.int .u8 2, .int .i64 m, .int .u64 (c : Int), .string u]] w (SaysVB w (VZ.none, false)) := by
  have k2 := fun W => rcheck_any 2 m c u W hc
  rw [h2] at k2
  replace k2 : ∀ W, Calls Try.prog 34 #[.agg #[.int .u8 2, .int .i64 m, .int .u64 (c : Int), .string u]] W (Says W (.int .i64 0)) := k2
  have ln := fun W => rnumber_any 2 W
  rw [show numK 2 = false from rfl] at ln
  clear h2
  go_enter Try.func16, Try.ntmps16
  go_wp2_with fail
  refine (k2 _).mono ?_
  rintro e w1 ⟨rfl, hx⟩
  obtain ⟨q1, q2, q3, q5⟩ := blocks3' w _ _ _
  have hA := hid (hx.block q1)
  have hBB := hid (hx.block q2)
  have hR := hid (hx.block q3)
  have HX := hid (q5.trans hx)
  clear hx q1 q2 q3 q5 k2
  obtain ⟨⟨a0, a1, a2, a3⟩, ⟨am0, am1, am2, am3⟩, az⟩ := box4 hA.out
  obtain ⟨⟨b0, b1, b2, b3⟩, ⟨bm0, bm1, bm2, bm3⟩, bz⟩ := box4 hBB.out
  obtain ⟨⟨c0, c1, c2, c3⟩, ⟨m0, m1, m2, m3⟩, z0⟩ := box4 hR.out
  go_wp2_with ((with_reducible show Calls _ 35 _ _ _); refine (ln _).mono ?_; rintro e w9 ⟨rfl, rfl⟩)
  refine bodyPost_ret (ret_cell_tmp rfl _ _ (w.heap.size + 1 + 1) 24 _ (0, 0) _ rfl (set4 hR.out) Try.underlying24 rfl (by kernel_rfl)) rfl (SaysVB.mk rfl rfl ?_)
  repeat (first | (with_reducible exact HX.out) | (with_reducible apply Ext.then_drew) | (with_reducible apply Ext.then_alloc) | (with_reducible refine Ext.setCell ?_ (by simp; omega) _))

set_option maxRecDepth 100000 in
set_option maxHeartbeats 2000000 in
theorem rminus_none4 (k : Nat) (n : Int) (b : Nat) (t : ByteArray) (m : Int) (c : Nat) (u : ByteArray) (w : World) (_hn0 : -9223372036854775808 ≤ n) (_hn1 : n ≤ 9223372036854775807) (_hm0 : -9223372036854775808 ≤ m) (_hm1 : m ≤ 9223372036854775807) (_hb : b ≤ 18446744073709551615) (hc : c ≤ 18446744073709551615) (h2 : checkV 4 m c u = 0) :
    Calls Try.prog 16 #[.agg #[.int .u8 (k : Int), .int .i64 n, .int .u64 (b : Int), .string t], .agg #[.int .u8 4, .int .i64 m, .int .u64 (c : Int), .string u]] w (SaysVB w (VZ.none, false)) := by
  have k2 := fun W => rcheck_any 4 m c u W hc
  rw [h2] at k2
  replace k2 : ∀ W, Calls Try.prog 34 #[.agg #[.int .u8 4, .int .i64 m, .int .u64 (c : Int), .string u]] W (Says W (.int .i64 0)) := k2
  have ln := fun W => rnumber_any 4 W
  rw [show numK 4 = false from rfl] at ln
  clear h2
  go_enter Try.func16, Try.ntmps16
  go_wp2_with fail
  refine (k2 _).mono ?_
  rintro e w1 ⟨rfl, hx⟩
  obtain ⟨q1, q2, q3, q5⟩ := blocks3' w _ _ _
  have hA := hid (hx.block q1)
  have hBB := hid (hx.block q2)
  have hR := hid (hx.block q3)
  have HX := hid (q5.trans hx)
  clear hx q1 q2 q3 q5 k2
  obtain ⟨⟨a0, a1, a2, a3⟩, ⟨am0, am1, am2, am3⟩, az⟩ := box4 hA.out
  obtain ⟨⟨b0, b1, b2, b3⟩, ⟨bm0, bm1, bm2, bm3⟩, bz⟩ := box4 hBB.out
  obtain ⟨⟨c0, c1, c2, c3⟩, ⟨m0, m1, m2, m3⟩, z0⟩ := box4 hR.out
  go_wp2_with ((with_reducible show Calls _ 35 _ _ _); refine (ln _).mono ?_; rintro e w9 ⟨rfl, rfl⟩)
  refine bodyPost_ret (ret_cell_tmp rfl _ _ (w.heap.size + 1 + 1) 24 _ (0, 0) _ rfl (set4 hR.out) Try.underlying24 rfl (by kernel_rfl)) rfl (SaysVB.mk rfl rfl ?_)
  repeat (first | (with_reducible exact HX.out) | (with_reducible apply Ext.then_drew) | (with_reducible apply Ext.then_alloc) | (with_reducible refine Ext.setCell ?_ (by simp; omega) _))

set_option maxRecDepth 100000 in
set_option maxHeartbeats 2000000 in
theorem rminus_int (k : Nat) (n : Int) (b : Nat) (t : ByteArray) (m : Int) (c : Nat) (u : ByteArray) (w : World) (hn0 : -9223372036854775808 ≤ n) (hn1 : n ≤ 9223372036854775807) (hm0 : -9223372036854775808 ≤ m) (hm1 : m ≤ 9223372036854775807) (hb : b ≤ 18446744073709551615) (hc : c ≤ 18446744073709551615) (h2 : checkV 1 m c u = 0) (hk : k = 1) :
    Calls Try.prog 16 #[.agg #[.int .u8 (k : Int), .int .i64 n, .int .u64 (b : Int), .string t], .agg #[.int .u8 1, .int .i64 m, .int .u64 (c : Int), .string u]] w (SaysVB w (plusV 1 n b t 1 (-m) c u)) := by
  subst hk
  have k2 := fun W => rcheck_any 1 m c u W hc
  rw [h2] at k2
  replace k2 : ∀ W, Calls Try.prog 34 #[.agg #[.int .u8 1, .int .i64 m, .int .u64 (c : Int), .string u]] W (Says W (.int .i64 0)) := k2
  have p2 := check_parts h2
  have bm0 : -4611686018427387904 ≤ m := by omega
  have bm1 : m ≤ 4611686018427387904 := by omega
  have kp := fun W => rplus_any 1 n b t 1 (-m) c u W hn0 hn1 (by omega) (by omega) hb hc
  obtain ⟨⟨K, N, B, T⟩, E, hp⟩ : ∃ X E, plusV 1 n b t 1 (-m) c u = (X, E) := ⟨_, _, rfl⟩
  rw [hp] at kp ⊢
  replace kp : ∀ W, Calls Try.prog 14 #[.agg #[.int .u8 1, .int .i64 n, .int .u64 (b : Int), .string t], .agg #[.int .u8 1, .int .i64 (-m), .int .u64 (c : Int), .string u]] W (fun e w' => e = .returned (.tuple #[.agg #[.int .u8 (K : Int), .int .i64 N, .int .u64 (B : Int), .string T], .bool E]) ∧ Ext W w') := kp
  clear p2 h2 hp
  go_enter Try.func16, Try.ntmps16
  go_wp2_with fail
  refine (k2 _).mono ?_
  rintro e w1 ⟨rfl, hx⟩
  obtain ⟨q1, q2, q3, q5⟩ := blocks3' w _ _ _
  have hA := hid (hx.block q1)
  have hBB := hid (hx.block q2)
  have hR := hid (hx.block q3)
  have HX := hid (q5.trans hx)
  clear hx q1 q2 q3 q5 k2
  obtain ⟨⟨a0, a1, a2, a3⟩, ⟨am0, am1, am2, am3⟩, az⟩ := box4 hA.out
  obtain ⟨⟨b0, b1, b2, b3⟩, ⟨bm0, bm1, bm2, bm3⟩, bz⟩ := box4 hBB.out
  obtain ⟨⟨c0, c1, c2, c3⟩, ⟨m0, m1, m2, m3⟩, z0⟩ := box4 hR.out
  go_wp2_with fail
  refine (kp _).mono ?_
  rintro e w2 ⟨rfl, hx⟩
  have HX2 : Hid (Ext w w2) := by
    refine Ext.trans ?_ hx
    exact HX.out.setCell (by simp) _
  have hR2 := hid (hx.block ((heap_setCell_other _ _ _ _ (by simp)).trans hR.out))
  clear hx HX hR
  clear a0 a1 a2 a3 am0 am1 am2 am3 az b0 b1 b2 b3 bm0 bm1 bm2 bm3 bz c0 c1 c2 c3 m0 m1 m2 m3 z0
  have HX := HX2
  have hR := hR2
  obtain ⟨⟨c0, c1, c2, c3⟩, ⟨m0, m1, m2, m3⟩, z0⟩ := box4 hR.out
  go_wp2_with fail
  refine bodyPost_ret (ret_cell_tmp rfl _ _ (w.heap.size + 1 + 1) 24 _ (0, 0) _ rfl (set4 hR.out) Try.underlying24 rfl (by kernel_rfl)) rfl (SaysVB.mk rfl rfl ?_)
  repeat (first | (with_reducible exact HX.out) | (with_reducible apply Ext.then_drew) | (with_reducible apply Ext.then_alloc) | (with_reducible refine Ext.setCell ?_ (by simp; omega) _))

set_option maxRecDepth 100000 in
set_option maxHeartbeats 2000000 in
theorem rminus_real1 (k : Nat) (n : Int) (b : Nat) (t : ByteArray) (m : Int) (c : Nat) (u : ByteArray) (w : World) (hn0 : -9223372036854775808 ≤ n) (hn1 : n ≤ 9223372036854775807) (hm0 : -9223372036854775808 ≤ m) (hm1 : m ≤ 9223372036854775807) (hb : b ≤ 18446744073709551615) (hc : c ≤ 18446744073709551615) (h2 : checkV 1 m c u = 0) (hk : k ≠ 1) :
    Calls Try.prog 16 #[.agg #[.int .u8 (k : Int), .int .i64 n, .int .u64 (b : Int), .string t], .agg #[.int .u8 1, .int .i64 m, .int .u64 (c : Int), .string u]] w (SaysVB w (plusV k n b t 3 0 (negZ (bitsV 1 m c)) noText)) := by
  have k2 := fun W => rcheck_any 1 m c u W hc
  rw [h2] at k2
  replace k2 : ∀ W, Calls Try.prog 34 #[.agg #[.int .u8 1, .int .i64 m, .int .u64 (c : Int), .string u]] W (Says W (.int .i64 0)) := k2
  have ln := fun W => rnumber_any 1 W
  rw [show numK 1 = true from rfl] at ln
  have kb := fun W => rbits_any 1 m c u W hm0 hm1
  have hl1 : bitsV 1 m c ≤ 18446744073709551615 := bits_lt _ _ _ hc
  generalize bitsV 1 m c = X at *
  replace kb : ∀ W, Calls Try.prog 43 #[.agg #[.int .u8 1, .int .i64 m, .int .u64 (c : Int), .string u]] W (Says W (.int .u64 (X : Int))) := kb
  have kng := fun W => rneg_any X W hl1
  have hnl : negZ X ≤ 18446744073709551615 := by have := neg_lt (u := X) (by omega); omega
  have ko := fun W => vrofreal_any (negZ X) W hnl
  have hv : (ofRealV (negZ X)) = ⟨3, 0, negZ X, noText⟩ := by unfold ofRealV; rw [neg_is_clean (by omega)]
  rw [hv] at ko
  generalize negZ X = Y at *
  replace ko : ∀ W, Calls Try.prog 41 #[.int .u64 (Y : Int)] W (Says W (.agg #[.int .u8 3, .int .i64 0, .int .u64 (Y : Int), .string ⟨#[]⟩])) := ko
  have kp := fun W => rplus_any k n b t 3 0 Y noText W hn0 hn1 (by decide) (by decide) hb hnl
  obtain ⟨⟨K, N, B, T⟩, E, hp⟩ : ∃ X E, plusV k n b t 3 0 Y noText = (X, E) := ⟨_, _, rfl⟩
  rw [hp] at kp ⊢
  replace kp : ∀ W, Calls Try.prog 14 #[.agg #[.int .u8 (k : Int), .int .i64 n, .int .u64 (b : Int), .string t], .agg #[.int .u8 3, .int .i64 0, .int .u64 (Y : Int), .string ⟨#[]⟩]] W (fun e w' => e = .returned (.tuple #[.agg #[.int .u8 (K : Int), .int .i64 N, .int .u64 (B : Int), .string T], .bool E]) ∧ Ext W w') := kp
  clear h2 hp hv hnl hl1 hb hc hn0 hn1 hm0 hm1
  have hk' : ((k : Int) == 1) = false := beq_eq_false_iff_ne.2 (by omega)
  clear hk
  go_enter Try.func16, Try.ntmps16
  go_wp2_with fail
  refine (k2 _).mono ?_
  rintro e w1 ⟨rfl, hx⟩
  obtain ⟨q1, q2, q3, q5⟩ := blocks3' w _ _ _
  have hA := hid (hx.block q1)
  have hBB := hid (hx.block q2)
  have hR := hid (hx.block q3)
  have HX := hid (q5.trans hx)
  clear hx q1 q2 q3 q5 k2
  obtain ⟨⟨a0, a1, a2, a3⟩, ⟨am0, am1, am2, am3⟩, az⟩ := box4 hA.out
  obtain ⟨⟨b0, b1, b2, b3⟩, ⟨bm0, bm1, bm2, bm3⟩, bz⟩ := box4 hBB.out
  obtain ⟨⟨c0, c1, c2, c3⟩, ⟨m0, m1, m2, m3⟩, z0⟩ := box4 hR.out
  go_wp2_with ((with_reducible show Calls _ 35 _ _ _); refine (ln _).mono ?_; rintro e w9 ⟨rfl, rfl⟩)
  refine wp_region_tail 8 Ext (vminusG (.agg #[.int .u8 (k : Int), .int .i64 n, .int .u64 (b : Int), .string t]) (.agg #[.int .u8 1, .int .i64 m, .int .u64 (c : Int), .string u]) X Y (.agg #[.int .u8 3, .int .i64 0, .int .u64 (Y : Int), .string ⟨#[]⟩]) (.agg #[.int .u8 (K : Int), .int .i64 N, .int .u64 (B : Int), .string T]) E) (by kernel_rfl) Ext.trans Ext.refl (Ext.drew _) (vminusG_st _ _ _ _ _ _ _) (by kernel_rfl) (by kernel_rfl) ?_ ?_
  · intro tmps df wr hle hfr j o hj ho hty
    have h2 : tmps[2]?.getD undef = .pointer (some ⟨w.heap.size, 0, none⟩) := hfr 2 (by kernel_rfl)
    have h3 : tmps[3]?.getD undef = .pointer (some ⟨w.heap.size + 1, 0, none⟩) := hfr 3 (by kernel_rfl)
    obtain ⟨⟨a0, a1, a2, a3⟩, _, _⟩ := box4 (hle.block hA.out)
    obtain ⟨⟨b0, b1, b2, b3⟩, _, _⟩ := box4 (hle.block hBB.out)
    clear hfr
    match j, ho, hj with
    | 0, ho, _ =>
      obtain rfl := (Option.some.inj ho)
      clear hty ho
      refine step_pure (.agg #[.int .u8 (k : Int), .int .i64 n, .int .u64 (b : Int), .string t]) (wanted_free rfl) ?_ (Ext.refl _) rfl
      simp [execOp, Act.eval, h2, a0, a1, a2, a3, go_sem]
    | 1, ho, _ =>
      obtain rfl := (Option.some.inj ho)
      clear hty ho
      refine step_pure (.agg #[.int .u8 1, .int .i64 m, .int .u64 (c : Int), .string u]) (wanted_free rfl) ?_ (Ext.refl _) rfl
      simp [execOp, Act.eval, h3, b0, b1, b2, b3, go_sem]
    | 2, ho, _ =>
      have h33 : tmps[33]?.getD undef = .agg #[.int .u8 1, .int .i64 m, .int .u64 (c : Int), .string u] := hty 1 33 (by kernel_rfl) (by obtain rfl := (Option.some.inj ho); rfl)
      obtain rfl := (Option.some.inj ho)
      clear hty ho
      refine step_call 43 #[.agg #[.int .u8 1, .int .i64 m, .int .u64 (c : Int), .string u]] (wanted_free rfl) ?_ ?_
      · simp [execOp, Act.eval, h33, go_sem]
      · exact (kb _).mono fun e w' h => ⟨_, h.1, h.2, rfl⟩
    | 3, ho, _ =>
      have h34 : tmps[34]?.getD undef = .int .u64 (X : Int) := hty 2 34 (by kernel_rfl) (by obtain rfl := (Option.some.inj ho); rfl)
      obtain rfl := (Option.some.inj ho)
      clear hty ho
      refine step_call 46 #[.int .u64 (X : Int)] (wanted_free rfl) ?_ ?_
      · simp [execOp, Act.eval, h34, go_sem]
      · exact (kng _).mono fun e w' h => ⟨_, h.1, h.says.2, rfl⟩
    | 4, ho, _ =>
      have h35 : tmps[35]?.getD undef = .int .u64 (Y : Int) := hty 3 35 (by kernel_rfl) (by obtain rfl := (Option.some.inj ho); rfl)
      obtain rfl := (Option.some.inj ho)
      clear hty ho
      refine step_call 41 #[.int .u64 (Y : Int)] (wanted_free rfl) ?_ ?_
      · simp [execOp, Act.eval, h35, go_sem]
      · exact (ko _).mono fun e w' h => ⟨_, h.1, h.2, rfl⟩
    | 5, ho, _ =>
      have h32 : tmps[32]?.getD undef = .agg #[.int .u8 (k : Int), .int .i64 n, .int .u64 (b : Int), .string t] := hty 0 32 (by kernel_rfl) (by obtain rfl := (Option.some.inj ho); rfl)
      have h36 : tmps[36]?.getD undef = .agg #[.int .u8 3, .int .i64 0, .int .u64 (Y : Int), .string ⟨#[]⟩] := hty 4 36 (by kernel_rfl) (by obtain rfl := (Option.some.inj ho); rfl)
      obtain rfl := (Option.some.inj ho)
      clear hty ho
      refine step_call 14 #[.agg #[.int .u8 (k : Int), .int .i64 n, .int .u64 (b : Int), .string t], .agg #[.int .u8 3, .int .i64 0, .int .u64 (Y : Int), .string ⟨#[]⟩]] (wanted_free rfl) ?_ ?_
      · simp [execOp, Act.eval, h32, h36, go_sem]
      · exact (kp _).mono fun e w' h => ⟨_, h.1, h.2, rfl⟩
    | 6, ho, _ =>
      have h37 : tmps[37]?.getD undef = .tuple #[.agg #[.int .u8 (K : Int), .int .i64 N, .int .u64 (B : Int), .string T], .bool E] := hty 5 37 (by kernel_rfl) (by obtain rfl := (Option.some.inj ho); rfl)
      obtain rfl := (Option.some.inj ho)
      clear hty ho
      refine step_pure (.agg #[.int .u8 (K : Int), .int .i64 N, .int .u64 (B : Int), .string T]) (wanted_free rfl) ?_ (Ext.refl _) rfl
      simp [execOp, Act.eval, h37, go_sem]
    | 7, ho, _ =>
      have h37 : tmps[37]?.getD undef = .tuple #[.agg #[.int .u8 (K : Int), .int .i64 N, .int .u64 (B : Int), .string T], .bool E] := hty 5 37 (by kernel_rfl) (by obtain rfl := (Option.some.inj ho); rfl)
      obtain rfl := (Option.some.inj ho)
      clear hty ho
      refine step_pure (.bool E) (wanted_free rfl) ?_ (Ext.refl _) rfl
      simp [execOp, Act.eval, h37, go_sem]
    | (j + 8), _, hj => omega
  · intro tmps w5 hle hs hfr hty
    have h38 : tmps[38]?.getD undef = .agg #[.int .u8 (K : Int), .int .i64 N, .int .u64 (B : Int), .string T] := hty 6 38 (by kernel_rfl)
    have h39 : tmps[39]?.getD undef = .bool E := hty 7 39 (by kernel_rfl)
    have hfe := nframe_eq [32, 33, 34, 35, 36, 37, 38, 39] hs hfr (by kernel_rfl)
    rw [hfe]
    clear hfe hfr hs hty
    simp only [List.foldl_cons, List.foldl_nil]
    rw [h38, h39]
    generalize tmps[32]?.getD undef = x32
    generalize tmps[33]?.getD undef = x33
    generalize tmps[34]?.getD undef = x34
    generalize tmps[35]?.getD undef = x35
    generalize tmps[36]?.getD undef = x36
    generalize tmps[37]?.getD undef = x37
    clear h38 h39
    replace hR := hid (hle.block hR.out)
    replace HX := hid (HX.out.trans hle)
    clear hle kb kng ko kp
    clear a0 a1 a2 a3 am0 am1 am2 am3 az b0 b1 b2 b3 bm0 bm1 bm2 bm3 bz c0 c1 c2 c3 m0 m1 m2 m3 z0
    simp only [List.drop_succ_cons, List.drop_zero, List.setIfInBounds_toArray, List.set_cons_succ, List.set_cons_zero]
    obtain ⟨⟨c0, c1, c2, c3⟩, ⟨m0, m1, m2, m3⟩, z0⟩ := box4 hR.out
    go_wp2_with fail
    refine bodyPost_ret (ret_cell_tmp rfl _ _ (w.heap.size + 1 + 1) 24 _ (0, 0) _ rfl (set4 hR.out) Try.underlying24 rfl (by kernel_rfl)) rfl (SaysVB.mk rfl rfl ?_)
    repeat (first | (with_reducible exact HX.out) | (with_reducible apply Ext.then_drew) | (with_reducible apply Ext.then_alloc) | (with_reducible refine Ext.setCell ?_ (by simp; omega) _))

set_option maxRecDepth 100000 in
set_option maxHeartbeats 2000000 in
theorem rminus_real3 (k : Nat) (n : Int) (b : Nat) (t : ByteArray) (m : Int) (c : Nat) (u : ByteArray) (w : World) (hn0 : -9223372036854775808 ≤ n) (hn1 : n ≤ 9223372036854775807) (hm0 : -9223372036854775808 ≤ m) (hm1 : m ≤ 9223372036854775807) (hb : b ≤ 18446744073709551615) (hc : c ≤ 18446744073709551615) (h2 : checkV 3 m c u = 0) :
    Calls Try.prog 16 #[.agg #[.int .u8 (k : Int), .int .i64 n, .int .u64 (b : Int), .string t], .agg #[.int .u8 3, .int .i64 m, .int .u64 (c : Int), .string u]] w (SaysVB w (plusV k n b t 3 0 (negZ (bitsV 3 m c)) noText)) := by
  have k2 := fun W => rcheck_any 3 m c u W hc
  rw [h2] at k2
  replace k2 : ∀ W, Calls Try.prog 34 #[.agg #[.int .u8 3, .int .i64 m, .int .u64 (c : Int), .string u]] W (Says W (.int .i64 0)) := k2
  have ln := fun W => rnumber_any 3 W
  rw [show numK 3 = true from rfl] at ln
  have kb := fun W => rbits_any 3 m c u W hm0 hm1
  have hl1 : bitsV 3 m c ≤ 18446744073709551615 := bits_lt _ _ _ hc
  generalize bitsV 3 m c = X at *
  replace kb : ∀ W, Calls Try.prog 43 #[.agg #[.int .u8 3, .int .i64 m, .int .u64 (c : Int), .string u]] W (Says W (.int .u64 (X : Int))) := kb
  have kng := fun W => rneg_any X W hl1
  have hnl : negZ X ≤ 18446744073709551615 := by have := neg_lt (u := X) (by omega); omega
  have ko := fun W => vrofreal_any (negZ X) W hnl
  have hv : (ofRealV (negZ X)) = ⟨3, 0, negZ X, noText⟩ := by unfold ofRealV; rw [neg_is_clean (by omega)]
  rw [hv] at ko
  generalize negZ X = Y at *
  replace ko : ∀ W, Calls Try.prog 41 #[.int .u64 (Y : Int)] W (Says W (.agg #[.int .u8 3, .int .i64 0, .int .u64 (Y : Int), .string ⟨#[]⟩])) := ko
  have kp := fun W => rplus_any k n b t 3 0 Y noText W hn0 hn1 (by decide) (by decide) hb hnl
  obtain ⟨⟨K, N, B, T⟩, E, hp⟩ : ∃ X E, plusV k n b t 3 0 Y noText = (X, E) := ⟨_, _, rfl⟩
  rw [hp] at kp ⊢
  replace kp : ∀ W, Calls Try.prog 14 #[.agg #[.int .u8 (k : Int), .int .i64 n, .int .u64 (b : Int), .string t], .agg #[.int .u8 3, .int .i64 0, .int .u64 (Y : Int), .string ⟨#[]⟩]] W (fun e w' => e = .returned (.tuple #[.agg #[.int .u8 (K : Int), .int .i64 N, .int .u64 (B : Int), .string T], .bool E]) ∧ Ext W w') := kp
  clear h2 hp hv hnl hl1 hb hc hn0 hn1 hm0 hm1
  go_enter Try.func16, Try.ntmps16
  go_wp2_with fail
  refine (k2 _).mono ?_
  rintro e w1 ⟨rfl, hx⟩
  obtain ⟨q1, q2, q3, q5⟩ := blocks3' w _ _ _
  have hA := hid (hx.block q1)
  have hBB := hid (hx.block q2)
  have hR := hid (hx.block q3)
  have HX := hid (q5.trans hx)
  clear hx q1 q2 q3 q5 k2
  obtain ⟨⟨a0, a1, a2, a3⟩, ⟨am0, am1, am2, am3⟩, az⟩ := box4 hA.out
  obtain ⟨⟨b0, b1, b2, b3⟩, ⟨bm0, bm1, bm2, bm3⟩, bz⟩ := box4 hBB.out
  obtain ⟨⟨c0, c1, c2, c3⟩, ⟨m0, m1, m2, m3⟩, z0⟩ := box4 hR.out
  go_wp2_with ((with_reducible show Calls _ 35 _ _ _); refine (ln _).mono ?_; rintro e w9 ⟨rfl, rfl⟩)
  refine wp_region_tail 8 Ext (vminusG (.agg #[.int .u8 (k : Int), .int .i64 n, .int .u64 (b : Int), .string t]) (.agg #[.int .u8 3, .int .i64 m, .int .u64 (c : Int), .string u]) X Y (.agg #[.int .u8 3, .int .i64 0, .int .u64 (Y : Int), .string ⟨#[]⟩]) (.agg #[.int .u8 (K : Int), .int .i64 N, .int .u64 (B : Int), .string T]) E) (by kernel_rfl) Ext.trans Ext.refl (Ext.drew _) (vminusG_st _ _ _ _ _ _ _) (by kernel_rfl) (by kernel_rfl) ?_ ?_
  · intro tmps df wr hle hfr j o hj ho hty
    have h2 : tmps[2]?.getD undef = .pointer (some ⟨w.heap.size, 0, none⟩) := hfr 2 (by kernel_rfl)
    have h3 : tmps[3]?.getD undef = .pointer (some ⟨w.heap.size + 1, 0, none⟩) := hfr 3 (by kernel_rfl)
    obtain ⟨⟨a0, a1, a2, a3⟩, _, _⟩ := box4 (hle.block hA.out)
    obtain ⟨⟨b0, b1, b2, b3⟩, _, _⟩ := box4 (hle.block hBB.out)
    clear hfr
    match j, ho, hj with
    | 0, ho, _ =>
      obtain rfl := (Option.some.inj ho)
      clear hty ho
      refine step_pure (.agg #[.int .u8 (k : Int), .int .i64 n, .int .u64 (b : Int), .string t]) (wanted_free rfl) ?_ (Ext.refl _) rfl
      simp [execOp, Act.eval, h2, a0, a1, a2, a3, go_sem]
    | 1, ho, _ =>
      obtain rfl := (Option.some.inj ho)
      clear hty ho
      refine step_pure (.agg #[.int .u8 3, .int .i64 m, .int .u64 (c : Int), .string u]) (wanted_free rfl) ?_ (Ext.refl _) rfl
      simp [execOp, Act.eval, h3, b0, b1, b2, b3, go_sem]
    | 2, ho, _ =>
      have h33 : tmps[33]?.getD undef = .agg #[.int .u8 3, .int .i64 m, .int .u64 (c : Int), .string u] := hty 1 33 (by kernel_rfl) (by obtain rfl := (Option.some.inj ho); rfl)
      obtain rfl := (Option.some.inj ho)
      clear hty ho
      refine step_call 43 #[.agg #[.int .u8 3, .int .i64 m, .int .u64 (c : Int), .string u]] (wanted_free rfl) ?_ ?_
      · simp [execOp, Act.eval, h33, go_sem]
      · exact (kb _).mono fun e w' h => ⟨_, h.1, h.2, rfl⟩
    | 3, ho, _ =>
      have h34 : tmps[34]?.getD undef = .int .u64 (X : Int) := hty 2 34 (by kernel_rfl) (by obtain rfl := (Option.some.inj ho); rfl)
      obtain rfl := (Option.some.inj ho)
      clear hty ho
      refine step_call 46 #[.int .u64 (X : Int)] (wanted_free rfl) ?_ ?_
      · simp [execOp, Act.eval, h34, go_sem]
      · exact (kng _).mono fun e w' h => ⟨_, h.1, h.says.2, rfl⟩
    | 4, ho, _ =>
      have h35 : tmps[35]?.getD undef = .int .u64 (Y : Int) := hty 3 35 (by kernel_rfl) (by obtain rfl := (Option.some.inj ho); rfl)
      obtain rfl := (Option.some.inj ho)
      clear hty ho
      refine step_call 41 #[.int .u64 (Y : Int)] (wanted_free rfl) ?_ ?_
      · simp [execOp, Act.eval, h35, go_sem]
      · exact (ko _).mono fun e w' h => ⟨_, h.1, h.2, rfl⟩
    | 5, ho, _ =>
      have h32 : tmps[32]?.getD undef = .agg #[.int .u8 (k : Int), .int .i64 n, .int .u64 (b : Int), .string t] := hty 0 32 (by kernel_rfl) (by obtain rfl := (Option.some.inj ho); rfl)
      have h36 : tmps[36]?.getD undef = .agg #[.int .u8 3, .int .i64 0, .int .u64 (Y : Int), .string ⟨#[]⟩] := hty 4 36 (by kernel_rfl) (by obtain rfl := (Option.some.inj ho); rfl)
      obtain rfl := (Option.some.inj ho)
      clear hty ho
      refine step_call 14 #[.agg #[.int .u8 (k : Int), .int .i64 n, .int .u64 (b : Int), .string t], .agg #[.int .u8 3, .int .i64 0, .int .u64 (Y : Int), .string ⟨#[]⟩]] (wanted_free rfl) ?_ ?_
      · simp [execOp, Act.eval, h32, h36, go_sem]
      · exact (kp _).mono fun e w' h => ⟨_, h.1, h.2, rfl⟩
    | 6, ho, _ =>
      have h37 : tmps[37]?.getD undef = .tuple #[.agg #[.int .u8 (K : Int), .int .i64 N, .int .u64 (B : Int), .string T], .bool E] := hty 5 37 (by kernel_rfl) (by obtain rfl := (Option.some.inj ho); rfl)
      obtain rfl := (Option.some.inj ho)
      clear hty ho
      refine step_pure (.agg #[.int .u8 (K : Int), .int .i64 N, .int .u64 (B : Int), .string T]) (wanted_free rfl) ?_ (Ext.refl _) rfl
      simp [execOp, Act.eval, h37, go_sem]
    | 7, ho, _ =>
      have h37 : tmps[37]?.getD undef = .tuple #[.agg #[.int .u8 (K : Int), .int .i64 N, .int .u64 (B : Int), .string T], .bool E] := hty 5 37 (by kernel_rfl) (by obtain rfl := (Option.some.inj ho); rfl)
      obtain rfl := (Option.some.inj ho)
      clear hty ho
      refine step_pure (.bool E) (wanted_free rfl) ?_ (Ext.refl _) rfl
      simp [execOp, Act.eval, h37, go_sem]
    | (j + 8), _, hj => omega
  · intro tmps w5 hle hs hfr hty
    have h38 : tmps[38]?.getD undef = .agg #[.int .u8 (K : Int), .int .i64 N, .int .u64 (B : Int), .string T] := hty 6 38 (by kernel_rfl)
    have h39 : tmps[39]?.getD undef = .bool E := hty 7 39 (by kernel_rfl)
    have hfe := nframe_eq [32, 33, 34, 35, 36, 37, 38, 39] hs hfr (by kernel_rfl)
    rw [hfe]
    clear hfe hfr hs hty
    simp only [List.foldl_cons, List.foldl_nil]
    rw [h38, h39]
    generalize tmps[32]?.getD undef = x32
    generalize tmps[33]?.getD undef = x33
    generalize tmps[34]?.getD undef = x34
    generalize tmps[35]?.getD undef = x35
    generalize tmps[36]?.getD undef = x36
    generalize tmps[37]?.getD undef = x37
    clear h38 h39
    replace hR := hid (hle.block hR.out)
    replace HX := hid (HX.out.trans hle)
    clear hle kb kng ko kp
    clear a0 a1 a2 a3 am0 am1 am2 am3 az b0 b1 b2 b3 bm0 bm1 bm2 bm3 bz c0 c1 c2 c3 m0 m1 m2 m3 z0
    simp only [List.drop_succ_cons, List.drop_zero, List.setIfInBounds_toArray, List.set_cons_succ, List.set_cons_zero]
    obtain ⟨⟨c0, c1, c2, c3⟩, ⟨m0, m1, m2, m3⟩, z0⟩ := box4 hR.out
    go_wp2_with fail
    refine bodyPost_ret (ret_cell_tmp rfl _ _ (w.heap.size + 1 + 1) 24 _ (0, 0) _ rfl (set4 hR.out) Try.underlying24 rfl (by kernel_rfl)) rfl (SaysVB.mk rfl rfl ?_)
    repeat (first | (with_reducible exact HX.out) | (with_reducible apply Ext.then_drew) | (with_reducible apply Ext.then_alloc) | (with_reducible refine Ext.setCell ?_ (by simp; omega) _))

theorem rminus_any (k : Nat) (n : Int) (b : Nat) (t : ByteArray) (l : Nat) (m : Int) (c : Nat) (u : ByteArray) (w : World) (hn0 : -9223372036854775808 ≤ n) (hn1 : n ≤ 9223372036854775807) (hm0 : -9223372036854775808 ≤ m) (hm1 : m ≤ 9223372036854775807) (hb : b ≤ 18446744073709551615) (hc : c ≤ 18446744073709551615) :
    Calls Try.prog 16 #[vv k n b t, vv l m c u] w (SaysVB w (minusV k n b t l m c u)) := by
  by_cases c2 : checkV l m c u = 0
  · have p2 := check_parts c2
    have hl : l = 1 ∨ l = 2 ∨ l = 3 ∨ l = 4 := by omega
    have ng : ¬ checkV l m c u ≠ 0 := fun h => h c2
    rcases hl with rfl | rfl | rfl | rfl
    · by_cases hk : k = 1
      · have e : minusV k n b t 1 m c u = plusV 1 n b t 1 (-m) c u := by unfold minusV; rw [if_neg ng, if_pos ⟨rfl, hk⟩, hk]
        rw [e]
        exact rminus_int k n b t m c u w hn0 hn1 hm0 hm1 hb hc c2 hk
      · have e : minusV k n b t 1 m c u = plusV k n b t 3 0 (negZ (bitsV 1 m c)) noText := by unfold minusV; rw [if_neg ng, if_neg (fun h => hk h.2), if_neg (by decide)]
        rw [e]
        exact rminus_real1 k n b t m c u w hn0 hn1 hm0 hm1 hb hc c2 hk
    · have e : minusV k n b t 2 m c u = (VZ.none, false) := by unfold minusV; rw [if_neg ng, if_neg (by omega), if_pos (by decide)]
      rw [e]
      exact rminus_none2 k n b t m c u w hn0 hn1 hm0 hm1 hb hc c2
    · have e : minusV k n b t 3 m c u = plusV k n b t 3 0 (negZ (bitsV 3 m c)) noText := by unfold minusV; rw [if_neg ng, if_neg (by omega), if_neg (by decide)]
      rw [e]
      exact rminus_real3 k n b t m c u w hn0 hn1 hm0 hm1 hb hc c2
    · have e : minusV k n b t 4 m c u = (VZ.none, false) := by unfold minusV; rw [if_neg ng, if_neg (by omega), if_pos (by decide)]
      rw [e]
      exact rminus_none4 k n b t m c u w hn0 hn1 hm0 hm1 hb hc c2
  · have e : minusV k n b t l m c u = (VZ.none, false) := if_pos c2
    rw [e]
    exact rminus_bad k n b t l m c u w hn0 hn1 hm0 hm1 hb hc c2
end Go.Proofs.Ytaahaehgdamkdaa
