/- The landed program's Minus, by its contract. Conditions: numbers within their kinds. -/
import Derived.Test.YtaahaehgdamkdaaBase
import Derived.Test.YtaahaehgdamkdaaCP3
import Derived.Test.YtaahaehgdamkdaaCR7
import Derived.Test.YtaahaehgdamkdaaCP4
import Derived.BigQuiet
namespace Go.Proofs.Ytaahaehgdamkdaa
open Go Go.RowKit

set_option maxRecDepth 100000 in
set_option maxHeartbeats 2000000 in
theorem cminus_none (k : Nat) (n : Int) (b : Nat) (t : ByteArray) (l : Nat) (m : Int) (c : Nat) (u : ByteArray) (w : World) (hk : k ≤ 255) (hl : l ≤ 255) (hn0 : -9223372036854775808 ≤ n) (hn1 : n ≤ 9223372036854775807) (hm0 : -9223372036854775808 ≤ m) (hm1 : m ≤ 9223372036854775807) (hb : b ≤ 18446744073709551615) (hc : c ≤ 18446744073709551615) (ht : t.size ≤ 9223372036854775807) (hu : u.size ≤ 9223372036854775807) (h : ksumV k n b t l m c u = 0) :
    Calls Try.prog 15 #[vv k n b t, vv l m c u] w (SaysVB w (VZ.none, false)) := by
  have kq := fun W => cksum_any k n b t l m c u W hk hl hn0 hn1 hm0 hm1 hb hc ht hu
  rw [h] at kq
  clear h hk hl hn0 hn1 hm0 hm1 hb hc ht hu
  replace kq : ∀ W, Calls Try.prog 37 #[.agg #[.int .u8 (k : Int), .int .i64 n, .int .u64 (b : Int), .string t], .agg #[.int .u8 (l : Int), .int .i64 m, .int .u64 (c : Int), .string u]] W (Says W (.int .u8 0)) := kq
  unfold vv
  go_enter Try.func15, Try.ntmps15
  go_wp2_with fail
  refine (kq _).mono ?_
  rintro e w1 ⟨rfl, hx⟩
  obtain ⟨q1, q2, q3, q5⟩ := blocks3' w _ _ _
  have hA := hid (hx.block q1)
  have hBB := hid (hx.block q2)
  have hR := hid (hx.block q3)
  have HX := hid (q5.trans hx)
  clear hx q1 q2 q3 q5 kq
  obtain ⟨⟨a0, a1, a2, a3⟩, ⟨am0, am1, am2, am3⟩, az⟩ := box4 hA.out
  obtain ⟨⟨b0, b1, b2, b3⟩, ⟨bm0, bm1, bm2, bm3⟩, bz⟩ := box4 hBB.out
  obtain ⟨⟨c0, c1, c2, c3⟩, ⟨m0, m1, m2, m3⟩, z0⟩ := box4 hR.out
  go_wp2_with fail
  refine bodyPost_ret (ret_cell_tmp rfl _ _ (w.heap.size + 1 + 1) 28 _ (0, 0) _ rfl (set4 hR.out) Try.underlying28 rfl (by kernel_rfl)) rfl (SaysVB.mk rfl rfl ?_)
  repeat (first | (with_reducible exact HX.out) | (with_reducible apply Ext.then_drew) | (with_reducible apply Ext.then_alloc) | (with_reducible refine Ext.setCell ?_ (by simp; omega) _))

set_option maxRecDepth 100000 in
set_option maxHeartbeats 2000000 in
theorem cminus_whole (k : Nat) (n : Int) (b : Nat) (t : ByteArray) (l : Nat) (m : Int) (c : Nat) (u : ByteArray) (w : World) (hk : k ≤ 255) (hl : l ≤ 255) (hn0 : -9223372036854775808 ≤ n) (hn1 : n ≤ 9223372036854775807) (hm0 : -9223372036854775808 ≤ m) (hm1 : m ≤ 9223372036854775807) (hb : b ≤ 18446744073709551615) (hc : c ≤ 18446744073709551615) (ht : t.size ≤ 9223372036854775807) (hu : u.size ≤ 9223372036854775807) (h : ksumV k n b t l m c u = 1) (gn0 : -4611686018427387904 ≤ n) (gn1 : n ≤ 4611686018427387904) (gm0 : -4611686018427387904 ≤ m) (gm1 : m ≤ 4611686018427387904) :
    Calls Try.prog 15 #[vv k n b t, vv l m c u] w (SaysVB w (wholeV (n - m))) := by
  have kq := fun W => cksum_any k n b t l m c u W hk hl hn0 hn1 hm0 hm1 hb hc ht hu
  rw [h] at kq
  clear h hk hl hb hc ht hu hn0 hn1 hm0 hm1
  by_cases hw : n = 4611686018427387904 ∧ m = -4611686018427387904
  · obtain ⟨rfl, rfl⟩ := hw
    have kw := fun W => cwhole_any (-9223372036854775808) W (by decide) (by decide)
    have e0 : wholeV (-9223372036854775808) = (VZ.none, false) := if_neg (by decide)
    have e1 : wholeV (4611686018427387904 - -4611686018427387904) = (VZ.none, false) := if_neg (by decide)
    rw [e0] at kw
    rw [e1]
    replace kw : ∀ W, Calls Try.prog 38 #[.int .i64 (-9223372036854775808)] W (fun e w' => e = .returned (.tuple #[.agg #[.int .u8 0, .int .i64 0, .int .u64 0, .string ⟨#[]⟩], .bool false]) ∧ Ext W w') := kw
    clear e0 e1
    have ew : wrap64 9223372036854775808 = -9223372036854775808 := by kernel_rfl
    have kn : True := trivial
    replace kq : ∀ W, Calls Try.prog 37 #[.agg #[.int .u8 (k : Int), .int .i64 4611686018427387904, .int .u64 (b : Int), .string t], .agg #[.int .u8 (l : Int), .int .i64 (-4611686018427387904), .int .u64 (c : Int), .string u]] W (Says W (.int .u8 1)) := kq
    unfold vv
    go_enter Try.func15, Try.ntmps15
    go_wp2_with fail
    refine (kq _).mono ?_
    rintro e w1 ⟨rfl, hx⟩
    obtain ⟨q1, q2, q3, q5⟩ := blocks3' w _ _ _
    have hA := hid (hx.block q1)
    have hBB := hid (hx.block q2)
    have hR := hid (hx.block q3)
    have HX := hid (q5.trans hx)
    clear hx q1 q2 q3 q5 kq
    obtain ⟨⟨a0, a1, a2, a3⟩, ⟨am0, am1, am2, am3⟩, az⟩ := box4 hA.out
    obtain ⟨⟨b0, b1, b2, b3⟩, ⟨bm0, bm1, bm2, bm3⟩, bz⟩ := box4 hBB.out
    obtain ⟨⟨c0, c1, c2, c3⟩, ⟨m0, m1, m2, m3⟩, z0⟩ := box4 hR.out
    clear kn
    go_wp2_with fail
    rw [ew]
    refine (kw _).mono ?_
    rintro e w2 ⟨rfl, hx⟩
    replace hR := hid (hx.block hR.out)
    replace HX := hid (HX.out.trans hx)
    clear hx a0 a1 a2 a3 am0 am1 am2 am3 az b0 b1 b2 b3 bm0 bm1 bm2 bm3 bz c0 c1 c2 c3 m0 m1 m2 m3 z0
    obtain ⟨⟨c0, c1, c2, c3⟩, ⟨m0, m1, m2, m3⟩, z0⟩ := box4 hR.out
    go_wp2_with fail
    refine bodyPost_ret (ret_cell_tmp rfl _ _ (w.heap.size + 1 + 1) 28 _ (0, 0) _ rfl (set4 hR.out) Try.underlying28 rfl (by kernel_rfl)) rfl (SaysVB.mk rfl rfl ?_)
    repeat (first | (with_reducible exact HX.out) | (with_reducible apply Ext.then_drew) | (with_reducible apply Ext.then_alloc) | (with_reducible refine Ext.setCell ?_ (by simp; omega) _))
  · have s0 : -9223372036854775808 ≤ n - m := by omega
    have s1 : n - m ≤ 9223372036854775807 := by omega
    have kw := fun W => cwhole_any (n - m) W s0 s1
    obtain ⟨⟨K, N, B, T⟩, E, hp⟩ : ∃ X E, wholeV (n - m) = (X, E) := ⟨_, _, rfl⟩
    rw [hp] at kw ⊢
    replace kw : ∀ W, Calls Try.prog 38 #[.int .i64 (n - m)] W (fun e w' => e = .returned (.tuple #[.agg #[.int .u8 (K : Int), .int .i64 N, .int .u64 (B : Int), .string T], .bool E]) ∧ Ext W w') := kw
    clear hp hw
    have kn : True := trivial
    replace kq : ∀ W, Calls Try.prog 37 #[.agg #[.int .u8 (k : Int), .int .i64 n, .int .u64 (b : Int), .string t], .agg #[.int .u8 (l : Int), .int .i64 m, .int .u64 (c : Int), .string u]] W (Says W (.int .u8 1)) := kq
    unfold vv
    go_enter Try.func15, Try.ntmps15
    go_wp2_with fail
    refine (kq _).mono ?_
    rintro e w1 ⟨rfl, hx⟩
    obtain ⟨q1, q2, q3, q5⟩ := blocks3' w _ _ _
    have hA := hid (hx.block q1)
    have hBB := hid (hx.block q2)
    have hR := hid (hx.block q3)
    have HX := hid (q5.trans hx)
    clear hx q1 q2 q3 q5 kq
    obtain ⟨⟨a0, a1, a2, a3⟩, ⟨am0, am1, am2, am3⟩, az⟩ := box4 hA.out
    obtain ⟨⟨b0, b1, b2, b3⟩, ⟨bm0, bm1, bm2, bm3⟩, bz⟩ := box4 hBB.out
    obtain ⟨⟨c0, c1, c2, c3⟩, ⟨m0, m1, m2, m3⟩, z0⟩ := box4 hR.out
    clear kn
    go_wp2_with fail
    refine (kw _).mono ?_
    rintro e w2 ⟨rfl, hx⟩
    replace hR := hid (hx.block hR.out)
    replace HX := hid (HX.out.trans hx)
    clear hx a0 a1 a2 a3 am0 am1 am2 am3 az b0 b1 b2 b3 bm0 bm1 bm2 bm3 bz c0 c1 c2 c3 m0 m1 m2 m3 z0
    obtain ⟨⟨c0, c1, c2, c3⟩, ⟨m0, m1, m2, m3⟩, z0⟩ := box4 hR.out
    go_wp2_with fail
    refine bodyPost_ret (ret_cell_tmp rfl _ _ (w.heap.size + 1 + 1) 28 _ (0, 0) _ rfl (set4 hR.out) Try.underlying28 rfl (by kernel_rfl)) rfl (SaysVB.mk rfl rfl ?_)
    repeat (first | (with_reducible exact HX.out) | (with_reducible apply Ext.then_drew) | (with_reducible apply Ext.then_alloc) | (with_reducible refine Ext.setCell ?_ (by simp; omega) _))

/-- what the slots of the region hold where doubles are taken off -/
def cminusG (a b : Value) (X Y Z : Nat) : Nat → Value → World → Prop
  | 0, v, _ => v = a
  | 1, v, _ => v = .int .u64 (X : Int)
  | 2, v, _ => v = b
  | 3, v, _ => v = .int .u64 (Y : Int)
  | 4, v, _ => v = .int .u64 (Z : Int)
  | _, _, _ => True
theorem cminusG_st (a b : Value) (X Y Z : Nat) : ∀ i9 z9 x9 y9, cminusG a b X Y Z i9 z9 x9 → Ext x9 y9 → cminusG a b X Y Z i9 z9 y9 := by
  intro i9 z9 x9 y9 h _
  unfold cminusG at *
  split at h <;> first | exact h | trivial

set_option maxRecDepth 100000 in
set_option maxHeartbeats 2000000 in
theorem cminus_real (k : Nat) (n : Int) (b : Nat) (t : ByteArray) (l : Nat) (m : Int) (c : Nat) (u : ByteArray) (w : World) (hk : k ≤ 255) (hl : l ≤ 255) (hn0 : -9223372036854775808 ≤ n) (hn1 : n ≤ 9223372036854775807) (hm0 : -9223372036854775808 ≤ m) (hm1 : m ≤ 9223372036854775807) (hb : b ≤ 18446744073709551615) (hc : c ≤ 18446744073709551615) (ht : t.size ≤ 9223372036854775807) (hu : u.size ≤ 9223372036854775807) (h : ksumV k n b t l m c u = 3) :
    Calls Try.prog 15 #[vv k n b t, vv l m c u] w (SaysVB w (ofRealV (addZ (bitsV k n b) (negZ (bitsV l m c))), true)) := by
  have kq := fun W => cksum_any k n b t l m c u W hk hl hn0 hn1 hm0 hm1 hb hc ht hu
  rw [h] at kq
  have kb1 := fun W => cbits_any k n b t W hn0 hn1
  have kb2 := fun W => cbits_any l m c u W hm0 hm1
  have hl1 : bitsV k n b ≤ 18446744073709551615 := bits_lt _ _ _ hb
  have hl2 : bitsV l m c ≤ 18446744073709551615 := bits_lt _ _ _ hc
  generalize bitsV k n b = X at *
  generalize bitsV l m c = Y at *
  have kg := fun W => neg_any Y W hl2
  have hl3 : negZ Y ≤ 18446744073709551615 := by have := neg_lt (u := Y) (by omega); omega
  generalize negZ Y = Z1 at *
  have hs : addZ X Z1 ≤ 18446744073709551615 := by have := (add_clean X Z1 (by omega) (by omega)).2; omega
  have ka := fun W => add_any X Z1 W hl1 hl3
  have ko := fun W => vofreal_any (addZ X Z1) W hs
  have hv : (ofRealV (addZ X Z1)) = ⟨3, 0, cleanZ (addZ X Z1), noText⟩ := rfl
  rw [hv] at ko ⊢
  generalize cleanZ (addZ X Z1) = Z at *
  generalize addZ X Z1 = S at *
  replace ko : ∀ W, Calls Try.prog 27 #[.int .u64 (S : Int)] W (Says W (.agg #[.int .u8 3, .int .i64 0, .int .u64 (Z : Int), .string ⟨#[]⟩])) := ko
  replace kb1 : ∀ W, Calls Try.prog 40 #[.agg #[.int .u8 (k : Int), .int .i64 n, .int .u64 (b : Int), .string t]] W (Says W (.int .u64 (X : Int))) := kb1
  replace kb2 : ∀ W, Calls Try.prog 40 #[.agg #[.int .u8 (l : Int), .int .i64 m, .int .u64 (c : Int), .string u]] W (Says W (.int .u64 (Y : Int))) := kb2
  have HB1 := hid kb1
  have HB2 := hid kb2
  clear kb1 kb2 hv hs hl1 hl2 hl3 h hk hl hn0 hn1 hm0 hm1 hb hc ht hu
  replace kq : ∀ W, Calls Try.prog 37 #[.agg #[.int .u8 (k : Int), .int .i64 n, .int .u64 (b : Int), .string t], .agg #[.int .u8 (l : Int), .int .i64 m, .int .u64 (c : Int), .string u]] W (Says W (.int .u8 3)) := kq
  unfold vv
  go_enter Try.func15, Try.ntmps15
  go_wp2_with fail
  refine (kq _).mono ?_
  rintro e w1 ⟨rfl, hx⟩
  obtain ⟨q1, q2, q3, q5⟩ := blocks3' w _ _ _
  have hA := hid (hx.block q1)
  have hBB := hid (hx.block q2)
  have hR := hid (hx.block q3)
  have HX := hid (q5.trans hx)
  clear hx q1 q2 q3 q5 kq
  obtain ⟨⟨a0, a1, a2, a3⟩, ⟨am0, am1, am2, am3⟩, az⟩ := box4 hA.out
  obtain ⟨⟨b0, b1, b2, b3⟩, ⟨bm0, bm1, bm2, bm3⟩, bz⟩ := box4 hBB.out
  obtain ⟨⟨c0, c1, c2, c3⟩, ⟨m0, m1, m2, m3⟩, z0⟩ := box4 hR.out
  go_wp2_with fail
  refine wp_region_tail 5 Ext (cminusG (.agg #[.int .u8 (k : Int), .int .i64 n, .int .u64 (b : Int), .string t]) (.agg #[.int .u8 (l : Int), .int .i64 m, .int .u64 (c : Int), .string u]) X Y Z1) (by kernel_rfl) Ext.trans Ext.refl (Ext.drew _) (cminusG_st _ _ _ _ _) (by kernel_rfl) (by kernel_rfl) ?_ ?_
  · intro tmps df wr hle hfr j o hj ho hty
    have h2 : tmps[2]?.getD undef = .pointer (some ⟨w.heap.size, 0, none⟩) := hfr 2 (by kernel_rfl)
    have h3 : tmps[3]?.getD undef = .pointer (some ⟨w.heap.size + 1, 0, none⟩) := hfr 3 (by kernel_rfl)
    obtain ⟨⟨a0, a1, a2, a3⟩, _, _⟩ := box4 (hle.block hA.out)
    obtain ⟨⟨b0, b1, b2, b3⟩, _, _⟩ := box4 (hle.block hBB.out)
    clear hfr
    match j, ho, hj with
    | 0, ho, _ =>
      obtain rfl := (Option.some.inj ho)
      clear hty ho
      refine step_pure (.agg #[.int .u8 (k : Int), .int .i64 n, .int .u64 (b : Int), .string t]) (wanted_free rfl) ?_ (Ext.refl _) rfl
      simp [execOp, Act.eval, h2, a0, a1, a2, a3, go_sem]
    | 1, ho, _ =>
      have h21 : tmps[21]?.getD undef = .agg #[.int .u8 (k : Int), .int .i64 n, .int .u64 (b : Int), .string t] := hty 0 21 (by kernel_rfl) (by obtain rfl := (Option.some.inj ho); rfl)
      obtain rfl := (Option.some.inj ho)
      clear hty ho
      refine step_call 40 #[.agg #[.int .u8 (k : Int), .int .i64 n, .int .u64 (b : Int), .string t]] (wanted_free rfl) ?_ ?_
      · simp [execOp, Act.eval, h21, go_sem]
      · exact (HB1.out _).mono fun e w' h => ⟨_, h.1, h.2, rfl⟩
    | 2, ho, _ =>
      obtain rfl := (Option.some.inj ho)
      clear hty ho
      refine step_pure (.agg #[.int .u8 (l : Int), .int .i64 m, .int .u64 (c : Int), .string u]) (wanted_free rfl) ?_ (Ext.refl _) rfl
      simp [execOp, Act.eval, h3, b0, b1, b2, b3, go_sem]
    | 3, ho, _ =>
      have h23 : tmps[23]?.getD undef = .agg #[.int .u8 (l : Int), .int .i64 m, .int .u64 (c : Int), .string u] := hty 2 23 (by kernel_rfl) (by obtain rfl := (Option.some.inj ho); rfl)
      obtain rfl := (Option.some.inj ho)
      clear hty ho
      refine step_call 40 #[.agg #[.int .u8 (l : Int), .int .i64 m, .int .u64 (c : Int), .string u]] (wanted_free rfl) ?_ ?_
      · simp [execOp, Act.eval, h23, go_sem]
      · exact (HB2.out _).mono fun e w' h => ⟨_, h.1, h.2, rfl⟩
    | 4, ho, _ =>
      have h24 : tmps[24]?.getD undef = .int .u64 (Y : Int) := hty 3 24 (by kernel_rfl) (by obtain rfl := (Option.some.inj ho); rfl)
      obtain rfl := (Option.some.inj ho)
      clear hty ho
      refine step_call 45 #[.int .u64 (Y : Int)] (wanted_free rfl) ?_ ?_
      · simp [execOp, Act.eval, h24, go_sem]
      · exact (kg _).mono fun e w' h => ⟨_, h.1, h.2, rfl⟩
    | (j + 5), _, hj => omega
  · intro tmps w5 hle hs hfr hty
    have h22 : tmps[22]?.getD undef = .int .u64 (X : Int) := hty 1 22 (by kernel_rfl)
    have hS2 : tmps[25]?.getD undef = .int .u64 (Z1 : Int) := hty 4 25 (by kernel_rfl)
    have hfe := nframe_eq [21, 22, 23, 24, 25] hs hfr (by kernel_rfl)
    rw [hfe]
    clear hfe hfr hs hty
    simp only [List.foldl_cons, List.foldl_nil]
    rw [h22, hS2]
    generalize tmps[21]?.getD undef = x21
    generalize tmps[23]?.getD undef = x23
    generalize tmps[24]?.getD undef = x24
    clear h22 hS2
    replace hR := hid (hle.block hR.out)
    replace HX := hid (HX.out.trans hle)
    clear hle a0 a1 a2 a3 am0 am1 am2 am3 az b0 b1 b2 b3 bm0 bm1 bm2 bm3 bz c0 c1 c2 c3 m0 m1 m2 m3 z0
    simp only [List.drop_succ_cons, List.drop_zero, List.setIfInBounds_toArray, List.set_cons_succ, List.set_cons_zero]
    go_wp2_with fail
    refine (ka _).mono ?_
    rintro e w6 ⟨rfl, hx⟩
    replace hR := hid (hx.block hR.out)
    replace HX := hid (HX.out.trans hx)
    clear hx
    go_wp2_with fail
    refine (ko _).mono ?_
    rintro e w7 ⟨rfl, hx⟩
    replace hR := hid (hx.block hR.out)
    replace HX := hid (HX.out.trans hx)
    clear hx
    obtain ⟨⟨c0, c1, c2, c3⟩, ⟨m0, m1, m2, m3⟩, z0⟩ := box4 hR.out
    go_wp2_with fail
    refine bodyPost_ret (ret_cell_tmp rfl _ _ (w.heap.size + 1 + 1) 28 _ (0, 0) _ rfl (set4 hR.out) Try.underlying28 rfl (by kernel_rfl)) rfl (SaysVB.mk rfl rfl ?_)
    repeat (first | (with_reducible exact HX.out) | (with_reducible apply Ext.then_drew) | (with_reducible apply Ext.then_alloc) | (with_reducible refine Ext.setCell ?_ (by simp; omega) _))

theorem cminus_any (k : Nat) (n : Int) (b : Nat) (t : ByteArray) (l : Nat) (m : Int) (c : Nat) (u : ByteArray) (w : World) (hk : k ≤ 255) (hl : l ≤ 255) (hn0 : -9223372036854775808 ≤ n) (hn1 : n ≤ 9223372036854775807) (hm0 : -9223372036854775808 ≤ m) (hm1 : m ≤ 9223372036854775807) (hb : b ≤ 18446744073709551615) (hc : c ≤ 18446744073709551615) (ht : t.size ≤ 9223372036854775807) (hu : u.size ≤ 9223372036854775807) :
    Calls Try.prog 15 #[vv k n b t, vv l m c u] w (SaysVB w (minusV k n b t l m c u)) := by
  rcases ksum_cases k n b t l m c u hc with ⟨h, e1, e2⟩ | ⟨h, g0, g1, g2, g3, e1, e2⟩ | ⟨h, e1, e2⟩
  · rw [e2]
    exact cminus_none k n b t l m c u w hk hl hn0 hn1 hm0 hm1 hb hc ht hu h
  · rw [e2]
    exact cminus_whole k n b t l m c u w hk hl hn0 hn1 hm0 hm1 hb hc ht hu h g0 g1 g2 g3
  · rw [e2]
    exact cminus_real k n b t l m c u w hk hl hn0 hn1 hm0 hm1 hb hc ht hu h
end Go.Proofs.Ytaahaehgdamkdaa
