/- The document's Plus of values, by its contract. Conditions: numbers within their kinds. -/
import Derived.Test.YtaahaehgdamkdaaCR5
import Derived.Test.YtaahaehgdamkdaaBase
import Derived.Test.YtaahaehgdamkdaaVR3
import Derived.Test.YtaahaehgdamkdaaVR5
import Derived.Test.YtaahaehgdamkdaaCBackM
import Derived.BigQuiet
namespace Go.Proofs.Ytaahaehgdamkdaa
open Go Go.RowKit

theorem SaysVB.mk {w w' : World} {t : VZ × Bool} {k : Nat} {n : Int} {b : Nat} {s : ByteArray} {e : Bool} {v : Value} (h : t = (⟨k, n, b, s⟩, e)) (hv : v = vv k n b s) (hx : Ext w w') : SaysVB w t (.returned (.tuple #[v, .bool e])) w' := by
  subst h; subst hv
  exact ⟨rfl, hx⟩

theorem blocks4 (w : World) (o1 o2 o3 o4 : Obj) : ((((w.alloc o1).alloc o2).alloc o3).alloc o4).heap[w.heap.size]? = some o1 ∧ ((((w.alloc o1).alloc o2).alloc o3).alloc o4).heap[w.heap.size + 1]? = some o2 ∧ ((((w.alloc o1).alloc o2).alloc o3).alloc o4).heap[w.heap.size + 1 + 1]? = some o3 ∧ ((((w.alloc o1).alloc o2).alloc o3).alloc o4).heap[w.heap.size + 1 + 1 + 1]? = some o4 ∧ Ext w ((((w.alloc o1).alloc o2).alloc o3).alloc o4) := by
  have e1 : (w.alloc o1).heap.size = w.heap.size + 1 := by simp
  have e2 : ((w.alloc o1).alloc o2).heap.size = w.heap.size + 1 + 1 := by simp
  have e3 : (((w.alloc o1).alloc o2).alloc o3).heap.size = w.heap.size + 1 + 1 + 1 := by simp
  have h1 := (((Ext.alloc (w.alloc o1) o2).then_alloc o3).then_alloc o4).block (heap_alloc_new w o1)
  have h2 := ((Ext.alloc ((w.alloc o1).alloc o2) o3).then_alloc o4).block (heap_alloc_new (w.alloc o1) o2)
  have h3 := (Ext.alloc (((w.alloc o1).alloc o2).alloc o3) o4).block (heap_alloc_new ((w.alloc o1).alloc o2) o3)
  have h4 := heap_alloc_new (((w.alloc o1).alloc o2).alloc o3) o4
  rw [e1] at h2
  rw [e2] at h3
  rw [e3] at h4
  exact ⟨h1, h2, h3, h4, (((Ext.alloc w o1).then_alloc o2).then_alloc o3).then_alloc o4⟩

/-- what the slots of the region hold where doubles are added -/
def vplusG (a b : Value) (X Y : Nat) : Nat → Value → World → Prop
  | 0, v, _ => v = a
  | 1, v, _ => v = .int .u64 (X : Int)
  | 2, v, _ => v = b
  | 3, v, _ => v = .int .u64 (Y : Int)
  | _, _, _ => True
theorem vplusG_st (a b : Value) (X Y : Nat) : ∀ i9 z9 x9 y9, vplusG a b X Y i9 z9 x9 → Ext x9 y9 → vplusG a b X Y i9 z9 y9 := by
  intro i9 z9 x9 y9 h _
  unfold vplusG at *
  split at h <;> first | exact h | trivial
theorem bits_lt (k : Nat) (n : Int) (b : Nat) (hb : b ≤ 18446744073709551615) : bitsV k n b ≤ 18446744073709551615 := by
  unfold bitsV
  split
  · have := (rung_rd (decide (n < 0)) (n.natAbs * 2 ^ q74)).2.2
    show rdZ _ _ ≤ _
    omega
  · exact hb

set_option maxRecDepth 100000 in
set_option maxHeartbeats 2000000 in
theorem rplus_bad1 (k : Nat) (n : Int) (b : Nat) (t : ByteArray) (l : Nat) (m : Int) (c : Nat) (u : ByteArray) (w : World) (hb : b ≤ 18446744073709551615) (hc : c ≤ 18446744073709551615) (h : checkV k n b t ≠ 0) :
    Calls Try.prog 14 #[vv k n b t, vv l m c u] w (SaysVB w (VZ.none, false)) := by
  have k1 := fun W => rcheck_any k n b t W hb
  have k2 := fun W => rcheck_any l m c u W hc
  generalize checkV k n b t = E at *
  have hE : (E != 0) = true := bne_iff_ne.2 h
  clear h
  unfold vv at *
  go_enter Try.func14, Try.ntmps14
  go_wp2_with fail
  refine (k1 _).mono ?_
  rintro e w1 ⟨rfl, hx⟩
  obtain ⟨q1, q2, q3, q4, q5⟩ := blocks4 w _ _ _ _
  have hA := hid (hx.block q1)
  have hBB := hid (hx.block q2)
  have hR := hid (hx.block q3)
  have hN := hid (hx.block q4)
  have HX := hid (q5.trans hx)
  clear hx q1 q2 q3 q4 q5
  obtain ⟨⟨a0, a1, a2, a3⟩, ⟨am0, am1, am2, am3⟩, az⟩ := box4 hA.out
  obtain ⟨⟨b0, b1, b2, b3⟩, ⟨bm0, bm1, bm2, bm3⟩, bz⟩ := box4 hBB.out
  obtain ⟨⟨c0, c1, c2, c3⟩, ⟨m0, m1, m2, m3⟩, z0⟩ := box4 hR.out
  obtain ⟨⟨d0, d1, d2, d3⟩, ⟨g0, g1, g2, g3⟩, z1⟩ := box4 hN.out
  go_wp2_with fail
  refine bodyPost_ret (ret_cell_tmp rfl _ _ (w.heap.size + 1 + 1) 24 _ (0, 0) _ rfl (set4 hR.out) Try.underlying24 rfl (by kernel_rfl)) rfl (SaysVB.mk (by first | rfl | (rw [Int.add_zero]; rfl)) rfl ?_)
  repeat (first | (with_reducible exact HX.out) | (with_reducible apply Ext.then_drew) | (with_reducible apply Ext.then_alloc) | (with_reducible refine Ext.setCell ?_ (by simp; omega) _))

set_option maxRecDepth 100000 in
set_option maxHeartbeats 2000000 in
theorem rplus_bad2 (k : Nat) (n : Int) (b : Nat) (t : ByteArray) (l : Nat) (m : Int) (c : Nat) (u : ByteArray) (w : World) (hb : b ≤ 18446744073709551615) (hc : c ≤ 18446744073709551615) (h1 : checkV k n b t = 0) (h : checkV l m c u ≠ 0) :
    Calls Try.prog 14 #[vv k n b t, vv l m c u] w (SaysVB w (VZ.none, false)) := by
  have k1 := fun W => rcheck_any k n b t W hb
  have k2 := fun W => rcheck_any l m c u W hc
  rw [h1] at k1
  generalize checkV l m c u = E at *
  have hE : (E != 0) = true := bne_iff_ne.2 h
  clear h h1
  unfold vv at *
  go_enter Try.func14, Try.ntmps14
  go_wp2_with fail
  refine (k1 _).mono ?_
  rintro e w1 ⟨rfl, hx⟩
  obtain ⟨q1, q2, q3, q4, q5⟩ := blocks4 w _ _ _ _
  have hA := hid (hx.block q1)
  have hBB := hid (hx.block q2)
  have hR := hid (hx.block q3)
  have hN := hid (hx.block q4)
  have HX := hid (q5.trans hx)
  clear hx q1 q2 q3 q4 q5
  obtain ⟨⟨a0, a1, a2, a3⟩, ⟨am0, am1, am2, am3⟩, az⟩ := box4 hA.out
  obtain ⟨⟨b0, b1, b2, b3⟩, ⟨bm0, bm1, bm2, bm3⟩, bz⟩ := box4 hBB.out
  obtain ⟨⟨c0, c1, c2, c3⟩, ⟨m0, m1, m2, m3⟩, z0⟩ := box4 hR.out
  obtain ⟨⟨d0, d1, d2, d3⟩, ⟨g0, g1, g2, g3⟩, z1⟩ := box4 hN.out
  go_wp2_with fail
  clear a0 a1 a2 a3 am0 am1 am2 am3 az b0 b1 b2 b3 bm0 bm1 bm2 bm3 bz c0 c1 c2 c3 m0 m1 m2 m3 z0 d0 d1 d2 d3 g0 g1 g2 g3 z1
  refine (k2 _).mono ?_
  rintro e w2 ⟨rfl, hx⟩
  replace hA := hid (hx.block hA.out)
  replace hBB := hid (hx.block hBB.out)
  replace hR := hid (hx.block hR.out)
  replace hN := hid (hx.block hN.out)
  replace HX := hid (HX.out.trans hx)
  clear hx
  obtain ⟨⟨a0, a1, a2, a3⟩, ⟨am0, am1, am2, am3⟩, az⟩ := box4 hA.out
  obtain ⟨⟨b0, b1, b2, b3⟩, ⟨bm0, bm1, bm2, bm3⟩, bz⟩ := box4 hBB.out
  obtain ⟨⟨c0, c1, c2, c3⟩, ⟨m0, m1, m2, m3⟩, z0⟩ := box4 hR.out
  obtain ⟨⟨d0, d1, d2, d3⟩, ⟨g0, g1, g2, g3⟩, z1⟩ := box4 hN.out
  go_wp2_with fail
  refine bodyPost_ret (ret_cell_tmp rfl _ _ (w.heap.size + 1 + 1) 24 _ (0, 0) _ rfl (set4 hR.out) Try.underlying24 rfl (by kernel_rfl)) rfl (SaysVB.mk (by first | rfl | (rw [Int.add_zero]; rfl)) rfl ?_)
  repeat (first | (with_reducible exact HX.out) | (with_reducible apply Ext.then_drew) | (with_reducible apply Ext.then_alloc) | (with_reducible refine Ext.setCell ?_ (by simp; omega) _))

set_option maxRecDepth 100000 in
set_option maxHeartbeats 2000000 in
theorem rplus_bad3 (k : Nat) (n : Int) (b : Nat) (t : ByteArray) (l : Nat) (m : Int) (c : Nat) (u : ByteArray) (w : World) (hb : b ≤ 18446744073709551615) (hc : c ≤ 18446744073709551615) (h1 : checkV k n b t = 0) (h2 : checkV l m c u = 0) (h : numK k = false) :
    Calls Try.prog 14 #[vv k n b t, vv l m c u] w (SaysVB w (VZ.none, false)) := by
  have k1 := fun W => rcheck_any k n b t W hb
  have k2 := fun W => rcheck_any l m c u W hc
  rw [h1] at k1
  rw [h2] at k2
  have kn := fun W => rnumber_any k W
  have ln := fun W => rnumber_any l W
  rw [h] at kn
  clear h h1 h2
  unfold vv at *
  go_enter Try.func14, Try.ntmps14
  go_wp2_with fail
  refine (k1 _).mono ?_
  rintro e w1 ⟨rfl, hx⟩
  obtain ⟨q1, q2, q3, q4, q5⟩ := blocks4 w _ _ _ _
  have hA := hid (hx.block q1)
  have hBB := hid (hx.block q2)
  have hR := hid (hx.block q3)
  have hN := hid (hx.block q4)
  have HX := hid (q5.trans hx)
  clear hx q1 q2 q3 q4 q5
  obtain ⟨⟨a0, a1, a2, a3⟩, ⟨am0, am1, am2, am3⟩, az⟩ := box4 hA.out
  obtain ⟨⟨b0, b1, b2, b3⟩, ⟨bm0, bm1, bm2, bm3⟩, bz⟩ := box4 hBB.out
  obtain ⟨⟨c0, c1, c2, c3⟩, ⟨m0, m1, m2, m3⟩, z0⟩ := box4 hR.out
  obtain ⟨⟨d0, d1, d2, d3⟩, ⟨g0, g1, g2, g3⟩, z1⟩ := box4 hN.out
  go_wp2_with fail
  clear a0 a1 a2 a3 am0 am1 am2 am3 az b0 b1 b2 b3 bm0 bm1 bm2 bm3 bz c0 c1 c2 c3 m0 m1 m2 m3 z0 d0 d1 d2 d3 g0 g1 g2 g3 z1
  refine (k2 _).mono ?_
  rintro e w2 ⟨rfl, hx⟩
  replace hA := hid (hx.block hA.out)
  replace hBB := hid (hx.block hBB.out)
  replace hR := hid (hx.block hR.out)
  replace hN := hid (hx.block hN.out)
  replace HX := hid (HX.out.trans hx)
  clear hx
  obtain ⟨⟨a0, a1, a2, a3⟩, ⟨am0, am1, am2, am3⟩, az⟩ := box4 hA.out
  obtain ⟨⟨b0, b1, b2, b3⟩, ⟨bm0, bm1, bm2, bm3⟩, bz⟩ := box4 hBB.out
  obtain ⟨⟨c0, c1, c2, c3⟩, ⟨m0, m1, m2, m3⟩, z0⟩ := box4 hR.out
  obtain ⟨⟨d0, d1, d2, d3⟩, ⟨g0, g1, g2, g3⟩, z1⟩ := box4 hN.out
  go_wp2_with (first | ((with_reducible show Calls _ 35 #[.int .u8 (k : Int)] _ _); refine (kn _).mono ?_; rintro e w9 ⟨rfl, rfl⟩) | ((with_reducible show Calls _ 35 #[.int .u8 (l : Int)] _ _); refine (ln _).mono ?_; rintro e w9 ⟨rfl, rfl⟩))
  refine bodyPost_ret (ret_cell_tmp rfl _ _ (w.heap.size + 1 + 1) 24 _ (0, 0) _ rfl (set4 hR.out) Try.underlying24 rfl (by kernel_rfl)) rfl (SaysVB.mk (by first | rfl | (rw [Int.add_zero]; rfl)) rfl ?_)
  repeat (first | (with_reducible exact HX.out) | (with_reducible apply Ext.then_drew) | (with_reducible apply Ext.then_alloc) | (with_reducible refine Ext.setCell ?_ (by simp; omega) _))

set_option maxRecDepth 100000 in
set_option maxHeartbeats 2000000 in
theorem rplus_bad4 (k : Nat) (n : Int) (b : Nat) (t : ByteArray) (l : Nat) (m : Int) (c : Nat) (u : ByteArray) (w : World) (hb : b ≤ 18446744073709551615) (hc : c ≤ 18446744073709551615) (h1 : checkV k n b t = 0) (h2 : checkV l m c u = 0) (h3 : numK k = true) (h : numK l = false) :
    Calls Try.prog 14 #[vv k n b t, vv l m c u] w (SaysVB w (VZ.none, false)) := by
  have k1 := fun W => rcheck_any k n b t W hb
  have k2 := fun W => rcheck_any l m c u W hc
  rw [h1] at k1
  rw [h2] at k2
  have kn := fun W => rnumber_any k W
  have ln := fun W => rnumber_any l W
  rw [h3] at kn
  rw [h] at ln
  clear h h1 h2 h3
  unfold vv at *
  go_enter Try.func14, Try.ntmps14
  go_wp2_with fail
  refine (k1 _).mono ?_
  rintro e w1 ⟨rfl, hx⟩
  obtain ⟨q1, q2, q3, q4, q5⟩ := blocks4 w _ _ _ _
  have hA := hid (hx.block q1)
  have hBB := hid (hx.block q2)
  have hR := hid (hx.block q3)
  have hN := hid (hx.block q4)
  have HX := hid (q5.trans hx)
  clear hx q1 q2 q3 q4 q5
  obtain ⟨⟨a0, a1, a2, a3⟩, ⟨am0, am1, am2, am3⟩, az⟩ := box4 hA.out
  obtain ⟨⟨b0, b1, b2, b3⟩, ⟨bm0, bm1, bm2, bm3⟩, bz⟩ := box4 hBB.out
  obtain ⟨⟨c0, c1, c2, c3⟩, ⟨m0, m1, m2, m3⟩, z0⟩ := box4 hR.out
  obtain ⟨⟨d0, d1, d2, d3⟩, ⟨g0, g1, g2, g3⟩, z1⟩ := box4 hN.out
  go_wp2_with fail
  clear a0 a1 a2 a3 am0 am1 am2 am3 az b0 b1 b2 b3 bm0 bm1 bm2 bm3 bz c0 c1 c2 c3 m0 m1 m2 m3 z0 d0 d1 d2 d3 g0 g1 g2 g3 z1
  refine (k2 _).mono ?_
  rintro e w2 ⟨rfl, hx⟩
  replace hA := hid (hx.block hA.out)
  replace hBB := hid (hx.block hBB.out)
  replace hR := hid (hx.block hR.out)
  replace hN := hid (hx.block hN.out)
  replace HX := hid (HX.out.trans hx)
  clear hx
  obtain ⟨⟨a0, a1, a2, a3⟩, ⟨am0, am1, am2, am3⟩, az⟩ := box4 hA.out
  obtain ⟨⟨b0, b1, b2, b3⟩, ⟨bm0, bm1, bm2, bm3⟩, bz⟩ := box4 hBB.out
  obtain ⟨⟨c0, c1, c2, c3⟩, ⟨m0, m1, m2, m3⟩, z0⟩ := box4 hR.out
  obtain ⟨⟨d0, d1, d2, d3⟩, ⟨g0, g1, g2, g3⟩, z1⟩ := box4 hN.out
  go_wp2_with (first | ((with_reducible show Calls _ 35 #[.int .u8 (k : Int)] _ _); refine (kn _).mono ?_; rintro e w9 ⟨rfl, rfl⟩) | ((with_reducible show Calls _ 35 #[.int .u8 (l : Int)] _ _); refine (ln _).mono ?_; rintro e w9 ⟨rfl, rfl⟩))
  refine bodyPost_ret (ret_cell_tmp rfl _ _ (w.heap.size + 1 + 1) 24 _ (0, 0) _ rfl (set4 hR.out) Try.underlying24 rfl (by kernel_rfl)) rfl (SaysVB.mk (by first | rfl | (rw [Int.add_zero]; rfl)) rfl ?_)
  repeat (first | (with_reducible exact HX.out) | (with_reducible apply Ext.then_drew) | (with_reducible apply Ext.then_alloc) | (with_reducible refine Ext.setCell ?_ (by simp; omega) _))

set_option maxRecDepth 100000 in
set_option maxHeartbeats 2000000 in
theorem rplus_real33 (n : Int) (b : Nat) (t : ByteArray) (m : Int) (c : Nat) (u : ByteArray) (w : World) (hn0 : -9223372036854775808 ≤ n) (hn1 : n ≤ 9223372036854775807) (hm0 : -9223372036854775808 ≤ m) (hm1 : m ≤ 9223372036854775807) (hb : b ≤ 18446744073709551615) (hc : c ≤ 18446744073709551615) (h1 : checkV 3 n b t = 0) (h2 : checkV 3 m c u = 0) :
    Calls Try.prog 14 #[.agg #[.int .u8 3, .int .i64 n, .int .u64 (b : Int), .string t], .agg #[.int .u8 3, .int .i64 m, .int .u64 (c : Int), .string u]] w (SaysVB w (ofRealV (addZ (bitsV 3 n b) (bitsV 3 m c)), true)) := by
  have k1 := fun W => rcheck_any 3 n b t W hb
  have k2 := fun W => rcheck_any 3 m c u W hc
  rw [h1] at k1
  rw [h2] at k2
  have kn := fun W => rnumber_any 3 W
  have ln := fun W => rnumber_any 3 W
  rw [show numK 3 = true from rfl] at kn
  rw [show numK 3 = true from rfl] at ln
  replace k1 : ∀ W, Calls Try.prog 34 #[.agg #[.int .u8 3, .int .i64 n, .int .u64 (b : Int), .string t]] W (Says W (.int .i64 0)) := k1
  replace k2 : ∀ W, Calls Try.prog 34 #[.agg #[.int .u8 3, .int .i64 m, .int .u64 (c : Int), .string u]] W (Says W (.int .i64 0)) := k2
  have kb1 := fun W => rbits_any 3 n b t W hn0 hn1
  have kb2 := fun W => rbits_any 3 m c u W hm0 hm1
  have hl1 : bitsV 3 n b ≤ 18446744073709551615 := bits_lt _ _ _ hb
  have hl2 : bitsV 3 m c ≤ 18446744073709551615 := bits_lt _ _ _ hc
  have hs : addZ (bitsV 3 n b) (bitsV 3 m c) ≤ 18446744073709551615 := by have := (add_clean (bitsV 3 n b) (bitsV 3 m c) (by omega) (by omega)).2; omega
  generalize bitsV 3 n b = X at *
  generalize bitsV 3 m c = Y at *
  have ka := fun W => radd_any X Y W hl1 hl2
  have ko := fun W => vrofreal_any (addZ X Y) W hs
  have hv : (ofRealV (addZ X Y)) = ⟨3, 0, cleanZ (addZ X Y), noText⟩ := rfl
  rw [hv] at ko ⊢
  generalize cleanZ (addZ X Y) = Z at *
  generalize addZ X Y = S at *
  replace ko : ∀ W, Calls Try.prog 41 #[.int .u64 (S : Int)] W (Says W (.agg #[.int .u8 3, .int .i64 0, .int .u64 (Z : Int), .string ⟨#[]⟩])) := ko
  replace kb1 : ∀ W, Calls Try.prog 43 #[.agg #[.int .u8 3, .int .i64 n, .int .u64 (b : Int), .string t]] W (Says W (.int .u64 (X : Int))) := kb1
  replace kb2 : ∀ W, Calls Try.prog 43 #[.agg #[.int .u8 3, .int .i64 m, .int .u64 (c : Int), .string u]] W (Says W (.int .u64 (Y : Int))) := kb2
  have HB1 := hid kb1
  have HB2 := hid kb2
  clear kb1 kb2 hv hs hl1 hl2
  clear h1 h2
  go_enter Try.func14, Try.ntmps14
  go_wp2_with fail
  refine (k1 _).mono ?_
  rintro e w1 ⟨rfl, hx⟩
  obtain ⟨q1, q2, q3, q4, q5⟩ := blocks4 w _ _ _ _
  have hA := hid (hx.block q1)
  have hBB := hid (hx.block q2)
  have hR := hid (hx.block q3)
  have hN := hid (hx.block q4)
  have HX := hid (q5.trans hx)
  clear hx q1 q2 q3 q4 q5
  obtain ⟨⟨a0, a1, a2, a3⟩, ⟨am0, am1, am2, am3⟩, az⟩ := box4 hA.out
  obtain ⟨⟨b0, b1, b2, b3⟩, ⟨bm0, bm1, bm2, bm3⟩, bz⟩ := box4 hBB.out
  obtain ⟨⟨c0, c1, c2, c3⟩, ⟨m0, m1, m2, m3⟩, z0⟩ := box4 hR.out
  obtain ⟨⟨d0, d1, d2, d3⟩, ⟨g0, g1, g2, g3⟩, z1⟩ := box4 hN.out
  go_wp2_with fail
  clear a0 a1 a2 a3 am0 am1 am2 am3 az b0 b1 b2 b3 bm0 bm1 bm2 bm3 bz c0 c1 c2 c3 m0 m1 m2 m3 z0 d0 d1 d2 d3 g0 g1 g2 g3 z1
  refine (k2 _).mono ?_
  rintro e w2 ⟨rfl, hx⟩
  replace hA := hid (hx.block hA.out)
  replace hBB := hid (hx.block hBB.out)
  replace hR := hid (hx.block hR.out)
  replace hN := hid (hx.block hN.out)
  replace HX := hid (HX.out.trans hx)
  clear hx
  obtain ⟨⟨a0, a1, a2, a3⟩, ⟨am0, am1, am2, am3⟩, az⟩ := box4 hA.out
  obtain ⟨⟨b0, b1, b2, b3⟩, ⟨bm0, bm1, bm2, bm3⟩, bz⟩ := box4 hBB.out
  obtain ⟨⟨c0, c1, c2, c3⟩, ⟨m0, m1, m2, m3⟩, z0⟩ := box4 hR.out
  obtain ⟨⟨d0, d1, d2, d3⟩, ⟨g0, g1, g2, g3⟩, z1⟩ := box4 hN.out
  go_wp2_with (first | ((with_reducible show Calls _ 35 #[.int .u8 3] _ _); refine (kn _).mono ?_; rintro e w9 ⟨rfl, rfl⟩) | ((with_reducible show Calls _ 35 #[.int .u8 3] _ _); refine (ln _).mono ?_; rintro e w9 ⟨rfl, rfl⟩))
  refine wp_region_tail 4 Ext (vplusG (.agg #[.int .u8 3, .int .i64 n, .int .u64 (b : Int), .string t]) (.agg #[.int .u8 3, .int .i64 m, .int .u64 (c : Int), .string u]) X Y) (by kernel_rfl) Ext.trans Ext.refl (Ext.drew _) (vplusG_st _ _ _ _) (by kernel_rfl) (by kernel_rfl) ?_ ?_
  · intro tmps df wr hle hfr j o hj ho hty
    have h2 : tmps[2]?.getD undef = .pointer (some ⟨w.heap.size, 0, none⟩) := hfr 2 (by kernel_rfl)
    have h3 : tmps[3]?.getD undef = .pointer (some ⟨w.heap.size + 1, 0, none⟩) := hfr 3 (by kernel_rfl)
    obtain ⟨⟨a0, a1, a2, a3⟩, _, _⟩ := box4 (hle.block hA.out)
    obtain ⟨⟨b0, b1, b2, b3⟩, _, _⟩ := box4 (hle.block hBB.out)
    clear hfr
    match j, ho, hj with
    | 0, ho, _ =>
      obtain rfl := (Option.some.inj ho)
      clear hty ho
      refine step_pure (.agg #[.int .u8 3, .int .i64 n, .int .u64 (b : Int), .string t]) (wanted_free rfl) ?_ (Ext.refl _) rfl
      simp [execOp, Act.eval, h2, a0, a1, a2, a3, go_sem]
    | 1, ho, _ =>
      have h37 : tmps[37]?.getD undef = .agg #[.int .u8 3, .int .i64 n, .int .u64 (b : Int), .string t] := hty 0 37 (by kernel_rfl) (by obtain rfl := (Option.some.inj ho); rfl)
      obtain rfl := (Option.some.inj ho)
      clear hty ho
      refine step_call 43 #[.agg #[.int .u8 3, .int .i64 n, .int .u64 (b : Int), .string t]] (wanted_free rfl) ?_ ?_
      · simp [execOp, Act.eval, h37, go_sem]
      · exact (HB1.out _).mono fun e w' h => ⟨_, h.1, h.2, rfl⟩
    | 2, ho, _ =>
      obtain rfl := (Option.some.inj ho)
      clear hty ho
      refine step_pure (.agg #[.int .u8 3, .int .i64 m, .int .u64 (c : Int), .string u]) (wanted_free rfl) ?_ (Ext.refl _) rfl
      simp [execOp, Act.eval, h3, b0, b1, b2, b3, go_sem]
    | 3, ho, _ =>
      have h39 : tmps[39]?.getD undef = .agg #[.int .u8 3, .int .i64 m, .int .u64 (c : Int), .string u] := hty 2 39 (by kernel_rfl) (by obtain rfl := (Option.some.inj ho); rfl)
      obtain rfl := (Option.some.inj ho)
      clear hty ho
      refine step_call 43 #[.agg #[.int .u8 3, .int .i64 m, .int .u64 (c : Int), .string u]] (wanted_free rfl) ?_ ?_
      · simp [execOp, Act.eval, h39, go_sem]
      · exact (HB2.out _).mono fun e w' h => ⟨_, h.1, h.2, rfl⟩
    | (j + 4), _, hj => omega
  · intro tmps w5 hle hs hfr hty
    have h38 : tmps[38]?.getD undef = .int .u64 (X : Int) := hty 1 38 (by kernel_rfl)
    have h40 : tmps[40]?.getD undef = .int .u64 (Y : Int) := hty 3 40 (by kernel_rfl)
    have hfe := nframe_eq [37, 38, 39, 40] hs hfr (by kernel_rfl)
    rw [hfe]
    clear hfe hfr hs hty
    simp only [List.foldl_cons, List.foldl_nil]
    rw [h38, h40]
    generalize tmps[37]?.getD undef = x37
    generalize tmps[39]?.getD undef = x39
    clear h38 h40
    replace hR := hid (hle.block hR.out)
    replace HX := hid (HX.out.trans hle)
    clear hle a0 a1 a2 a3 am0 am1 am2 am3 az b0 b1 b2 b3 bm0 bm1 bm2 bm3 bz c0 c1 c2 c3 m0 m1 m2 m3 z0 d0 d1 d2 d3 g0 g1 g2 g3 z1
    simp only [List.drop_succ_cons, List.drop_zero, List.setIfInBounds_toArray, List.set_cons_succ, List.set_cons_zero]
    go_wp2_with ((with_reducible show Calls _ 42 _ _ _); refine (ka _).mono ?_; rintro e w9 ⟨rfl, rfl⟩)
    refine (ko _).mono ?_
    rintro e w6 ⟨rfl, hx⟩
    replace hR := hid (hx.block hR.out)
    replace HX := hid (HX.out.trans hx)
    clear hx
    obtain ⟨⟨c0, c1, c2, c3⟩, ⟨m0, m1, m2, m3⟩, z0⟩ := box4 hR.out
    go_wp2_with fail
    refine bodyPost_ret (ret_cell_tmp rfl _ _ (w.heap.size + 1 + 1) 24 _ (0, 0) _ rfl (set4 hR.out) Try.underlying24 rfl (by kernel_rfl)) rfl (SaysVB.mk (by first | rfl | (rw [Int.add_zero]; rfl)) rfl ?_)
    repeat (first | (with_reducible exact HX.out) | (with_reducible apply Ext.then_drew) | (with_reducible apply Ext.then_alloc) | (with_reducible refine Ext.setCell ?_ (by simp; omega) _))

set_option maxRecDepth 100000 in
set_option maxHeartbeats 2000000 in
theorem rplus_real31 (n : Int) (b : Nat) (t : ByteArray) (m : Int) (c : Nat) (u : ByteArray) (w : World) (hn0 : -9223372036854775808 ≤ n) (hn1 : n ≤ 9223372036854775807) (hm0 : -9223372036854775808 ≤ m) (hm1 : m ≤ 9223372036854775807) (hb : b ≤ 18446744073709551615) (hc : c ≤ 18446744073709551615) (h1 : checkV 3 n b t = 0) (h2 : checkV 1 m c u = 0) :
    Calls Try.prog 14 #[.agg #[.int .u8 3, .int .i64 n, .int .u64 (b : Int), .string t], .agg #[.int .u8 1, .int .i64 m, .int .u64 (c : Int), .string u]] w (SaysVB w (ofRealV (addZ (bitsV 3 n b) (bitsV 1 m c)), true)) := by
  have k1 := fun W => rcheck_any 3 n b t W hb
  have k2 := fun W => rcheck_any 1 m c u W hc
  rw [h1] at k1
  rw [h2] at k2
  have kn := fun W => rnumber_any 3 W
  have ln := fun W => rnumber_any 1 W
  rw [show numK 3 = true from rfl] at kn
  rw [show numK 1 = true from rfl] at ln
  replace k1 : ∀ W, Calls Try.prog 34 #[.agg #[.int .u8 3, .int .i64 n, .int .u64 (b : Int), .string t]] W (Says W (.int .i64 0)) := k1
  replace k2 : ∀ W, Calls Try.prog 34 #[.agg #[.int .u8 1, .int .i64 m, .int .u64 (c : Int), .string u]] W (Says W (.int .i64 0)) := k2
  have kb1 := fun W => rbits_any 3 n b t W hn0 hn1
  have kb2 := fun W => rbits_any 1 m c u W hm0 hm1
  have hl1 : bitsV 3 n b ≤ 18446744073709551615 := bits_lt _ _ _ hb
  have hl2 : bitsV 1 m c ≤ 18446744073709551615 := bits_lt _ _ _ hc
  have hs : addZ (bitsV 3 n b) (bitsV 1 m c) ≤ 18446744073709551615 := by have := (add_clean (bitsV 3 n b) (bitsV 1 m c) (by omega) (by omega)).2; omega
  generalize bitsV 3 n b = X at *
  generalize bitsV 1 m c = Y at *
  have ka := fun W => radd_any X Y W hl1 hl2
  have ko := fun W => vrofreal_any (addZ X Y) W hs
  have hv : (ofRealV (addZ X Y)) = ⟨3, 0, cleanZ (addZ X Y), noText⟩ := rfl
  rw [hv] at ko ⊢
  generalize cleanZ (addZ X Y) = Z at *
  generalize addZ X Y = S at *
  replace ko : ∀ W, Calls Try.prog 41 #[.int .u64 (S : Int)] W (Says W (.agg #[.int .u8 3, .int .i64 0, .int .u64 (Z : Int), .string ⟨#[]⟩])) := ko
  replace kb1 : ∀ W, Calls Try.prog 43 #[.agg #[.int .u8 3, .int .i64 n, .int .u64 (b : Int), .string t]] W (Says W (.int .u64 (X : Int))) := kb1
  replace kb2 : ∀ W, Calls Try.prog 43 #[.agg #[.int .u8 1, .int .i64 m, .int .u64 (c : Int), .string u]] W (Says W (.int .u64 (Y : Int))) := kb2
  have HB1 := hid kb1
  have HB2 := hid kb2
  clear kb1 kb2 hv hs hl1 hl2
  clear h1 h2
  go_enter Try.func14, Try.ntmps14
  go_wp2_with fail
  refine (k1 _).mono ?_
  rintro e w1 ⟨rfl, hx⟩
  obtain ⟨q1, q2, q3, q4, q5⟩ := blocks4 w _ _ _ _
  have hA := hid (hx.block q1)
  have hBB := hid (hx.block q2)
  have hR := hid (hx.block q3)
  have hN := hid (hx.block q4)
  have HX := hid (q5.trans hx)
  clear hx q1 q2 q3 q4 q5
  obtain ⟨⟨a0, a1, a2, a3⟩, ⟨am0, am1, am2, am3⟩, az⟩ := box4 hA.out
  obtain ⟨⟨b0, b1, b2, b3⟩, ⟨bm0, bm1, bm2, bm3⟩, bz⟩ := box4 hBB.out
  obtain ⟨⟨c0, c1, c2, c3⟩, ⟨m0, m1, m2, m3⟩, z0⟩ := box4 hR.out
  obtain ⟨⟨d0, d1, d2, d3⟩, ⟨g0, g1, g2, g3⟩, z1⟩ := box4 hN.out
  go_wp2_with fail
  clear a0 a1 a2 a3 am0 am1 am2 am3 az b0 b1 b2 b3 bm0 bm1 bm2 bm3 bz c0 c1 c2 c3 m0 m1 m2 m3 z0 d0 d1 d2 d3 g0 g1 g2 g3 z1
  refine (k2 _).mono ?_
  rintro e w2 ⟨rfl, hx⟩
  replace hA := hid (hx.block hA.out)
  replace hBB := hid (hx.block hBB.out)
  replace hR := hid (hx.block hR.out)
  replace hN := hid (hx.block hN.out)
  replace HX := hid (HX.out.trans hx)
  clear hx
  obtain ⟨⟨a0, a1, a2, a3⟩, ⟨am0, am1, am2, am3⟩, az⟩ := box4 hA.out
  obtain ⟨⟨b0, b1, b2, b3⟩, ⟨bm0, bm1, bm2, bm3⟩, bz⟩ := box4 hBB.out
  obtain ⟨⟨c0, c1, c2, c3⟩, ⟨m0, m1, m2, m3⟩, z0⟩ := box4 hR.out
  obtain ⟨⟨d0, d1, d2, d3⟩, ⟨g0, g1, g2, g3⟩, z1⟩ := box4 hN.out
  go_wp2_with (first | ((with_reducible show Calls _ 35 #[.int .u8 3] _ _); refine (kn _).mono ?_; rintro e w9 ⟨rfl, rfl⟩) | ((with_reducible show Calls _ 35 #[.int .u8 1] _ _); refine (ln _).mono ?_; rintro e w9 ⟨rfl, rfl⟩))
  refine wp_region_tail 4 Ext (vplusG (.agg #[.int .u8 3, .int .i64 n, .int .u64 (b : Int), .string t]) (.agg #[.int .u8 1, .int .i64 m, .int .u64 (c : Int), .string u]) X Y) (by kernel_rfl) Ext.trans Ext.refl (Ext.drew _) (vplusG_st _ _ _ _) (by kernel_rfl) (by kernel_rfl) ?_ ?_
  · intro tmps df wr hle hfr j o hj ho hty
    have h2 : tmps[2]?.getD undef = .pointer (some ⟨w.heap.size, 0, none⟩) := hfr 2 (by kernel_rfl)
    have h3 : tmps[3]?.getD undef = .pointer (some ⟨w.heap.size + 1, 0, none⟩) := hfr 3 (by kernel_rfl)
    obtain ⟨⟨a0, a1, a2, a3⟩, _, _⟩ := box4 (hle.block hA.out)
    obtain ⟨⟨b0, b1, b2, b3⟩, _, _⟩ := box4 (hle.block hBB.out)
    clear hfr
    match j, ho, hj with
    | 0, ho, _ =>
      obtain rfl := (Option.some.inj ho)
      clear hty ho
      refine step_pure (.agg #[.int .u8 3, .int .i64 n, .int .u64 (b : Int), .string t]) (wanted_free rfl) ?_ (Ext.refl _) rfl
      simp [execOp, Act.eval, h2, a0, a1, a2, a3, go_sem]
    | 1, ho, _ =>
      have h37 : tmps[37]?.getD undef = .agg #[.int .u8 3, .int .i64 n, .int .u64 (b : Int), .string t] := hty 0 37 (by kernel_rfl) (by obtain rfl := (Option.some.inj ho); rfl)
      obtain rfl := (Option.some.inj ho)
      clear hty ho
      refine step_call 43 #[.agg #[.int .u8 3, .int .i64 n, .int .u64 (b : Int), .string t]] (wanted_free rfl) ?_ ?_
      · simp [execOp, Act.eval, h37, go_sem]
      · exact (HB1.out _).mono fun e w' h => ⟨_, h.1, h.2, rfl⟩
    | 2, ho, _ =>
      obtain rfl := (Option.some.inj ho)
      clear hty ho
      refine step_pure (.agg #[.int .u8 1, .int .i64 m, .int .u64 (c : Int), .string u]) (wanted_free rfl) ?_ (Ext.refl _) rfl
      simp [execOp, Act.eval, h3, b0, b1, b2, b3, go_sem]
    | 3, ho, _ =>
      have h39 : tmps[39]?.getD undef = .agg #[.int .u8 1, .int .i64 m, .int .u64 (c : Int), .string u] := hty 2 39 (by kernel_rfl) (by obtain rfl := (Option.some.inj ho); rfl)
      obtain rfl := (Option.some.inj ho)
      clear hty ho
      refine step_call 43 #[.agg #[.int .u8 1, .int .i64 m, .int .u64 (c : Int), .string u]] (wanted_free rfl) ?_ ?_
      · simp [execOp, Act.eval, h39, go_sem]
      · exact (HB2.out _).mono fun e w' h => ⟨_, h.1, h.2, rfl⟩
    | (j + 4), _, hj => omega
  · intro tmps w5 hle hs hfr hty
    have h38 : tmps[38]?.getD undef = .int .u64 (X : Int) := hty 1 38 (by kernel_rfl)
    have h40 : tmps[40]?.getD undef = .int .u64 (Y : Int) := hty 3 40 (by kernel_rfl)
    have hfe := nframe_eq [37, 38, 39, 40] hs hfr (by kernel_rfl)
    rw [hfe]
    clear hfe hfr hs hty
    simp only [List.foldl_cons, List.foldl_nil]
    rw [h38, h40]
    generalize tmps[37]?.getD undef = x37
    generalize tmps[39]?.getD undef = x39
    clear h38 h40
    replace hR := hid (hle.block hR.out)
    replace HX := hid (HX.out.trans hle)
    clear hle a0 a1 a2 a3 am0 am1 am2 am3 az b0 b1 b2 b3 bm0 bm1 bm2 bm3 bz c0 c1 c2 c3 m0 m1 m2 m3 z0 d0 d1 d2 d3 g0 g1 g2 g3 z1
    simp only [List.drop_succ_cons, List.drop_zero, List.setIfInBounds_toArray, List.set_cons_succ, List.set_cons_zero]
    go_wp2_with ((with_reducible show Calls _ 42 _ _ _); refine (ka _).mono ?_; rintro e w9 ⟨rfl, rfl⟩)
    refine (ko _).mono ?_
    rintro e w6 ⟨rfl, hx⟩
    replace hR := hid (hx.block hR.out)
    replace HX := hid (HX.out.trans hx)
    clear hx
    obtain ⟨⟨c0, c1, c2, c3⟩, ⟨m0, m1, m2, m3⟩, z0⟩ := box4 hR.out
    go_wp2_with fail
    refine bodyPost_ret (ret_cell_tmp rfl _ _ (w.heap.size + 1 + 1) 24 _ (0, 0) _ rfl (set4 hR.out) Try.underlying24 rfl (by kernel_rfl)) rfl (SaysVB.mk (by first | rfl | (rw [Int.add_zero]; rfl)) rfl ?_)
    repeat (first | (with_reducible exact HX.out) | (with_reducible apply Ext.then_drew) | (with_reducible apply Ext.then_alloc) | (with_reducible refine Ext.setCell ?_ (by simp; omega) _))

set_option maxRecDepth 100000 in
set_option maxHeartbeats 2000000 in
theorem rplus_real13 (n : Int) (b : Nat) (t : ByteArray) (m : Int) (c : Nat) (u : ByteArray) (w : World) (hn0 : -9223372036854775808 ≤ n) (hn1 : n ≤ 9223372036854775807) (hm0 : -9223372036854775808 ≤ m) (hm1 : m ≤ 9223372036854775807) (hb : b ≤ 18446744073709551615) (hc : c ≤ 18446744073709551615) (h1 : checkV 1 n b t = 0) (h2 : checkV 3 m c u = 0) :
    Calls Try.prog 14 #[.agg #[.int .u8 1, .int .i64 n, .int .u64 (b : Int), .string t], .agg #[.int .u8 3, .int .i64 m, .int .u64 (c : Int), .string u]] w (SaysVB w (ofRealV (addZ (bitsV 1 n b) (bitsV 3 m c)), true)) := by
  have k1 := fun W => rcheck_any 1 n b t W hb
  have k2 := fun W => rcheck_any 3 m c u W hc
  rw [h1] at k1
  rw [h2] at k2
  have kn := fun W => rnumber_any 1 W
  have ln := fun W => rnumber_any 3 W
  rw [show numK 1 = true from rfl] at kn
  rw [show numK 3 = true from rfl] at ln
  replace k1 : ∀ W, Calls Try.prog 34 #[.agg #[.int .u8 1, .int .i64 n, .int .u64 (b : Int), .string t]] W (Says W (.int .i64 0)) := k1
  replace k2 : ∀ W, Calls Try.prog 34 #[.agg #[.int .u8 3, .int .i64 m, .int .u64 (c : Int), .string u]] W (Says W (.int .i64 0)) := k2
  have kb1 := fun W => rbits_any 1 n b t W hn0 hn1
  have kb2 := fun W => rbits_any 3 m c u W hm0 hm1
  have hl1 : bitsV 1 n b ≤ 18446744073709551615 := bits_lt _ _ _ hb
  have hl2 : bitsV 3 m c ≤ 18446744073709551615 := bits_lt _ _ _ hc
  have hs : addZ (bitsV 1 n b) (bitsV 3 m c) ≤ 18446744073709551615 := by have := (add_clean (bitsV 1 n b) (bitsV 3 m c) (by omega) (by omega)).2; omega
  generalize bitsV 1 n b = X at *
  generalize bitsV 3 m c = Y at *
  have ka := fun W => radd_any X Y W hl1 hl2
  have ko := fun W => vrofreal_any (addZ X Y) W hs
  have hv : (ofRealV (addZ X Y)) = ⟨3, 0, cleanZ (addZ X Y), noText⟩ := rfl
  rw [hv] at ko ⊢
  generalize cleanZ (addZ X Y) = Z at *
  generalize addZ X Y = S at *
  replace ko : ∀ W, Calls Try.prog 41 #[.int .u64 (S : Int)] W (Says W (.agg #[.int .u8 3, .int .i64 0, .int .u64 (Z : Int), .string ⟨#[]⟩])) := ko
  replace kb1 : ∀ W, Calls Try.prog 43 #[.agg #[.int .u8 1, .int .i64 n, .int .u64 (b : Int), .string t]] W (Says W (.int .u64 (X : Int))) := kb1
  replace kb2 : ∀ W, Calls Try.prog 43 #[.agg #[.int .u8 3, .int .i64 m, .int .u64 (c : Int), .string u]] W (Says W (.int .u64 (Y : Int))) := kb2
  have HB1 := hid kb1
  have HB2 := hid kb2
  clear kb1 kb2 hv hs hl1 hl2
  clear h1 h2
  go_enter Try.func14, Try.ntmps14
  go_wp2_with fail
  refine (k1 _).mono ?_
  rintro e w1 ⟨rfl, hx⟩
  obtain ⟨q1, q2, q3, q4, q5⟩ := blocks4 w _ _ _ _
  have hA := hid (hx.block q1)
  have hBB := hid (hx.block q2)
  have hR := hid (hx.block q3)
  have hN := hid (hx.block q4)
  have HX := hid (q5.trans hx)
  clear hx q1 q2 q3 q4 q5
  obtain ⟨⟨a0, a1, a2, a3⟩, ⟨am0, am1, am2, am3⟩, az⟩ := box4 hA.out
  obtain ⟨⟨b0, b1, b2, b3⟩, ⟨bm0, bm1, bm2, bm3⟩, bz⟩ := box4 hBB.out
  obtain ⟨⟨c0, c1, c2, c3⟩, ⟨m0, m1, m2, m3⟩, z0⟩ := box4 hR.out
  obtain ⟨⟨d0, d1, d2, d3⟩, ⟨g0, g1, g2, g3⟩, z1⟩ := box4 hN.out
  go_wp2_with fail
  clear a0 a1 a2 a3 am0 am1 am2 am3 az b0 b1 b2 b3 bm0 bm1 bm2 bm3 bz c0 c1 c2 c3 m0 m1 m2 m3 z0 d0 d1 d2 d3 g0 g1 g2 g3 z1
  refine (k2 _).mono ?_
  rintro e w2 ⟨rfl, hx⟩
  replace hA := hid (hx.block hA.out)
  replace hBB := hid (hx.block hBB.out)
  replace hR := hid (hx.block hR.out)
  replace hN := hid (hx.block hN.out)
  replace HX := hid (HX.out.trans hx)
  clear hx
  obtain ⟨⟨a0, a1, a2, a3⟩, ⟨am0, am1, am2, am3⟩, az⟩ := box4 hA.out
  obtain ⟨⟨b0, b1, b2, b3⟩, ⟨bm0, bm1, bm2, bm3⟩, bz⟩ := box4 hBB.out
  obtain ⟨⟨c0, c1, c2, c3⟩, ⟨m0, m1, m2, m3⟩, z0⟩ := box4 hR.out
  obtain ⟨⟨d0, d1, d2, d3⟩, ⟨g0, g1, g2, g3⟩, z1⟩ := box4 hN.out
  go_wp2_with (first | ((with_reducible show Calls _ 35 #[.int .u8 1] _ _); refine (kn _).mono ?_; rintro e w9 ⟨rfl, rfl⟩) | ((with_reducible show Calls _ 35 #[.int .u8 3] _ _); refine (ln _).mono ?_; rintro e w9 ⟨rfl, rfl⟩))
  refine wp_region_tail 4 Ext (vplusG (.agg #[.int .u8 1, .int .i64 n, .int .u64 (b : Int), .string t]) (.agg #[.int .u8 3, .int .i64 m, .int .u64 (c : Int), .string u]) X Y) (by kernel_rfl) Ext.trans Ext.refl (Ext.drew _) (vplusG_st _ _ _ _) (by kernel_rfl) (by kernel_rfl) ?_ ?_
  · intro tmps df wr hle hfr j o hj ho hty
    have h2 : tmps[2]?.getD undef = .pointer (some ⟨w.heap.size, 0, none⟩) := hfr 2 (by kernel_rfl)
    have h3 : tmps[3]?.getD undef = .pointer (some ⟨w.heap.size + 1, 0, none⟩) := hfr 3 (by kernel_rfl)
    obtain ⟨⟨a0, a1, a2, a3⟩, _, _⟩ := box4 (hle.block hA.out)
    obtain ⟨⟨b0, b1, b2, b3⟩, _, _⟩ := box4 (hle.block hBB.out)
    clear hfr
    match j, ho, hj with
    | 0, ho, _ =>
      obtain rfl := (Option.some.inj ho)
      clear hty ho
      refine step_pure (.agg #[.int .u8 1, .int .i64 n, .int .u64 (b : Int), .string t]) (wanted_free rfl) ?_ (Ext.refl _) rfl
      simp [execOp, Act.eval, h2, a0, a1, a2, a3, go_sem]
    | 1, ho, _ =>
      have h37 : tmps[37]?.getD undef = .agg #[.int .u8 1, .int .i64 n, .int .u64 (b : Int), .string t] := hty 0 37 (by kernel_rfl) (by obtain rfl := (Option.some.inj ho); rfl)
      obtain rfl := (Option.some.inj ho)
      clear hty ho
      refine step_call 43 #[.agg #[.int .u8 1, .int .i64 n, .int .u64 (b : Int), .string t]] (wanted_free rfl) ?_ ?_
      · simp [execOp, Act.eval, h37, go_sem]
      · exact (HB1.out _).mono fun e w' h => ⟨_, h.1, h.2, rfl⟩
    | 2, ho, _ =>
      obtain rfl := (Option.some.inj ho)
      clear hty ho
      refine step_pure (.agg #[.int .u8 3, .int .i64 m, .int .u64 (c : Int), .string u]) (wanted_free rfl) ?_ (Ext.refl _) rfl
      simp [execOp, Act.eval, h3, b0, b1, b2, b3, go_sem]
    | 3, ho, _ =>
      have h39 : tmps[39]?.getD undef = .agg #[.int .u8 3, .int .i64 m, .int .u64 (c : Int), .string u] := hty 2 39 (by kernel_rfl) (by obtain rfl := (Option.some.inj ho); rfl)
      obtain rfl := (Option.some.inj ho)
      clear hty ho
      refine step_call 43 #[.agg #[.int .u8 3, .int .i64 m, .int .u64 (c : Int), .string u]] (wanted_free rfl) ?_ ?_
      · simp [execOp, Act.eval, h39, go_sem]
      · exact (HB2.out _).mono fun e w' h => ⟨_, h.1, h.2, rfl⟩
    | (j + 4), _, hj => omega
  · intro tmps w5 hle hs hfr hty
    have h38 : tmps[38]?.getD undef = .int .u64 (X : Int) := hty 1 38 (by kernel_rfl)
    have h40 : tmps[40]?.getD undef = .int .u64 (Y : Int) := hty 3 40 (by kernel_rfl)
    have hfe := nframe_eq [37, 38, 39, 40] hs hfr (by kernel_rfl)
    rw [hfe]
    clear hfe hfr hs hty
    simp only [List.foldl_cons, List.foldl_nil]
    rw [h38, h40]
    generalize tmps[37]?.getD undef = x37
    generalize tmps[39]?.getD undef = x39
    clear h38 h40
    replace hR := hid (hle.block hR.out)
    replace HX := hid (HX.out.trans hle)
    clear hle a0 a1 a2 a3 am0 am1 am2 am3 az b0 b1 b2 b3 bm0 bm1 bm2 bm3 bz c0 c1 c2 c3 m0 m1 m2 m3 z0 d0 d1 d2 d3 g0 g1 g2 g3 z1
    simp only [List.drop_succ_cons, List.drop_zero, List.setIfInBounds_toArray, List.set_cons_succ, List.set_cons_zero]
    go_wp2_with ((with_reducible show Calls _ 42 _ _ _); refine (ka _).mono ?_; rintro e w9 ⟨rfl, rfl⟩)
    refine (ko _).mono ?_
    rintro e w6 ⟨rfl, hx⟩
    replace hR := hid (hx.block hR.out)
    replace HX := hid (HX.out.trans hx)
    clear hx
    obtain ⟨⟨c0, c1, c2, c3⟩, ⟨m0, m1, m2, m3⟩, z0⟩ := box4 hR.out
    go_wp2_with fail
    refine bodyPost_ret (ret_cell_tmp rfl _ _ (w.heap.size + 1 + 1) 24 _ (0, 0) _ rfl (set4 hR.out) Try.underlying24 rfl (by kernel_rfl)) rfl (SaysVB.mk (by first | rfl | (rw [Int.add_zero]; rfl)) rfl ?_)
    repeat (first | (with_reducible exact HX.out) | (with_reducible apply Ext.then_drew) | (with_reducible apply Ext.then_alloc) | (with_reducible refine Ext.setCell ?_ (by simp; omega) _))

set_option maxRecDepth 100000 in
set_option maxHeartbeats 2000000 in
theorem rplus_out (n : Int) (b : Nat) (t : ByteArray) (m : Int) (c : Nat) (u : ByteArray) (w : World) (hn0 : -9223372036854775808 ≤ n) (hn1 : n ≤ 9223372036854775807) (hm0 : -9223372036854775808 ≤ m) (hm1 : m ≤ 9223372036854775807) (hb : b ≤ 18446744073709551615) (hc : c ≤ 18446744073709551615) (h1 : checkV 1 n b t = 0) (h2 : checkV 1 m c u = 0) (h : n + m < -4611686018427387904 ∨ 4611686018427387904 < n + m) :
    Calls Try.prog 14 #[.agg #[.int .u8 1, .int .i64 n, .int .u64 (b : Int), .string t], .agg #[.int .u8 1, .int .i64 m, .int .u64 (c : Int), .string u]] w (SaysVB w (VZ.none, false)) := by
  have k1 := fun W => rcheck_any 1 n b t W hb
  have k2 := fun W => rcheck_any 1 m c u W hc
  rw [h1] at k1
  rw [h2] at k2
  have kn := fun W => rnumber_any 1 W
  have ln := fun W => rnumber_any 1 W
  rw [show numK 1 = true from rfl] at kn
  rw [show numK 1 = true from rfl] at ln
  replace k1 : ∀ W, Calls Try.prog 34 #[.agg #[.int .u8 1, .int .i64 n, .int .u64 (b : Int), .string t]] W (Says W (.int .i64 0)) := k1
  replace k2 : ∀ W, Calls Try.prog 34 #[.agg #[.int .u8 1, .int .i64 m, .int .u64 (c : Int), .string u]] W (Says W (.int .i64 0)) := k2
  have p1 := check_parts h1
  have p2 := check_parts h2
  have bn : -4611686018427387904 ≤ n ∧ n ≤ 4611686018427387904 := by omega
  have bm : -4611686018427387904 ≤ m ∧ m ≤ 4611686018427387904 := by omega
  have bn0 := bn.1
  have bn1 := bn.2
  have bm0 := bm.1
  have bm1 := bm.2
  clear p1 p2 bn bm hn0 hn1 hm0 hm1 ln
  clear h1 h2
  go_enter Try.func14, Try.ntmps14
  go_wp2_with fail
  refine (k1 _).mono ?_
  rintro e w1 ⟨rfl, hx⟩
  obtain ⟨q1, q2, q3, q4, q5⟩ := blocks4 w _ _ _ _
  have hA := hid (hx.block q1)
  have hBB := hid (hx.block q2)
  have hR := hid (hx.block q3)
  have hN := hid (hx.block q4)
  have HX := hid (q5.trans hx)
  clear hx q1 q2 q3 q4 q5
  obtain ⟨⟨a0, a1, a2, a3⟩, ⟨am0, am1, am2, am3⟩, az⟩ := box4 hA.out
  obtain ⟨⟨b0, b1, b2, b3⟩, ⟨bm0, bm1, bm2, bm3⟩, bz⟩ := box4 hBB.out
  obtain ⟨⟨c0, c1, c2, c3⟩, ⟨m0, m1, m2, m3⟩, z0⟩ := box4 hR.out
  obtain ⟨⟨d0, d1, d2, d3⟩, ⟨g0, g1, g2, g3⟩, z1⟩ := box4 hN.out
  go_wp2_with fail
  clear a0 a1 a2 a3 am0 am1 am2 am3 az b0 b1 b2 b3 bm0 bm1 bm2 bm3 bz c0 c1 c2 c3 m0 m1 m2 m3 z0 d0 d1 d2 d3 g0 g1 g2 g3 z1
  refine (k2 _).mono ?_
  rintro e w2 ⟨rfl, hx⟩
  replace hA := hid (hx.block hA.out)
  replace hBB := hid (hx.block hBB.out)
  replace hR := hid (hx.block hR.out)
  replace hN := hid (hx.block hN.out)
  replace HX := hid (HX.out.trans hx)
  clear hx
  obtain ⟨⟨a0, a1, a2, a3⟩, ⟨am0, am1, am2, am3⟩, az⟩ := box4 hA.out
  obtain ⟨⟨b0, b1, b2, b3⟩, ⟨bm0, bm1, bm2, bm3⟩, bz⟩ := box4 hBB.out
  obtain ⟨⟨c0, c1, c2, c3⟩, ⟨m0, m1, m2, m3⟩, z0⟩ := box4 hR.out
  obtain ⟨⟨d0, d1, d2, d3⟩, ⟨g0, g1, g2, g3⟩, z1⟩ := box4 hN.out
  rcases h with h | h
  · have hm' : m < 0 := by omega
    have hm2 : ¬ 0 < m := by omega
    have hd : n < -4611686018427387904 - m := by omega
    go_wp2_with (first | ((with_reducible show Calls _ 35 _ _ _); refine (kn _).mono ?_; rintro e w9 ⟨rfl, rfl⟩))
    refine bodyPost_ret (ret_cell_tmp rfl _ _ (w.heap.size + 1 + 1) 24 _ (0, 0) _ rfl (set4 hR.out) Try.underlying24 rfl (by kernel_rfl)) rfl (SaysVB.mk (by first | rfl | (rw [Int.add_zero]; rfl)) rfl ?_)
    repeat (first | (with_reducible exact HX.out) | (with_reducible apply Ext.then_drew) | (with_reducible apply Ext.then_alloc) | (with_reducible refine Ext.setCell ?_ (by simp; omega) _))
  · have hm' : 0 < m := by omega
    have hd : 4611686018427387904 - m < n := by omega
    go_wp2_with (first | ((with_reducible show Calls _ 35 _ _ _); refine (kn _).mono ?_; rintro e w9 ⟨rfl, rfl⟩))
    refine bodyPost_ret (ret_cell_tmp rfl _ _ (w.heap.size + 1 + 1) 24 _ (0, 0) _ rfl (set4 hR.out) Try.underlying24 rfl (by kernel_rfl)) rfl (SaysVB.mk (by first | rfl | (rw [Int.add_zero]; rfl)) rfl ?_)
    repeat (first | (with_reducible exact HX.out) | (with_reducible apply Ext.then_drew) | (with_reducible apply Ext.then_alloc) | (with_reducible refine Ext.setCell ?_ (by simp; omega) _))

set_option maxRecDepth 100000 in
set_option maxHeartbeats 2000000 in
theorem rplus_in (n : Int) (b : Nat) (t : ByteArray) (m : Int) (c : Nat) (u : ByteArray) (w : World) (hn0 : -9223372036854775808 ≤ n) (hn1 : n ≤ 9223372036854775807) (hm0 : -9223372036854775808 ≤ m) (hm1 : m ≤ 9223372036854775807) (hb : b ≤ 18446744073709551615) (hc : c ≤ 18446744073709551615) (h1 : checkV 1 n b t = 0) (h2 : checkV 1 m c u = 0) (h0 : -4611686018427387904 ≤ n + m) (h9 : n + m ≤ 4611686018427387904) :
    Calls Try.prog 14 #[.agg #[.int .u8 1, .int .i64 n, .int .u64 (b : Int), .string t], .agg #[.int .u8 1, .int .i64 m, .int .u64 (c : Int), .string u]] w (SaysVB w (⟨1, n + m, 0, noText⟩, true)) := by
  have k1 := fun W => rcheck_any 1 n b t W hb
  have k2 := fun W => rcheck_any 1 m c u W hc
  rw [h1] at k1
  rw [h2] at k2
  have kn := fun W => rnumber_any 1 W
  have ln := fun W => rnumber_any 1 W
  rw [show numK 1 = true from rfl] at kn
  rw [show numK 1 = true from rfl] at ln
  replace k1 : ∀ W, Calls Try.prog 34 #[.agg #[.int .u8 1, .int .i64 n, .int .u64 (b : Int), .string t]] W (Says W (.int .i64 0)) := k1
  replace k2 : ∀ W, Calls Try.prog 34 #[.agg #[.int .u8 1, .int .i64 m, .int .u64 (c : Int), .string u]] W (Says W (.int .i64 0)) := k2
  have p1 := check_parts h1
  have p2 := check_parts h2
  have bn : -4611686018427387904 ≤ n ∧ n ≤ 4611686018427387904 := by omega
  have bm : -4611686018427387904 ≤ m ∧ m ≤ 4611686018427387904 := by omega
  have bn0 := bn.1
  have bn1 := bn.2
  have bm0 := bm.1
  have bm1 := bm.2
  clear p1 p2 bn bm hn0 hn1 hm0 hm1 ln
  have ko : ∀ W, Calls Try.prog 44 #[.int .i64 (n + m)] W (Says W (.agg #[.int .u8 1, .int .i64 (n + m), .int .u64 0, .string ⟨#[]⟩])) := fun W => by
    have h := vrofint_any (n + m) W
    have e : (ofIntV (n + m)).v = vv 1 (n + m) 0 noText := by
      unfold ofIntV VZ.v
      rw [show max (-4611686018427387904) (min 4611686018427387904 (n + m)) = n + m by omega]
    rw [e] at h
    exact h
  clear h1 h2
  go_enter Try.func14, Try.ntmps14
  go_wp2_with fail
  refine (k1 _).mono ?_
  rintro e w1 ⟨rfl, hx⟩
  obtain ⟨q1, q2, q3, q4, q5⟩ := blocks4 w _ _ _ _
  have hA := hid (hx.block q1)
  have hBB := hid (hx.block q2)
  have hR := hid (hx.block q3)
  have hN := hid (hx.block q4)
  have HX := hid (q5.trans hx)
  clear hx q1 q2 q3 q4 q5
  obtain ⟨⟨a0, a1, a2, a3⟩, ⟨am0, am1, am2, am3⟩, az⟩ := box4 hA.out
  obtain ⟨⟨b0, b1, b2, b3⟩, ⟨bm0, bm1, bm2, bm3⟩, bz⟩ := box4 hBB.out
  obtain ⟨⟨c0, c1, c2, c3⟩, ⟨m0, m1, m2, m3⟩, z0⟩ := box4 hR.out
  obtain ⟨⟨d0, d1, d2, d3⟩, ⟨g0, g1, g2, g3⟩, z1⟩ := box4 hN.out
  go_wp2_with fail
  clear a0 a1 a2 a3 am0 am1 am2 am3 az b0 b1 b2 b3 bm0 bm1 bm2 bm3 bz c0 c1 c2 c3 m0 m1 m2 m3 z0 d0 d1 d2 d3 g0 g1 g2 g3 z1
  refine (k2 _).mono ?_
  rintro e w2 ⟨rfl, hx⟩
  replace hA := hid (hx.block hA.out)
  replace hBB := hid (hx.block hBB.out)
  replace hR := hid (hx.block hR.out)
  replace hN := hid (hx.block hN.out)
  replace HX := hid (HX.out.trans hx)
  clear hx
  obtain ⟨⟨a0, a1, a2, a3⟩, ⟨am0, am1, am2, am3⟩, az⟩ := box4 hA.out
  obtain ⟨⟨b0, b1, b2, b3⟩, ⟨bm0, bm1, bm2, bm3⟩, bz⟩ := box4 hBB.out
  obtain ⟨⟨c0, c1, c2, c3⟩, ⟨m0, m1, m2, m3⟩, z0⟩ := box4 hR.out
  obtain ⟨⟨d0, d1, d2, d3⟩, ⟨g0, g1, g2, g3⟩, z1⟩ := box4 hN.out
  rcases Int.lt_trichotomy m 0 with hm' | hm' | hm'
  · have hm2 : ¬ 0 < m := by omega
    have hd : ¬ n < -4611686018427387904 - m := by omega
    go_wp2_with (first | ((with_reducible show Calls _ 35 _ _ _); refine (kn _).mono ?_; rintro e w9 ⟨rfl, rfl⟩))
    refine (ko _).mono ?_
    rintro e w6 ⟨rfl, hx⟩
    replace hR := hid (hx.block hR.out)
    replace HX := hid (HX.out.trans hx)
    clear hx a0 a1 a2 a3 am0 am1 am2 am3 az b0 b1 b2 b3 bm0 bm1 bm2 bm3 bz c0 c1 c2 c3 m0 m1 m2 m3 z0 d0 d1 d2 d3 g0 g1 g2 g3 z1
    obtain ⟨⟨c0, c1, c2, c3⟩, ⟨m0, m1, m2, m3⟩, z0⟩ := box4 hR.out
    go_wp2_with fail
    refine bodyPost_ret (ret_cell_tmp rfl _ _ (w.heap.size + 1 + 1) 24 _ (0, 0) _ rfl (set4 hR.out) Try.underlying24 rfl (by kernel_rfl)) rfl (SaysVB.mk (by first | rfl | (rw [Int.add_zero]; rfl)) rfl ?_)
    repeat (first | (with_reducible exact HX.out) | (with_reducible apply Ext.then_drew) | (with_reducible apply Ext.then_alloc) | (with_reducible refine Ext.setCell ?_ (by simp; omega) _))
  · subst hm'
    rw [Int.add_zero] at ko
    go_wp2_with (first | ((with_reducible show Calls _ 35 _ _ _); refine (kn _).mono ?_; rintro e w9 ⟨rfl, rfl⟩))
    refine (ko _).mono ?_
    rintro e w6 ⟨rfl, hx⟩
    replace hR := hid (hx.block hR.out)
    replace HX := hid (HX.out.trans hx)
    clear hx a0 a1 a2 a3 am0 am1 am2 am3 az b0 b1 b2 b3 bm0 bm1 bm2 bm3 bz c0 c1 c2 c3 m0 m1 m2 m3 z0 d0 d1 d2 d3 g0 g1 g2 g3 z1
    obtain ⟨⟨c0, c1, c2, c3⟩, ⟨m0, m1, m2, m3⟩, z0⟩ := box4 hR.out
    go_wp2_with fail
    refine bodyPost_ret (ret_cell_tmp rfl _ _ (w.heap.size + 1 + 1) 24 _ (0, 0) _ rfl (set4 hR.out) Try.underlying24 rfl (by kernel_rfl)) rfl (SaysVB.mk (by first | rfl | (rw [Int.add_zero]; rfl)) rfl ?_)
    repeat (first | (with_reducible exact HX.out) | (with_reducible apply Ext.then_drew) | (with_reducible apply Ext.then_alloc) | (with_reducible refine Ext.setCell ?_ (by simp; omega) _))
  · have hm2 : ¬ m < 0 := by omega
    have hd : ¬ 4611686018427387904 - m < n := by omega
    go_wp2_with (first | ((with_reducible show Calls _ 35 _ _ _); refine (kn _).mono ?_; rintro e w9 ⟨rfl, rfl⟩))
    refine (ko _).mono ?_
    rintro e w6 ⟨rfl, hx⟩
    replace hR := hid (hx.block hR.out)
    replace HX := hid (HX.out.trans hx)
    clear hx a0 a1 a2 a3 am0 am1 am2 am3 az b0 b1 b2 b3 bm0 bm1 bm2 bm3 bz c0 c1 c2 c3 m0 m1 m2 m3 z0 d0 d1 d2 d3 g0 g1 g2 g3 z1
    obtain ⟨⟨c0, c1, c2, c3⟩, ⟨m0, m1, m2, m3⟩, z0⟩ := box4 hR.out
    go_wp2_with fail
    refine bodyPost_ret (ret_cell_tmp rfl _ _ (w.heap.size + 1 + 1) 24 _ (0, 0) _ rfl (set4 hR.out) Try.underlying24 rfl (by kernel_rfl)) rfl (SaysVB.mk (by first | rfl | (rw [Int.add_zero]; rfl)) rfl ?_)
    repeat (first | (with_reducible exact HX.out) | (with_reducible apply Ext.then_drew) | (with_reducible apply Ext.then_alloc) | (with_reducible refine Ext.setCell ?_ (by simp; omega) _))

theorem rplus_any (k : Nat) (n : Int) (b : Nat) (t : ByteArray) (l : Nat) (m : Int) (c : Nat) (u : ByteArray) (w : World) (hn0 : -9223372036854775808 ≤ n) (hn1 : n ≤ 9223372036854775807) (hm0 : -9223372036854775808 ≤ m) (hm1 : m ≤ 9223372036854775807) (hb : b ≤ 18446744073709551615) (hc : c ≤ 18446744073709551615) :
    Calls Try.prog 14 #[vv k n b t, vv l m c u] w (SaysVB w (plusV k n b t l m c u)) := by
  rcases plus_cases k n b t l m c u with ⟨e, h⟩ | ⟨c1, c2, hk, hl, h3, e⟩ | ⟨c1, c2, rfl, rfl, r0, r1, e⟩
  · rw [e]
    by_cases c1 : checkV k n b t = 0
    · by_cases c2 : checkV l m c u = 0
      · cases nk : numK k
        · exact rplus_bad3 k n b t l m c u w hb hc c1 c2 nk
        · cases nl : numK l
          · exact rplus_bad4 k n b t l m c u w hb hc c1 c2 nk nl
          · rcases h with h | h | h | h | ⟨rfl, rfl, h⟩
            · exact absurd c1 h
            · exact absurd c2 h
            · rw [nk] at h; cases h
            · rw [nl] at h; cases h
            · exact rplus_out n b t m c u w hn0 hn1 hm0 hm1 hb hc c1 c2 (by omega)
      · exact rplus_bad2 k n b t l m c u w hb hc c1 c2
    · exact rplus_bad1 k n b t l m c u w hb hc c1
  · rw [e]
    rcases hk with rfl | rfl <;> rcases hl with rfl | rfl
    · omega
    · exact rplus_real13 n b t m c u w hn0 hn1 hm0 hm1 hb hc c1 c2
    · exact rplus_real31 n b t m c u w hn0 hn1 hm0 hm1 hb hc c1 c2
    · exact rplus_real33 n b t m c u w hn0 hn1 hm0 hm1 hb hc c1 c2
  · rw [e]
    exact rplus_in n b t m c u w hn0 hn1 hm0 hm1 hb hc c1 c2 r0 r1
end Go.Proofs.Ytaahaehgdamkdaa
