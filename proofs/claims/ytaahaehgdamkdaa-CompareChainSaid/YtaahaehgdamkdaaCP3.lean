/- The landed program's kindOfSum, bitsOf, whole, by their contracts. Conditions: numbers within their kinds. -/
import Derived.Test.YtaahaehgdamkdaaCP2
import Derived.Test.YtaahaehgdamkdaaCR6
import Derived.BigQuiet
namespace Go.Proofs.Ytaahaehgdamkdaa
open Go Go.RowKit

set_option maxHeartbeats 1000000 in
theorem cbits_any (k : Nat) (n : Int) (b : Nat) (t : ByteArray) (w : World) (hn0 : -9223372036854775808 ≤ n) (hn1 : n ≤ 9223372036854775807) :
    Calls Try.prog 40 #[vv k n b t] w (Says w (.int .u64 (bitsV k n b : Int))) := by
  have hi := fun W => ofint_any n W hn0 hn1
  unfold vv
  by_cases h : k = 1
  · subst h
    have e : bitsV 1 n b = intZ n := if_pos rfl
    rw [e]
    clear e
    generalize intZ n = I at *
    go_enter Try.func40, Try.ntmps40
    go_wp2_with fail
    refine (hi _).mono ?_
    rintro e w1 ⟨rfl, hx⟩
    go_wp2_with fail
    go_ret
    exact ⟨rfl, (Ext.alloc _ _).trans hx⟩
  · have hk : ((k : Int) == 1) = false := beq_eq_false_iff_ne.2 (by omega)
    have e : bitsV k n b = b := if_neg h
    rw [e]
    clear e h hi
    go_enter Try.func40, Try.ntmps40
    go_wp2_with fail
    go_ret
    exact ⟨rfl, Ext.alloc _ _⟩

/-- the kind of a sum of two values -/
def ksumV (k : Nat) (n : Int) (b : Nat) (t : ByteArray) (l : Nat) (m : Int) (c : Nat) (u : ByteArray) : Nat :=
  if checkV k n b t = 0 ∧ checkV l m c u = 0 then sumK k l else 0

set_option maxHeartbeats 1000000 in
theorem cksum_any (k : Nat) (n : Int) (b : Nat) (t : ByteArray) (l : Nat) (m : Int) (c : Nat) (u : ByteArray) (w : World) (hk : k ≤ 255) (hl : l ≤ 255) (hn0 : -9223372036854775808 ≤ n) (hn1 : n ≤ 9223372036854775807) (hm0 : -9223372036854775808 ≤ m) (hm1 : m ≤ 9223372036854775807) (hb : b ≤ 18446744073709551615) (hc : c ≤ 18446744073709551615) (ht : t.size ≤ 9223372036854775807) (hu : u.size ≤ 9223372036854775807) :
    Calls Try.prog 37 #[vv k n b t, vv l m c u] w (Says w (.int .u8 (ksumV k n b t l m c u : Int))) := by
  have km := fun W => cmaybe_any k n b t l m c u W hk hl hn0 hn1 hm0 hm1 hb hc ht hu
  have ks := fun W => csum_just k l W
  clear hk hl hn0 hn1 hm0 hm1 hb hc ht hu
  unfold ksumV
  by_cases hm : checkV k n b t = 0 ∧ checkV l m c u = 0
  · rw [decide_eq_true hm] at km
    rw [if_pos hm]
    generalize sumK k l = S at *
    clear hm
    unfold vv at *
    go_enter Try.func37, Try.ntmps37
    go_wp2_with fail
    refine (km _).mono ?_
    rintro e w1 ⟨rfl, hx⟩
    have HV := hid (hx.block (heap_alloc2_old w _ _))
    have HW := hid (hx.block (heap_alloc2_new w _ _))
    have HX := hid (((Ext.alloc w _).then_alloc _).trans hx)
    clear hx
    obtain ⟨⟨a0, a1, a2, a3⟩, _, _⟩ := box4 HV.out
    obtain ⟨⟨b0, b1, b2, b3⟩, _, _⟩ := box4 HW.out
    go_wp2_with fail
    refine (ks _).mono ?_
    rintro e w2 ⟨rfl, rfl⟩
    go_wp2_with fail
    go_ret
    exact ⟨rfl, HX.out⟩
  · rw [decide_eq_false hm] at km
    rw [if_neg hm]
    clear hm ks
    unfold vv at *
    go_enter Try.func37, Try.ntmps37
    go_wp2_with fail
    refine (km _).mono ?_
    rintro e w1 ⟨rfl, hx⟩
    go_wp2_with fail
    go_ret
    exact ⟨rfl, ((Ext.alloc _ _).then_alloc _).trans hx⟩

/-- an Int, if it may be -/
def wholeV (n : Int) : VZ × Bool := if -4611686018427387904 ≤ n ∧ n ≤ 4611686018427387904 then (⟨1, n, 0, noText⟩, true) else (VZ.none, false)

theorem int_ok {n : Int} : checkV 1 n 0 noText = if n < -4611686018427387904 ∨ 4611686018427387904 < n then 8 else 0 := by
  rw [check_int]
  rfl

set_option maxRecDepth 100000 in
set_option maxHeartbeats 1000000 in
theorem cwhole_any (n : Int) (w : World) (hn0 : -9223372036854775808 ≤ n) (hn1 : n ≤ 9223372036854775807) : Calls Try.prog 38 #[.int .i64 n] w (SaysVB w (wholeV n)) := by
  have kc := fun W => vcheck_any 1 n 0 noText W (by decide) hn0 hn1 (by decide) (by decide)
  by_cases h : -4611686018427387904 ≤ n ∧ n ≤ 4611686018427387904
  · rw [int_ok, if_neg (by omega)] at kc
    unfold wholeV
    rw [if_pos h]
    replace kc : ∀ W, Calls Try.prog 25 #[.agg #[.int .u8 1, .int .i64 n, .int .u64 0, .string ⟨#[]⟩]] W (Says W (.int .i64 0)) := kc
    clear h hn0 hn1
    go_enter Try.func38, Try.ntmps38
    go_wp2_with fail
    refine (kc _).mono ?_
    rintro e w1 ⟨rfl, hx⟩
    have HV := hid (hx.block (heap_alloc2_old w _ _))
    have HW := hid (hx.block (heap_alloc2_new w _ _))
    have HX := hid (((Ext.alloc w _).then_alloc _).trans hx)
    clear hx
    obtain ⟨⟨a0, a1, a2, a3⟩, ⟨m0, m1, m2, m3⟩, z0⟩ := box4 HV.out
    obtain ⟨⟨b0, b1, b2, b3⟩, _, _⟩ := box4 HW.out
    go_wp2_with fail
    refine bodyPost_ret (ret_cell_tmp rfl _ _ w.heap.size 28 _ (0, 0) _ rfl (set4 HV.out) Try.underlying28 rfl (by kernel_rfl)) rfl (SaysVB.mk rfl rfl ?_)
    repeat (first | (with_reducible exact HX.out) | (with_reducible apply Ext.then_drew) | (with_reducible apply Ext.then_alloc) | (with_reducible refine Ext.setCell ?_ (by simp) _))
  · rw [int_ok, if_pos (by omega)] at kc
    unfold wholeV
    rw [if_neg h]
    replace kc : ∀ W, Calls Try.prog 25 #[.agg #[.int .u8 1, .int .i64 n, .int .u64 0, .string ⟨#[]⟩]] W (Says W (.int .i64 8)) := kc
    clear h hn0 hn1
    go_enter Try.func38, Try.ntmps38
    go_wp2_with fail
    refine (kc _).mono ?_
    rintro e w1 ⟨rfl, hx⟩
    have HV := hid (hx.block (heap_alloc2_old w _ _))
    have HX := hid (((Ext.alloc w _).then_alloc _).trans hx)
    clear hx
    obtain ⟨⟨a0, a1, a2, a3⟩, ⟨m0, m1, m2, m3⟩, z0⟩ := box4 HV.out
    go_wp2_with fail
    refine bodyPost_ret (ret_cell_tmp rfl _ _ w.heap.size 28 _ (0, 0) _ rfl (set4 HV.out) Try.underlying28 rfl (by kernel_rfl)) rfl (SaysVB.mk rfl rfl ?_)
    repeat (first | (with_reducible exact HX.out) | (with_reducible apply Ext.then_drew) | (with_reducible apply Ext.then_alloc) | (with_reducible refine Ext.setCell ?_ (by simp) _))
end Go.Proofs.Ytaahaehgdamkdaa
