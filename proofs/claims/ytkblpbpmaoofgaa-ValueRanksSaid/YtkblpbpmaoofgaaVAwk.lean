/- telltalelaw04.awake answers true, and changes nothing that was there; values that are compared. Conditions: none. -/
import Derived.Test.YtkblpbpmaoofgaaVR1
import Derived.Test.YtkblpbpmaoofgaaVOrd
import Derived.Test.YtkblpbpmaoofgaaReg2
import Derived.Test.YtkblpbpmaoofgaaMem4
import Derived.Test.YtkblpbpmaoofgaaZC3
import Derived.Test.YtkblpbpmaoofgaaOct5
import Derived.Test.YtkblpbpmaoofgaaVR5
import Derived.Test.YtkblpbpmaoofgaaVV1
import Derived.Test.YtkblpbpmaoofgaaVV2
import Derived.Test.YtkblpbpmaoofgaaVV3
import Derived.Test.YtkblpbpmaoofgaaVV4
import Derived.Test.YtkblpbpmaoofgaaVV5
import Derived.Test.YtkblpbpmaoofgaaVV6
import Derived.Test.YtkblpbpmaoofgaaVV7
import Derived.Test.YtkblpbpmaoofgaaVV8
import Derived.Test.YtkblpbpmaoofgaaReg
import Derived.BigQuiet
namespace Go.Proofs.Ytkblpbpmaoofgaa
open Go Go.RowKit

/-- two values are the same -/
def eqV (k : Nat) (n : Int) (b : Nat) (t : ByteArray) (l : Nat) (m : Int) (c : Nat) (u : ByteArray) : Bool := decide (k = l ∧ n = m ∧ b = c ∧ t = u)
theorem eqV_self (k : Nat) (n : Int) (b : Nat) (t : ByteArray) : eqV k n b t k n b t = true := decide_eq_true ⟨rfl, rfl, rfl, rfl⟩
theorem run_eq_val (k : Nat) (n : Int) (b : Nat) (t : ByteArray) (l : Nat) (m : Int) (c : Nat) (u : ByteArray) (w : World) :
    (binOp .eql 31 (vv k n b t) (vv l m c u)).run Try.prog w = .ok (.bool (eqV k n b t l m c u)) w := by
  unfold eqV vv
  simp [go_sem]
  by_cases h1 : k = l
  · by_cases h2 : n = m
    · by_cases h3 : b = c
      · by_cases h4 : t = u
        · have h4' := (list_ba t u).2 h4
          simp [h1, h2, h3, h4, h4']
        · have h4' : ¬ t.toList = u.toList := fun h => h4 ((list_ba t u).1 h)
          simp [h1, h2, h3, h4, h4']
      · have h3' : ¬ (b : Int) = (c : Int) := by omega
        simp [h1, h2, h3, h3']
    · simp [h1, h2]
  · have h1' : ¬ (k : Int) = (l : Int) := by omega
    simp [h1, h1']
theorem run_guard_val (op : BinOp) (x y : Operand) (k : Nat) (n : Int) (b : Nat) (t : ByteArray) (l : Nat) (m : Int) (c : Nat) (u : ByteArray) (w : World) :
    (eqGuard op 31 x y (vv k n b t) (vv l m c u)).run Try.prog w = .ok () w := run_eqGuard_agg w op _ x y _ _ (by kernel_rfl)

theorem va1 : (ofTextV ⟨#[97, 98]⟩).v = vv 4 0 0 ⟨#[97, 98]⟩ := by
  have : (⟨#[97, 98]⟩ : ByteArray).extract 0 (min (⟨#[97, 98]⟩ : ByteArray).size 24) = ⟨#[97, 98]⟩ := by decide
  unfold ofTextV VZ.v
  rw [this]
theorem va2 : putV [] 4 0 0 ⟨#[97, 98]⟩ = ([4, 2, 97, 98], 0) := by decide +kernel
theorem va4 : putV [] 2 2 0 noText = ([], 8) := by decide +kernel
theorem va3 : takeV ⟨#[2, 1]⟩ 0 = (⟨2, 1, 0, noText⟩, 2, 0) := rfl
theorem va5 : takeV ⟨#[4, 25]⟩ 0 = (VZ.none, 0, 5) := rfl
theorem va6 : rankV 1 3 0 noText 2 0 0 noText = -1 := by decide +kernel
theorem va7 : cleanZ 9223372036854775808 = 9223372036854775808 := by decide +kernel
theorem va8 : cleanZ 0 = 0 := by decide +kernel
theorem va9 : rankV 3 0 9223372036854775808 noText 3 0 0 noText = -1 := by decide +kernel

/-- what the slots of the region hold -/
def vawkG (r : Value) (g : Nat) : Nat → Value → World → Prop
  | 0, v, _ => v = .int .i64 0
  | 1, v, _ => v = .bool true
  | 2, v, _ => v = .bool true
  | 3, v, _ => v = r
  | 4, v, _ => v = .string ⟨([4, 2, 97, 98]).toArray⟩
  | 5, v, _ => v = .bool true
  | 6, v, _ => v = .bool true
  | 7, v, _ => v = .bool true
  | 8, v, _ => v = .int .i64 0
  | 9, v, _ => v = .bool true
  | 10, v, _ => v = .bool true
  | 11, v, _ => v = .bool true
  | 12, v, _ => v = vv 2 1 0 noText
  | 13, v, _ => v = vv 2 1 0 noText
  | 14, v, _ => v = .bool true
  | 15, v, _ => v = .bool true
  | 16, v, _ => v = .bool true
  | 17, v, _ => v = .int .i64 2
  | 18, v, _ => v = .bool true
  | 19, v, _ => v = .bool true
  | 20, v, _ => v = .bool true
  | 21, v, _ => v = .int .i64 8
  | 22, v, _ => v = .bool true
  | 23, v, _ => v = .bool true
  | 24, v, _ => v = .bool true
  | 25, v, _ => v = .int .i64 5
  | 26, v, _ => v = .bool true
  | 27, v, _ => v = .bool true
  | 28, v, _ => v = .bool true
  | 29, v, _ => v = vv 1 3 0 noText
  | 30, v, _ => v = vv 2 0 0 noText
  | 31, v, _ => v = .int .i64 (-1)
  | 32, v, _ => v = .bool true
  | 33, v, _ => v = .bool true
  | 34, v, _ => v = .bool true
  | 35, v, _ => v = vv 3 0 9223372036854775808 noText
  | 36, v, _ => v = vv 3 0 0 noText
  | 37, v, _ => v = .int .i64 (-1)
  | 38, v, _ => v = .bool true
  | 39, v, _ => v = .bool true
  | 40, v, _ => v = .bool true
  | 41, v, _ => v = .string ⟨#[114, 101, 97, 108]⟩
  | 42, v, _ => v = .bool true
  | 43, v, _ => v = .bool true
  | 44, v, _ => v = .bool true
  | 45, v, _ => v = .bool true
  | 46, v, _ => v = .bool true
  | 47, v, _ => v = .bool true
  | 48, v, _ => v = .bool true
  | _, _, _ => True
theorem vawkG_st (r : Value) (g : Nat) : ∀ i9 z9 x9 y9, vawkG r g i9 z9 x9 → Ext x9 y9 → vawkG r g i9 z9 y9 := by
  intro i9 z9 x9 y9 h e
  unfold vawkG at *
  split at h <;> first | exact h | exact Bytes.ext h e
theorem vput_at (v : Value) (l : List UInt8) (k : Nat) (n : Int) (b : Nat) (t : ByteArray) (q : List UInt8 × Int) (hq : putV l k n b t = q) (w : World) (hv : Bytes w v l) (hlen : l.length ≤ 70368744177600) (hk : k ≤ 255) (hn0 : -9223372036854775808 ≤ n) (hn1 : n ≤ 9223372036854775807) (hb : b ≤ 18446744073709551615) (ht : t.size ≤ 9223372036854775807) :
    Calls Try.prog 10 #[v, vv k n b t] w (Told2 w q) := by
  obtain ⟨A, c, rfl, hc, _, hl⟩ := hv
  subst hq
  exact vput_any A l c k n b t w hl hc hlen hk hn0 hn1 hb ht
theorem vtake_is (s : ByteArray) (p : Int) (q : VZ × Int × Int) (hq : takeV s p = q) (w : World) (hs : s.size ≤ 70368744177664) (hp0 : -9223372036854775808 ≤ p) (hp1 : p ≤ 9223372036854775807) : Calls Try.prog 16 #[.string s, .int .i64 p] w (SaysV w q) := by
  subst hq
  exact vtake_any s p w hs hp0 hp1

set_option maxRecDepth 100000 in
set_option maxHeartbeats 4000000 in
theorem awake_any (w : World) : Calls Try.prog 9 #[] w (Says w (.bool true)) := by
  have HX := hid (Ext.refl w)
  go_enter Try.func9, Try.ntmps9
  go_wp2_with fail
  refine (voftext_any ⟨#[97, 98]⟩ _ (by decide)).mono ?_
  rintro e w1 ⟨rfl, hx⟩
  replace HX := hid (HX.out.trans hx)
  clear hx
  rw [va1]
  go_wp2_with fail
  refine (vput_at _ [] 4 0 0 ⟨#[97, 98]⟩ _ va2 _ (Bytes.nil _) (by decide) (by decide) (by decide) (by decide) (by decide) (by decide)).mono ?_
  rintro e w2 ⟨r, rfl, ho, hx⟩
  have HB := hid (Bytes.of_own ho)
  replace HX := hid (HX.out.trans hx)
  clear hx ho
  go_wp2_with fail
  refine (vtake_is ⟨#[2, 1]⟩ 0 _ va3 _ (by decide) (by decide) (by decide)).mono ?_
  rintro e w3 ⟨rfl, hx⟩
  rw [show (⟨2, 1, 0, noText⟩ : VZ).v = .agg #[.int .u8 2, .int .i64 1, .int .u64 0, .string ⟨#[]⟩] from rfl]
  replace HX := hid (HX.out.trans hx)
  replace HB := hid (HB.out.ext hx)
  clear hx
  go_wp2_with fail
  refine (vput_at _ [] 2 2 0 noText _ va4 _ (Bytes.nil _) (by decide) (by decide) (by decide) (by decide) (by decide) (by decide)).mono ?_
  rintro e w4 ⟨r2, rfl, ho, hx⟩
  have HG := hid (hx.block (heap_alloc_new w3 _))
  replace HB := hid (HB.out.ext ((Ext.alloc _ _).trans hx))
  replace HX := hid ((HX.out.then_alloc _).trans hx)
  clear hx ho
  go_wp2_with fail
  refine (vtake_is ⟨#[4, 25]⟩ 0 _ va5 _ (by decide) (by decide) (by decide)).mono ?_
  rintro e w5 ⟨rfl, hx⟩
  rw [show VZ.none.v = .agg #[.int .u8 0, .int .i64 0, .int .u64 0, .string ⟨#[]⟩] from rfl]
  replace HX := hid (HX.out.trans hx)
  replace HB := hid (HB.out.ext hx)
  replace HG := hid (hx.block HG.out)
  clear hx
  go_wp2_with fail
  replace HB := hid (HB.out.ext (Ext.alloc w5 (.cells #[.int .u8 0, .int .i64 0, .int .u64 0, .string ⟨#[]⟩] 31)))
  replace HG := hid ((Ext.alloc w5 (.cells #[.int .u8 0, .int .i64 0, .int .u64 0, .string ⟨#[]⟩] 31)).block HG.out)
  replace HX := hid (HX.out.then_alloc (.cells #[.int .u8 0, .int .i64 0, .int .u64 0, .string ⟨#[]⟩] 31))
  refine wp_region_slots Ext (vawkG r w3.heap.size) (by kernel_rfl) Ext.trans Ext.refl (Ext.drew _) (vawkG_st _ _) (by kernel_rfl) ?_ ?_
  · intro tmps wr hle hfr j o ho hty
    have h1 : tmps[1]?.getD undef = r := hfr 1 (by kernel_rfl)
    have h2 : tmps[2]?.getD undef = .int .i64 0 := hfr 2 (by kernel_rfl)
    have h3 : tmps[3]?.getD undef = .pointer (some ⟨w3.heap.size, 0, none⟩) := hfr 3 (by kernel_rfl)
    have h4 : tmps[4]?.getD undef = .int .i64 2 := hfr 4 (by kernel_rfl)
    have h5 : tmps[5]?.getD undef = .int .i64 0 := hfr 5 (by kernel_rfl)
    have h7 : tmps[7]?.getD undef = .int .i64 8 := hfr 7 (by kernel_rfl)
    have h10 : tmps[10]?.getD undef = .int .i64 5 := hfr 10 (by kernel_rfl)
    obtain ⟨⟨c0, c1, c2, c3⟩, _, _⟩ := box4 (hle.block HG.out)
    clear hfr
    match j, ho with
    | 0, ho =>
      obtain rfl := (Option.some.inj ho)
      clear hty ho
      refine step_pure (.int .i64 0) (wanted_free rfl) ?_ (Ext.refl _) rfl
      simp [execOp, Act.eval, h2, go_sem]
    | 1, ho =>
      have h31 : tmps[31]?.getD undef = .int .i64 0 := hty 0 31 rfl (by obtain rfl := (Option.some.inj ho); rfl)
      obtain rfl := (Option.some.inj ho)
      clear hty ho
      refine step_pure (.bool true) (wanted_free rfl) ?_ (Ext.refl _) rfl
      simp [execOp, Act.eval, h31, go_sem]
    | 2, ho =>
      have h32 : tmps[32]?.getD undef = .bool true := hty 1 32 rfl (by obtain rfl := (Option.some.inj ho); rfl)
      obtain rfl := (Option.some.inj ho)
      clear hty ho
      refine step_pure (.bool true) (wanted_free rfl) ?_ (Ext.refl _) rfl
      simp [execOp, Act.eval, h32, go_sem]
    | 3, ho =>
      have h33 : tmps[33]?.getD undef = .bool true := hty 2 33 rfl (by obtain rfl := (Option.some.inj ho); rfl)
      obtain rfl := (Option.some.inj ho)
      clear hty ho
      refine step_pure (r) (wanted_guard rfl rfl h33) ?_ (Ext.refl _) rfl
      simp [execOp, Act.eval, h1, go_sem]
    | 4, ho =>
      have h34 : tmps[34]?.getD undef = r := hty 3 34 rfl (by obtain rfl := (Option.some.inj ho); rfl)
      have h33 : tmps[33]?.getD undef = .bool true := hty 2 33 rfl (by obtain rfl := (Option.some.inj ho); rfl)
      obtain rfl := (Option.some.inj ho)
      clear hty ho
      refine step_pure (.string ⟨([4, 2, 97, 98]).toArray⟩) (wanted_guard rfl rfl h33) ?_ (Ext.refl _) rfl
      have hcv := run_string_bytes Try.underlying25 Try.underlying5 Try.underlying9 (HB.out.ext hle)
      simp [execOp, Act.eval, h34, hcv, go_sem]
    | 5, ho =>
      have h35 : tmps[35]?.getD undef = .string ⟨([4, 2, 97, 98]).toArray⟩ := hty 4 35 rfl (by obtain rfl := (Option.some.inj ho); rfl)
      have h33 : tmps[33]?.getD undef = .bool true := hty 2 33 rfl (by obtain rfl := (Option.some.inj ho); rfl)
      obtain rfl := (Option.some.inj ho)
      clear hty ho
      refine step_pure (.bool true) (wanted_guard rfl rfl h33) ?_ (Ext.refl _) rfl
      simp [execOp, Act.eval, h35, go_sem]
    | 6, ho =>
      have h33 : tmps[33]?.getD undef = .bool true := hty 2 33 rfl (by obtain rfl := (Option.some.inj ho); rfl)
      have h36 : tmps[36]?.getD undef = .bool true := hty 5 36 rfl (by obtain rfl := (Option.some.inj ho); rfl)
      obtain rfl := (Option.some.inj ho)
      clear hty ho
      refine step_pure (.bool true) (wanted_free rfl) ?_ (Ext.refl _) rfl
      simp [execOp, Act.eval, h33, h36, go_sem]
    | 7, ho =>
      have h37 : tmps[37]?.getD undef = .bool true := hty 6 37 rfl (by obtain rfl := (Option.some.inj ho); rfl)
      obtain rfl := (Option.some.inj ho)
      clear hty ho
      refine step_pure (.bool true) (wanted_free rfl) ?_ (Ext.refl _) rfl
      simp [execOp, Act.eval, h37, go_sem]
    | 8, ho =>
      have h38 : tmps[38]?.getD undef = .bool true := hty 7 38 rfl (by obtain rfl := (Option.some.inj ho); rfl)
      obtain rfl := (Option.some.inj ho)
      clear hty ho
      refine step_pure (.int .i64 0) (wanted_guard rfl rfl h38) ?_ (Ext.refl _) rfl
      simp [execOp, Act.eval, h5, go_sem]
    | 9, ho =>
      have h39 : tmps[39]?.getD undef = .int .i64 0 := hty 8 39 rfl (by obtain rfl := (Option.some.inj ho); rfl)
      have h38 : tmps[38]?.getD undef = .bool true := hty 7 38 rfl (by obtain rfl := (Option.some.inj ho); rfl)
      obtain rfl := (Option.some.inj ho)
      clear hty ho
      refine step_pure (.bool true) (wanted_guard rfl rfl h38) ?_ (Ext.refl _) rfl
      simp [execOp, Act.eval, h39, go_sem]
    | 10, ho =>
      have h38 : tmps[38]?.getD undef = .bool true := hty 7 38 rfl (by obtain rfl := (Option.some.inj ho); rfl)
      have h40 : tmps[40]?.getD undef = .bool true := hty 9 40 rfl (by obtain rfl := (Option.some.inj ho); rfl)
      obtain rfl := (Option.some.inj ho)
      clear hty ho
      refine step_pure (.bool true) (wanted_free rfl) ?_ (Ext.refl _) rfl
      simp [execOp, Act.eval, h38, h40, go_sem]
    | 11, ho =>
      have h41 : tmps[41]?.getD undef = .bool true := hty 10 41 rfl (by obtain rfl := (Option.some.inj ho); rfl)
      obtain rfl := (Option.some.inj ho)
      clear hty ho
      refine step_pure (.bool true) (wanted_free rfl) ?_ (Ext.refl _) rfl
      simp [execOp, Act.eval, h41, go_sem]
    | 12, ho =>
      have h42 : tmps[42]?.getD undef = .bool true := hty 11 42 rfl (by obtain rfl := (Option.some.inj ho); rfl)
      obtain rfl := (Option.some.inj ho)
      clear hty ho
      refine step_pure (vv 2 1 0 noText) (wanted_guard rfl rfl h42) ?_ (Ext.refl _) rfl
      simp [execOp, Act.eval, h3, c0, c1, c2, c3, vv, noText, go_sem]
    | 13, ho =>
      have h42 : tmps[42]?.getD undef = .bool true := hty 11 42 rfl (by obtain rfl := (Option.some.inj ho); rfl)
      obtain rfl := (Option.some.inj ho)
      clear hty ho
      refine step_call 19 #[.bool true] (wanted_guard rfl rfl h42) ?_ ?_
      · simp [execOp, Act.eval, go_sem]
      · exact (vofflag_any true _).mono fun e w' ⟨h1, h2⟩ => ⟨_, h1, h2, rfl⟩
    | 14, ho =>
      have h43 : tmps[43]?.getD undef = vv 2 1 0 noText := hty 12 43 rfl (by obtain rfl := (Option.some.inj ho); rfl)
      have h44 : tmps[44]?.getD undef = vv 2 1 0 noText := hty 13 44 rfl (by obtain rfl := (Option.some.inj ho); rfl)
      have h42 : tmps[42]?.getD undef = .bool true := hty 11 42 rfl (by obtain rfl := (Option.some.inj ho); rfl)
      obtain rfl := (Option.some.inj ho)
      clear hty ho
      refine step_pure (.bool true) (wanted_guard rfl rfl h42) ?_ (Ext.refl _) rfl
      simp [execOp, Act.eval, h43, h44, run_eq_val, run_guard_val, eqV_self, go_sem]
    | 15, ho =>
      have h42 : tmps[42]?.getD undef = .bool true := hty 11 42 rfl (by obtain rfl := (Option.some.inj ho); rfl)
      have h45 : tmps[45]?.getD undef = .bool true := hty 14 45 rfl (by obtain rfl := (Option.some.inj ho); rfl)
      obtain rfl := (Option.some.inj ho)
      clear hty ho
      refine step_pure (.bool true) (wanted_free rfl) ?_ (Ext.refl _) rfl
      simp [execOp, Act.eval, h42, h45, go_sem]
    | 16, ho =>
      have h46 : tmps[46]?.getD undef = .bool true := hty 15 46 rfl (by obtain rfl := (Option.some.inj ho); rfl)
      obtain rfl := (Option.some.inj ho)
      clear hty ho
      refine step_pure (.bool true) (wanted_free rfl) ?_ (Ext.refl _) rfl
      simp [execOp, Act.eval, h46, go_sem]
    | 17, ho =>
      have h47 : tmps[47]?.getD undef = .bool true := hty 16 47 rfl (by obtain rfl := (Option.some.inj ho); rfl)
      obtain rfl := (Option.some.inj ho)
      clear hty ho
      refine step_pure (.int .i64 2) (wanted_guard rfl rfl h47) ?_ (Ext.refl _) rfl
      simp [execOp, Act.eval, h4, go_sem]
    | 18, ho =>
      have h48 : tmps[48]?.getD undef = .int .i64 2 := hty 17 48 rfl (by obtain rfl := (Option.some.inj ho); rfl)
      have h47 : tmps[47]?.getD undef = .bool true := hty 16 47 rfl (by obtain rfl := (Option.some.inj ho); rfl)
      obtain rfl := (Option.some.inj ho)
      clear hty ho
      refine step_pure (.bool true) (wanted_guard rfl rfl h47) ?_ (Ext.refl _) rfl
      simp [execOp, Act.eval, h48, go_sem]
    | 19, ho =>
      have h47 : tmps[47]?.getD undef = .bool true := hty 16 47 rfl (by obtain rfl := (Option.some.inj ho); rfl)
      have h49 : tmps[49]?.getD undef = .bool true := hty 18 49 rfl (by obtain rfl := (Option.some.inj ho); rfl)
      obtain rfl := (Option.some.inj ho)
      clear hty ho
      refine step_pure (.bool true) (wanted_free rfl) ?_ (Ext.refl _) rfl
      simp [execOp, Act.eval, h47, h49, go_sem]
    | 20, ho =>
      have h50 : tmps[50]?.getD undef = .bool true := hty 19 50 rfl (by obtain rfl := (Option.some.inj ho); rfl)
      obtain rfl := (Option.some.inj ho)
      clear hty ho
      refine step_pure (.bool true) (wanted_free rfl) ?_ (Ext.refl _) rfl
      simp [execOp, Act.eval, h50, go_sem]
    | 21, ho =>
      have h51 : tmps[51]?.getD undef = .bool true := hty 20 51 rfl (by obtain rfl := (Option.some.inj ho); rfl)
      obtain rfl := (Option.some.inj ho)
      clear hty ho
      refine step_pure (.int .i64 8) (wanted_guard rfl rfl h51) ?_ (Ext.refl _) rfl
      simp [execOp, Act.eval, h7, go_sem]
    | 22, ho =>
      have h52 : tmps[52]?.getD undef = .int .i64 8 := hty 21 52 rfl (by obtain rfl := (Option.some.inj ho); rfl)
      have h51 : tmps[51]?.getD undef = .bool true := hty 20 51 rfl (by obtain rfl := (Option.some.inj ho); rfl)
      obtain rfl := (Option.some.inj ho)
      clear hty ho
      refine step_pure (.bool true) (wanted_guard rfl rfl h51) ?_ (Ext.refl _) rfl
      simp [execOp, Act.eval, h52, go_sem]
    | 23, ho =>
      have h51 : tmps[51]?.getD undef = .bool true := hty 20 51 rfl (by obtain rfl := (Option.some.inj ho); rfl)
      have h53 : tmps[53]?.getD undef = .bool true := hty 22 53 rfl (by obtain rfl := (Option.some.inj ho); rfl)
      obtain rfl := (Option.some.inj ho)
      clear hty ho
      refine step_pure (.bool true) (wanted_free rfl) ?_ (Ext.refl _) rfl
      simp [execOp, Act.eval, h51, h53, go_sem]
    | 24, ho =>
      have h54 : tmps[54]?.getD undef = .bool true := hty 23 54 rfl (by obtain rfl := (Option.some.inj ho); rfl)
      obtain rfl := (Option.some.inj ho)
      clear hty ho
      refine step_pure (.bool true) (wanted_free rfl) ?_ (Ext.refl _) rfl
      simp [execOp, Act.eval, h54, go_sem]
    | 25, ho =>
      have h55 : tmps[55]?.getD undef = .bool true := hty 24 55 rfl (by obtain rfl := (Option.some.inj ho); rfl)
      obtain rfl := (Option.some.inj ho)
      clear hty ho
      refine step_pure (.int .i64 5) (wanted_guard rfl rfl h55) ?_ (Ext.refl _) rfl
      simp [execOp, Act.eval, h10, go_sem]
    | 26, ho =>
      have h56 : tmps[56]?.getD undef = .int .i64 5 := hty 25 56 rfl (by obtain rfl := (Option.some.inj ho); rfl)
      have h55 : tmps[55]?.getD undef = .bool true := hty 24 55 rfl (by obtain rfl := (Option.some.inj ho); rfl)
      obtain rfl := (Option.some.inj ho)
      clear hty ho
      refine step_pure (.bool true) (wanted_guard rfl rfl h55) ?_ (Ext.refl _) rfl
      simp [execOp, Act.eval, h56, go_sem]
    | 27, ho =>
      have h55 : tmps[55]?.getD undef = .bool true := hty 24 55 rfl (by obtain rfl := (Option.some.inj ho); rfl)
      have h57 : tmps[57]?.getD undef = .bool true := hty 26 57 rfl (by obtain rfl := (Option.some.inj ho); rfl)
      obtain rfl := (Option.some.inj ho)
      clear hty ho
      refine step_pure (.bool true) (wanted_free rfl) ?_ (Ext.refl _) rfl
      simp [execOp, Act.eval, h55, h57, go_sem]
    | 28, ho =>
      have h58 : tmps[58]?.getD undef = .bool true := hty 27 58 rfl (by obtain rfl := (Option.some.inj ho); rfl)
      obtain rfl := (Option.some.inj ho)
      clear hty ho
      refine step_pure (.bool true) (wanted_free rfl) ?_ (Ext.refl _) rfl
      simp [execOp, Act.eval, h58, go_sem]
    | 29, ho =>
      have h59 : tmps[59]?.getD undef = .bool true := hty 28 59 rfl (by obtain rfl := (Option.some.inj ho); rfl)
      obtain rfl := (Option.some.inj ho)
      clear hty ho
      refine step_call 18 #[.int .i64 3] (wanted_guard rfl rfl h59) ?_ ?_
      · simp [execOp, Act.eval, go_sem]
      · exact (vofint_any 3 _ (by decide) (by decide)).mono fun e w' ⟨h1, h2⟩ => ⟨_, h1, h2, rfl⟩
    | 30, ho =>
      have h59 : tmps[59]?.getD undef = .bool true := hty 28 59 rfl (by obtain rfl := (Option.some.inj ho); rfl)
      obtain rfl := (Option.some.inj ho)
      clear hty ho
      refine step_call 19 #[.bool false] (wanted_guard rfl rfl h59) ?_ ?_
      · simp [execOp, Act.eval, go_sem]
      · exact (vofflag_any false _).mono fun e w' ⟨h1, h2⟩ => ⟨_, h1, h2, rfl⟩
    | 31, ho =>
      have h60 : tmps[60]?.getD undef = vv 1 3 0 noText := hty 29 60 rfl (by obtain rfl := (Option.some.inj ho); rfl)
      have h61 : tmps[61]?.getD undef = vv 2 0 0 noText := hty 30 61 rfl (by obtain rfl := (Option.some.inj ho); rfl)
      have h59 : tmps[59]?.getD undef = .bool true := hty 28 59 rfl (by obtain rfl := (Option.some.inj ho); rfl)
      obtain rfl := (Option.some.inj ho)
      clear hty ho
      refine step_call 14 #[vv 1 3 0 noText, vv 2 0 0 noText] (wanted_guard rfl rfl h59) ?_ ?_
      · simp [execOp, Act.eval, h60, h61, go_sem]
      · exact (vrank_any 1 3 0 noText 2 0 0 noText _ (by decide) (by decide) (by decide) (by decide) (by decide) (by decide) (by decide) (by decide) (by decide) (by decide)).mono fun e w' ⟨h1, h2⟩ => ⟨_, h1, h2, by rw [va6]; rfl⟩
    | 32, ho =>
      have h62 : tmps[62]?.getD undef = .int .i64 (-1) := hty 31 62 rfl (by obtain rfl := (Option.some.inj ho); rfl)
      have h59 : tmps[59]?.getD undef = .bool true := hty 28 59 rfl (by obtain rfl := (Option.some.inj ho); rfl)
      obtain rfl := (Option.some.inj ho)
      clear hty ho
      refine step_pure (.bool true) (wanted_guard rfl rfl h59) ?_ (Ext.refl _) rfl
      simp [execOp, Act.eval, h62, go_sem]
    | 33, ho =>
      have h59 : tmps[59]?.getD undef = .bool true := hty 28 59 rfl (by obtain rfl := (Option.some.inj ho); rfl)
      have h63 : tmps[63]?.getD undef = .bool true := hty 32 63 rfl (by obtain rfl := (Option.some.inj ho); rfl)
      obtain rfl := (Option.some.inj ho)
      clear hty ho
      refine step_pure (.bool true) (wanted_free rfl) ?_ (Ext.refl _) rfl
      simp [execOp, Act.eval, h59, h63, go_sem]
    | 34, ho =>
      have h64 : tmps[64]?.getD undef = .bool true := hty 33 64 rfl (by obtain rfl := (Option.some.inj ho); rfl)
      obtain rfl := (Option.some.inj ho)
      clear hty ho
      refine step_pure (.bool true) (wanted_free rfl) ?_ (Ext.refl _) rfl
      simp [execOp, Act.eval, h64, go_sem]
    | 35, ho =>
      have h65 : tmps[65]?.getD undef = .bool true := hty 34 65 rfl (by obtain rfl := (Option.some.inj ho); rfl)
      obtain rfl := (Option.some.inj ho)
      clear hty ho
      refine step_call 20 #[.int .u64 9223372036854775808] (wanted_guard rfl rfl h65) ?_ ?_
      · simp [execOp, Act.eval, go_sem]
      · exact (vofreal_any 9223372036854775808 _ (by decide)).mono fun e w' ⟨h1, h2⟩ => ⟨_, h1, h2, by unfold ofRealV VZ.v; rw [va7]; rfl⟩
    | 36, ho =>
      have h65 : tmps[65]?.getD undef = .bool true := hty 34 65 rfl (by obtain rfl := (Option.some.inj ho); rfl)
      obtain rfl := (Option.some.inj ho)
      clear hty ho
      refine step_call 20 #[.int .u64 0] (wanted_guard rfl rfl h65) ?_ ?_
      · simp [execOp, Act.eval, go_sem]
      · exact (vofreal_any 0 _ (by decide)).mono fun e w' ⟨h1, h2⟩ => ⟨_, h1, h2, by unfold ofRealV VZ.v; rw [va8]; rfl⟩
    | 37, ho =>
      have h66 : tmps[66]?.getD undef = vv 3 0 9223372036854775808 noText := hty 35 66 rfl (by obtain rfl := (Option.some.inj ho); rfl)
      have h67 : tmps[67]?.getD undef = vv 3 0 0 noText := hty 36 67 rfl (by obtain rfl := (Option.some.inj ho); rfl)
      have h65 : tmps[65]?.getD undef = .bool true := hty 34 65 rfl (by obtain rfl := (Option.some.inj ho); rfl)
      obtain rfl := (Option.some.inj ho)
      clear hty ho
      refine step_call 14 #[vv 3 0 9223372036854775808 noText, vv 3 0 0 noText] (wanted_guard rfl rfl h65) ?_ ?_
      · simp [execOp, Act.eval, h66, h67, go_sem]
      · exact (vrank_any 3 0 9223372036854775808 noText 3 0 0 noText _ (by decide) (by decide) (by decide) (by decide) (by decide) (by decide) (by decide) (by decide) (by decide) (by decide)).mono fun e w' ⟨h1, h2⟩ => ⟨_, h1, h2, by rw [va9]; rfl⟩
    | 38, ho =>
      have h68 : tmps[68]?.getD undef = .int .i64 (-1) := hty 37 68 rfl (by obtain rfl := (Option.some.inj ho); rfl)
      have h65 : tmps[65]?.getD undef = .bool true := hty 34 65 rfl (by obtain rfl := (Option.some.inj ho); rfl)
      obtain rfl := (Option.some.inj ho)
      clear hty ho
      refine step_pure (.bool true) (wanted_guard rfl rfl h65) ?_ (Ext.refl _) rfl
      simp [execOp, Act.eval, h68, go_sem]
    | 39, ho =>
      have h65 : tmps[65]?.getD undef = .bool true := hty 34 65 rfl (by obtain rfl := (Option.some.inj ho); rfl)
      have h69 : tmps[69]?.getD undef = .bool true := hty 38 69 rfl (by obtain rfl := (Option.some.inj ho); rfl)
      obtain rfl := (Option.some.inj ho)
      clear hty ho
      refine step_pure (.bool true) (wanted_free rfl) ?_ (Ext.refl _) rfl
      simp [execOp, Act.eval, h65, h69, go_sem]
    | 40, ho =>
      have h70 : tmps[70]?.getD undef = .bool true := hty 39 70 rfl (by obtain rfl := (Option.some.inj ho); rfl)
      obtain rfl := (Option.some.inj ho)
      clear hty ho
      refine step_pure (.bool true) (wanted_free rfl) ?_ (Ext.refl _) rfl
      simp [execOp, Act.eval, h70, go_sem]
    | 41, ho =>
      have h71 : tmps[71]?.getD undef = .bool true := hty 40 71 rfl (by obtain rfl := (Option.some.inj ho); rfl)
      obtain rfl := (Option.some.inj ho)
      clear hty ho
      refine step_call 26 #[.int .u8 3] (wanted_guard rfl rfl h71) ?_ ?_
      · simp [execOp, Act.eval, go_sem]
      · exact (vword_any 3 _ (by decide)).mono fun e w' ⟨h1, h2⟩ => ⟨_, h1, h2, rfl⟩
    | 42, ho =>
      have h72 : tmps[72]?.getD undef = .string ⟨#[114, 101, 97, 108]⟩ := hty 41 72 rfl (by obtain rfl := (Option.some.inj ho); rfl)
      have h71 : tmps[71]?.getD undef = .bool true := hty 40 71 rfl (by obtain rfl := (Option.some.inj ho); rfl)
      obtain rfl := (Option.some.inj ho)
      clear hty ho
      refine step_pure (.bool true) (wanted_guard rfl rfl h71) ?_ (Ext.refl _) rfl
      simp [execOp, Act.eval, h72, go_sem]
    | 43, ho =>
      have h71 : tmps[71]?.getD undef = .bool true := hty 40 71 rfl (by obtain rfl := (Option.some.inj ho); rfl)
      have h73 : tmps[73]?.getD undef = .bool true := hty 42 73 rfl (by obtain rfl := (Option.some.inj ho); rfl)
      obtain rfl := (Option.some.inj ho)
      clear hty ho
      refine step_pure (.bool true) (wanted_free rfl) ?_ (Ext.refl _) rfl
      simp [execOp, Act.eval, h71, h73, go_sem]
    | 44, ho =>
      have h74 : tmps[74]?.getD undef = .bool true := hty 43 74 rfl (by obtain rfl := (Option.some.inj ho); rfl)
      obtain rfl := (Option.some.inj ho)
      clear hty ho
      refine step_pure (.bool true) (wanted_free rfl) ?_ (Ext.refl _) rfl
      simp [execOp, Act.eval, h74, go_sem]
    | 45, ho =>
      have h75 : tmps[75]?.getD undef = .bool true := hty 44 75 rfl (by obtain rfl := (Option.some.inj ho); rfl)
      obtain rfl := (Option.some.inj ho)
      clear hty ho
      refine step_pure (.bool true) (wanted_free rfl) ?_ (Ext.refl _) rfl
      simp [execOp, Act.eval, h75, go_sem]
    | 46, ho =>
      have h76 : tmps[76]?.getD undef = .bool true := hty 45 76 rfl (by obtain rfl := (Option.some.inj ho); rfl)
      obtain rfl := (Option.some.inj ho)
      clear hty ho
      refine step_pure (.bool true) (wanted_free rfl) ?_ (Ext.refl _) rfl
      simp [execOp, Act.eval, h76, go_sem]
    | 47, ho =>
      have h77 : tmps[77]?.getD undef = .bool true := hty 46 77 rfl (by obtain rfl := (Option.some.inj ho); rfl)
      obtain rfl := (Option.some.inj ho)
      clear hty ho
      refine step_pure (.bool true) (wanted_free rfl) ?_ (Ext.refl _) rfl
      simp [execOp, Act.eval, h77, go_sem]
    | 48, ho =>
      have h78 : tmps[78]?.getD undef = .bool true := hty 47 78 rfl (by obtain rfl := (Option.some.inj ho); rfl)
      obtain rfl := (Option.some.inj ho)
      clear hty ho
      refine step_pure (.bool true) (wanted_free rfl) ?_ (Ext.refl _) rfl
      simp [execOp, Act.eval, h78, go_sem]
    | (j + 49), ho => exact absurd ho (by simp)

  · intro tmps w6 hle hs hfr hty
    have h0 : tmps[0]?.getD undef = .bool true := hty 48 0 rfl
    have hfe := frame_eq [31, 32, 33, 34, 35, 36, 37, 38, 39, 40, 41, 42, 43, 44, 45, 46, 47, 48, 49, 50, 51, 52, 53, 54, 55, 56, 57, 58, 59, 60, 61, 62, 63, 64, 65, 66, 67, 68, 69, 70, 71, 72, 73, 74, 75, 76, 77, 78, 0] hs hfr (by kernel_rfl)
    rw [hfe]
    clear hfe hfr hs hty
    simp only [List.foldl_cons, List.foldl_nil]
    generalize tmps[31]?.getD undef = x31
    generalize tmps[32]?.getD undef = x32
    generalize tmps[33]?.getD undef = x33
    generalize tmps[34]?.getD undef = x34
    generalize tmps[35]?.getD undef = x35
    generalize tmps[36]?.getD undef = x36
    generalize tmps[37]?.getD undef = x37
    generalize tmps[38]?.getD undef = x38
    generalize tmps[39]?.getD undef = x39
    generalize tmps[40]?.getD undef = x40
    generalize tmps[41]?.getD undef = x41
    generalize tmps[42]?.getD undef = x42
    generalize tmps[43]?.getD undef = x43
    generalize tmps[44]?.getD undef = x44
    generalize tmps[45]?.getD undef = x45
    generalize tmps[46]?.getD undef = x46
    generalize tmps[47]?.getD undef = x47
    generalize tmps[48]?.getD undef = x48
    generalize tmps[49]?.getD undef = x49
    generalize tmps[50]?.getD undef = x50
    generalize tmps[51]?.getD undef = x51
    generalize tmps[52]?.getD undef = x52
    generalize tmps[53]?.getD undef = x53
    generalize tmps[54]?.getD undef = x54
    generalize tmps[55]?.getD undef = x55
    generalize tmps[56]?.getD undef = x56
    generalize tmps[57]?.getD undef = x57
    generalize tmps[58]?.getD undef = x58
    generalize tmps[59]?.getD undef = x59
    generalize tmps[60]?.getD undef = x60
    generalize tmps[61]?.getD undef = x61
    generalize tmps[62]?.getD undef = x62
    generalize tmps[63]?.getD undef = x63
    generalize tmps[64]?.getD undef = x64
    generalize tmps[65]?.getD undef = x65
    generalize tmps[66]?.getD undef = x66
    generalize tmps[67]?.getD undef = x67
    generalize tmps[68]?.getD undef = x68
    generalize tmps[69]?.getD undef = x69
    generalize tmps[70]?.getD undef = x70
    generalize tmps[71]?.getD undef = x71
    generalize tmps[72]?.getD undef = x72
    generalize tmps[73]?.getD undef = x73
    generalize tmps[74]?.getD undef = x74
    generalize tmps[75]?.getD undef = x75
    generalize tmps[76]?.getD undef = x76
    generalize tmps[77]?.getD undef = x77
    generalize tmps[78]?.getD undef = x78
    rw [h0]
    clear h0
    simp only [List.setIfInBounds_toArray, List.set_cons_succ, List.set_cons_zero]
    replace HX := hid (HX.out.trans hle)
    clear hle
    go_wp2_with fail
    go_ret
    exact ⟨rfl, HX.out⟩
end Go.Proofs.Ytkblpbpmaoofgaa
