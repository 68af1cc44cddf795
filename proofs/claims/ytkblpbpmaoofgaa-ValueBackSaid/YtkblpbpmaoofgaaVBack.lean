/- ValueBack: the walk. -/
import Derived.Test.YtkblpbpmaoofgaaVSmall
import Derived.Test.YtkblpbpmaoofgaaVBackM
namespace Go.Proofs.Ytkblpbpmaoofgaa
open Go Go.RowKit

/-- what the slots of the region hold -/
def vbackG (s : ByteArray) (M : Nat) (r10 : Value) (Tk : List UInt8) : Nat → Value → World → Prop
  | 0, v, _ => v = .int .i64 0
  | 1, v, _ => v = .bool false
  | 2, v, _ => v = .bool false
  | 3, v, _ => v = .int .i64 (M : Int)
  | 4, v, _ => v = .bool false
  | 5, v, _ => v = .bool false
  | 6, v, _ => v = .bool false
  | 7, v, _ => v = .int .i64 (M : Int)
  | 8, v, _ => v = .string s
  | 9, v, _ => v = .int .i64 (s.size : Int)
  | 10, v, _ => v = .bool false
  | 11, v, _ => v = .bool false
  | 12, v, _ => v = .bool false
  | 13, v, _ => v = r10
  | 14, v, _ => v = .string ⟨(Tk).toArray⟩
  | 15, v, _ => v = .string s
  | 16, v, _ => v = .int .i64 (M : Int)
  | 17, v, _ => v = .string (s.extract 0 M)
  | 18, v, _ => v = .bool false
  | 19, v, _ => v = .bool false
  | _, _, _ => True
theorem vbackG_st (s : ByteArray) (M : Nat) (r10 : Value) (Tk : List UInt8) : ∀ i9 z9 x9 y9, vbackG s M r10 Tk i9 z9 x9 → Ext x9 y9 → vbackG s M r10 Tk i9 z9 y9 := by
  intro i9 z9 x9 y9 h e
  unfold vbackG at *
  split at h <;> first | exact h | exact Bytes.ext h e
/-- what holds of two values that may be -/
def BackQ (k : Nat) (n : Int) (b : Nat) (t : ByteArray) (l : Nat) (m : Int) (c : Nat) (u : ByteArray) (s : ByteArray) (P1 P2 : List UInt8) (S : Bool) (R : Int) : Prop :=
  (∀ W, Calls Try.prog 16 #[.string (⟨P1.toArray⟩ ++ s), .int .i64 0] W fun e w' => e = .returned (.tuple #[.agg #[.int .u8 (k : Int), .int .i64 n, .int .u64 (b : Int), .string t], .int .i64 (P1.length : Int), .int .i64 0]) ∧ Ext W w') ∧
  (∀ W, (binOp .eql 24 (.agg #[.int .u8 (k : Int), .int .i64 n, .int .u64 (b : Int), .string t]) (.agg #[.int .u8 (l : Int), .int .i64 m, .int .u64 (c : Int), .string u])).run Try.prog W = .ok (.bool S) W) ∧
  (∀ x y W, (eqGuard .eql 24 x y (.agg #[.int .u8 (k : Int), .int .i64 n, .int .u64 (b : Int), .string t]) (.agg #[.int .u8 (l : Int), .int .i64 m, .int .u64 (c : Int), .string u])).run Try.prog W = .ok () W) ∧
  (∀ W, Calls Try.prog 14 #[.agg #[.int .u8 (k : Int), .int .i64 n, .int .u64 (b : Int), .string t], .agg #[.int .u8 (l : Int), .int .i64 m, .int .u64 (c : Int), .string u]] W (Says W (.int .i64 R))) ∧
  ((P1 == P2) = S) ∧ ((R == 0) = S) ∧ (P1.length : Int) ≤ 1000

set_option maxRecDepth 100000 in
set_option maxHeartbeats 4000000 in
theorem vback_any (k : Nat) (n : Int) (b : Nat) (t : ByteArray) (l : Nat) (m : Int) (c : Nat) (u : ByteArray) (s : ByteArray) (w : World)
    (hk : k ≤ 255) (hkl : l ≤ 255) (hn0 : -9223372036854775808 ≤ n) (hn1 : n ≤ 9223372036854775807) (hm0 : -9223372036854775808 ≤ m) (hm1 : m ≤ 9223372036854775807) (hb : b ≤ 18446744073709551615) (hc : c ≤ 18446744073709551615) (ht : t.size ≤ 9223372036854775807) (hu : u.size ≤ 9223372036854775807) (hs : s.size ≤ 9223372036854775807) :
    Calls Try.prog 6 #[.agg #[.int .u8 (k : Int), .int .i64 n, .int .u64 (b : Int), .string t], .agg #[.int .u8 (l : Int), .int .i64 m, .int .u64 (c : Int), .string u], .string s] w (Says w (.bool true)) := by
  have s1 := fun W => small_any k n b t W ht
  have s2 := fun W => small_any l m c u W hu
  go_enter Try.func6, Try.ntmps6
  go_wp2_with fail
  refine (s1 _).mono ?_
  rintro e w1 ⟨rfl, hx⟩
  have HV := hid (hx.block (heap_alloc2_old w _ _))
  have HW := hid (hx.block (heap_alloc2_new w _ _))
  have HX := hid (((Ext.alloc w _).then_alloc _).trans hx)
  clear hx
  obtain ⟨⟨a0, a1, a2, a3⟩, _, _⟩ := box4 HV.out
  obtain ⟨⟨b0, b1, b2, b3⟩, _, _⟩ := box4 HW.out
  by_cases h1 : 100 < t.size
  · have h1' : 0 < max 0 ((t.size : Int) - 100) := by omega
    generalize max 0 ((t.size : Int) - 100) = S1 at *
    go_wp2_with fail
    refine (awake_any _).mono ?_
    rintro e w9 ⟨rfl, hx⟩
    go_wp2_with fail
    go_ret
    exact ⟨rfl, HX.out.trans hx⟩
  · have h1' : max 0 ((t.size : Int) - 100) = 0 := by omega
    rw [h1'] at *
    go_wp2_with fail
    refine (s2 _).mono ?_
    rintro e w2 ⟨rfl, hx⟩
    replace HV := hid (hx.block HV.out)
    replace HW := hid (hx.block HW.out)
    replace HX := hid (HX.out.trans hx)
    clear hx a0 a1 a2 a3 b0 b1 b2 b3
    obtain ⟨⟨a0, a1, a2, a3⟩, _, _⟩ := box4 HV.out
    obtain ⟨⟨b0, b1, b2, b3⟩, _, _⟩ := box4 HW.out
    by_cases h2 : 100 < u.size
    · have h2' : 0 < max 0 ((u.size : Int) - 100) := by omega
      generalize max 0 ((u.size : Int) - 100) = S2 at *
      go_wp2_with fail
      refine (awake_any _).mono ?_
      rintro e w9 ⟨rfl, hx⟩
      go_wp2_with fail
      go_ret
      exact ⟨rfl, HX.out.trans hx⟩
    · have h2' : max 0 ((u.size : Int) - 100) = 0 := by omega
      rw [h2'] at *
      by_cases h3 : 100 < s.size
      · have h3' : (100 : Int) < (s.size : Int) := by omega
        go_wp2_with fail
        refine (awake_any _).mono ?_
        rintro e w9 ⟨rfl, hx⟩
        go_wp2_with fail
        go_ret
        exact ⟨rfl, HX.out.trans hx⟩
      · have h3' : (s.size : Int) ≤ 100 := by omega
        obtain ⟨q, hq⟩ : ∃ q, takeV s 0 = q := ⟨_, rfl⟩
        have kt := fun W => vtake_any s 0 W (by omega) (by decide) (by decide)
        rw [hq] at kt
        obtain ⟨⟨kx, nx, bx, tx⟩, mx, E⟩ := q
        replace kt : ∀ W, Calls Try.prog 16 #[.string s, .int .i64 0] W fun e w' => e = .returned (.tuple #[.agg #[.int .u8 (kx : Int), .int .i64 nx, .int .u64 (bx : Int), .string tx], .int .i64 mx, .int .i64 E]) ∧ Ext W w' := kt
        obtain ⟨pv, hpv⟩ : ∃ q, putV [] k n b t = q := ⟨_, rfl⟩
        obtain ⟨P1, E1⟩ := pv
        obtain ⟨pw, hpw⟩ : ∃ q, putV [] l m c u = q := ⟨_, rfl⟩
        obtain ⟨P2, E2⟩ := pw
        have kpv : ∀ W, Calls Try.prog 10 #[.slice none 0 0, .agg #[.int .u8 (k : Int), .int .i64 n, .int .u64 (b : Int), .string t]] W (fun e w' => ∃ r, e = .returned (.tuple #[r, .int .i64 E1]) ∧ Bytes w' r P1 ∧ Ext W w') := fun W =>
          (vput_at _ [] k n b t _ hpv W (Bytes.nil _) (by decide) hk hn0 hn1 hb ht).mono fun e w' ⟨r, h1, h2, h3⟩ => ⟨r, h1, Bytes.of_own h2, h3⟩
        have kpw : ∀ W, Calls Try.prog 10 #[.slice none 0 0, .agg #[.int .u8 (l : Int), .int .i64 m, .int .u64 (c : Int), .string u]] W (fun e w' => ∃ r, e = .returned (.tuple #[r, .int .i64 E2]) ∧ Bytes w' r P2 ∧ Ext W w') := fun W =>
          (vput_at _ [] l m c u _ hpw W (Bytes.nil _) (by decide) hkl hm0 hm1 hc hu).mono fun e w' ⟨r, h1, h2, h3⟩ => ⟨r, h1, Bytes.of_own h2, h3⟩
        obtain ⟨S, hS⟩ : ∃ S, eqV k n b t l m c u = S := ⟨_, rfl⟩
        obtain ⟨R, hR⟩ : ∃ R, rankV k n b t l m c u = R := ⟨_, rfl⟩
        have HQ : Hid (E1 = 0 → E2 = 0 → BackQ k n b t l m c u s P1 P2 S R) := hid (by
          intro e1 e2
          subst e1
          subst e2
          obtain ⟨c1, rfl⟩ := put_ok hpv
          obtain ⟨c2, rfl⟩ := put_ok hpw
          have hlen := bytes_len c1
          have hxs : (⟨(bytesV k n b t).toArray⟩ ++ s : ByteArray).data.toList = bytesV k n b t ++ s.data.toList := by simp
          have hxz : (⟨(bytesV k n b t).toArray⟩ ++ s : ByteArray).size = (bytesV k n b t).length + s.size := by
            have h := size_ba' _ _ hxs
            rw [h, List.length_append, size_toList]
          have htk := bytes_take c1 hb (⟨(bytesV k n b t).toArray⟩ ++ s) s.data.toList hxs
          refine ⟨fun W => ?_, fun W => ?_, fun x y W => run_guard_ref .eql x y k n b t l m c u W, fun W => ?_, ?_, ?_, by omega⟩
          · have h := vtake_any (⟨(bytesV k n b t).toArray⟩ ++ s) 0 W (by rw [hxz]; omega) (by decide) (by decide)
            rw [htk] at h
            exact h
          · have h := run_eq_ref k n b t l m c u W
            rw [hS] at h
            exact h
          · have h := vrank_any k n b t l m c u W hk hkl hn0 hn1 hm0 hm1 hb hc ht hu
            rw [hR] at h
            exact h
          · rw [← hS]
            unfold eqV
            rw [Bool.eq_iff_iff, beq_iff_eq, decide_eq_true_iff]
            exact ⟨bytes_same c1 c2 hb hc, by rintro ⟨rfl, rfl, rfl, rfl⟩; rfl⟩
          · rw [← hS, ← hR]
            unfold eqV
            rw [Bool.eq_iff_iff, beq_iff_eq, decide_eq_true_iff]
            exact rank_same c1 c2 hb hc)
        clear hpv hpw hS hR s1 s2 h1 h2 h3 h1' h2'
        go_wp2_with fail
        refine (kt _).mono ?_
        rintro e w3 ⟨rfl, hx⟩
        replace HV := hid (hx.block HV.out)
        replace HW := hid (hx.block HW.out)
        replace HX := hid (HX.out.trans hx)
        clear hx a0 a1 a2 a3 b0 b1 b2 b3 kt
        by_cases hE : E = 0
        · subst hE
          obtain ⟨M, rfl, hM, hcM, hbM, hkx, hna, hnb, hbx, htx⟩ := take_bytes s hq
          have kpx : ∀ W, Calls Try.prog 10 #[.slice none 0 0, .agg #[.int .u8 (kx : Int), .int .i64 nx, .int .u64 (bx : Int), .string tx]] W (fun e w' => ∃ r, e = .returned (.tuple #[r, .int .i64 0]) ∧ Bytes w' r (s.data.toList.take M) ∧ Ext W w') := fun W => by
            have hpx : putV [] kx nx bx tx = (s.data.toList.take M, 0) := by
              unfold putV
              rw [if_pos hcM, List.nil_append, hbM]
            exact (vput_at _ [] kx nx bx tx _ hpx W (Bytes.nil _) (by decide) hkx hna hnb hbx (by omega)).mono fun e w' ⟨r, h1, h2, h3⟩ => ⟨r, h1, Bytes.of_own h2, h3⟩
          have hTk : (⟨(s.data.toList.take M).toArray⟩ : ByteArray) = s.extract 0 M := by
            refine ba_eq ?_
            rw [ByteArray.data_extract, Array.toList_extract, List.extract_eq_take_drop, List.drop_zero, Nat.sub_zero]
          obtain ⟨Tk, hTke⟩ : ∃ Tk, Tk = s.data.toList.take M := ⟨_, rfl⟩
          rw [← hTke] at hTk kpx
          have HTK := hid hTk
          have hM0 : ¬ (M : Int) < 0 := by omega
          have hMs : ¬ (s.size : Int) < (M : Int) := by omega
          have hMn : M ≤ s.size := hM
          clear hq hM hcM hbM hkx hna hnb hbx htx hTk hTke
          replace HV := hid ((Ext.alloc w3 (.cells #[.int .u8 (kx : Int), .int .i64 nx, .int .u64 (bx : Int), .string tx] 31)).block HV.out)
          replace HW := hid ((Ext.alloc w3 (.cells #[.int .u8 (kx : Int), .int .i64 nx, .int .u64 (bx : Int), .string tx] 31)).block HW.out)
          replace HX := hid (HX.out.then_alloc (.cells #[.int .u8 (kx : Int), .int .i64 nx, .int .u64 (bx : Int), .string tx] 31))
          go_wp2_with fail
          refine (kpx _).mono ?_
          rintro e w4 ⟨r10, rfl, ho, hx⟩
          have H10 := hid ho
          replace HV := hid (hx.block HV.out)
          replace HW := hid (hx.block HW.out)
          replace HX := hid (HX.out.trans hx)
          clear ho hx kpx
          go_wp2_with fail
          refine wp_region_slots Ext (vbackG s M r10 Tk) (by kernel_rfl) Ext.trans Ext.refl (Ext.drew _) (vbackG_st _ _ _ _) (by kernel_rfl) ?_ ?_
          · intro tmps wr hle hfr j o ho hty
            have h2 : tmps[2]?.getD undef = .string s := hfr 2 (by kernel_rfl)
            have h8 : tmps[8]?.getD undef = .int .i64 (M : Int) := hfr 8 (by kernel_rfl)
            have h10 : tmps[10]?.getD undef = r10 := hfr 10 (by kernel_rfl)
            have h11 : tmps[11]?.getD undef = .int .i64 0 := hfr 11 (by kernel_rfl)
            clear hfr
            match j, ho with
            | 0, ho =>
              obtain rfl := (Option.some.inj ho)
              clear hty ho
              refine step_pure (.int .i64 0) (wanted_free rfl) ?_ (Ext.refl _) rfl
              simp [execOp, Act.eval, h11, go_sem]
            | 1, ho =>
              have h47 : tmps[47]?.getD undef = .int .i64 0 := hty 0 47 rfl (by obtain rfl := (Option.some.inj ho); rfl)
              obtain rfl := (Option.some.inj ho)
              clear hty ho
              refine step_pure (.bool false) (wanted_free rfl) ?_ (Ext.refl _) rfl
              simp [execOp, Act.eval, h47, go_sem]
            | 2, ho =>
              have h48 : tmps[48]?.getD undef = .bool false := hty 1 48 rfl (by obtain rfl := (Option.some.inj ho); rfl)
              obtain rfl := (Option.some.inj ho)
              clear hty ho
              refine step_pure (.bool false) (wanted_free rfl) ?_ (Ext.refl _) rfl
              simp [execOp, Act.eval, h48, go_sem]
            | 3, ho =>
              have h49 : tmps[49]?.getD undef = .bool false := hty 2 49 rfl (by obtain rfl := (Option.some.inj ho); rfl)
              obtain rfl := (Option.some.inj ho)
              clear hty ho
              refine step_pure (.int .i64 (M : Int)) (wanted_guard rfl rfl h49) ?_ (Ext.refl _) rfl
              simp [execOp, Act.eval, h8, go_sem]
            | 4, ho =>
              have h50 : tmps[50]?.getD undef = .int .i64 (M : Int) := hty 3 50 rfl (by obtain rfl := (Option.some.inj ho); rfl)
              have h49 : tmps[49]?.getD undef = .bool false := hty 2 49 rfl (by obtain rfl := (Option.some.inj ho); rfl)
              obtain rfl := (Option.some.inj ho)
              clear hty ho
              refine step_pure (.bool false) (wanted_guard rfl rfl h49) ?_ (Ext.refl _) rfl
              simp [execOp, Act.eval, h50, hM0, go_sem]
            | 5, ho =>
              have h49 : tmps[49]?.getD undef = .bool false := hty 2 49 rfl (by obtain rfl := (Option.some.inj ho); rfl)
              have h51 : tmps[51]?.getD undef = .bool false := hty 4 51 rfl (by obtain rfl := (Option.some.inj ho); rfl)
              obtain rfl := (Option.some.inj ho)
              clear hty ho
              refine step_pure (.bool false) (wanted_free rfl) ?_ (Ext.refl _) rfl
              simp [execOp, Act.eval, h49, h51, go_sem]
            | 6, ho =>
              have h52 : tmps[52]?.getD undef = .bool false := hty 5 52 rfl (by obtain rfl := (Option.some.inj ho); rfl)
              obtain rfl := (Option.some.inj ho)
              clear hty ho
              refine step_pure (.bool false) (wanted_free rfl) ?_ (Ext.refl _) rfl
              simp [execOp, Act.eval, h52, go_sem]
            | 7, ho =>
              have h53 : tmps[53]?.getD undef = .bool false := hty 6 53 rfl (by obtain rfl := (Option.some.inj ho); rfl)
              obtain rfl := (Option.some.inj ho)
              clear hty ho
              refine step_pure (.int .i64 (M : Int)) (wanted_guard rfl rfl h53) ?_ (Ext.refl _) rfl
              simp [execOp, Act.eval, h8, go_sem]
            | 8, ho =>
              have h53 : tmps[53]?.getD undef = .bool false := hty 6 53 rfl (by obtain rfl := (Option.some.inj ho); rfl)
              obtain rfl := (Option.some.inj ho)
              clear hty ho
              refine step_pure (.string s) (wanted_guard rfl rfl h53) ?_ (Ext.refl _) rfl
              simp [execOp, Act.eval, h2, go_sem]
            | 9, ho =>
              have h55 : tmps[55]?.getD undef = .string s := hty 8 55 rfl (by obtain rfl := (Option.some.inj ho); rfl)
              have h53 : tmps[53]?.getD undef = .bool false := hty 6 53 rfl (by obtain rfl := (Option.some.inj ho); rfl)
              obtain rfl := (Option.some.inj ho)
              clear hty ho
              refine step_pure (.int .i64 (s.size : Int)) (wanted_guard rfl rfl h53) ?_ (Ext.refl _) rfl
              simp [execOp, Act.eval, h55, go_sem]
            | 10, ho =>
              have h54 : tmps[54]?.getD undef = .int .i64 (M : Int) := hty 7 54 rfl (by obtain rfl := (Option.some.inj ho); rfl)
              have h56 : tmps[56]?.getD undef = .int .i64 (s.size : Int) := hty 9 56 rfl (by obtain rfl := (Option.some.inj ho); rfl)
              have h53 : tmps[53]?.getD undef = .bool false := hty 6 53 rfl (by obtain rfl := (Option.some.inj ho); rfl)
              obtain rfl := (Option.some.inj ho)
              clear hty ho
              refine step_pure (.bool false) (wanted_guard rfl rfl h53) ?_ (Ext.refl _) rfl
              simp [execOp, Act.eval, h54, h56, hMn, go_sem]
            | 11, ho =>
              have h53 : tmps[53]?.getD undef = .bool false := hty 6 53 rfl (by obtain rfl := (Option.some.inj ho); rfl)
              have h57 : tmps[57]?.getD undef = .bool false := hty 10 57 rfl (by obtain rfl := (Option.some.inj ho); rfl)
              obtain rfl := (Option.some.inj ho)
              clear hty ho
              refine step_pure (.bool false) (wanted_free rfl) ?_ (Ext.refl _) rfl
              simp [execOp, Act.eval, h53, h57, go_sem]
            | 12, ho =>
              have h58 : tmps[58]?.getD undef = .bool false := hty 11 58 rfl (by obtain rfl := (Option.some.inj ho); rfl)
              obtain rfl := (Option.some.inj ho)
              clear hty ho
              refine step_pure (.bool false) (wanted_free rfl) ?_ (Ext.refl _) rfl
              simp [execOp, Act.eval, h58, go_sem]
            | 13, ho =>
              have h59 : tmps[59]?.getD undef = .bool false := hty 12 59 rfl (by obtain rfl := (Option.some.inj ho); rfl)
              obtain rfl := (Option.some.inj ho)
              clear hty ho
              refine step_pure (r10) (wanted_guard rfl rfl h59) ?_ (Ext.refl _) rfl
              simp [execOp, Act.eval, h10, go_sem]
            | 14, ho =>
              have h60 : tmps[60]?.getD undef = r10 := hty 13 60 rfl (by obtain rfl := (Option.some.inj ho); rfl)
              have h59 : tmps[59]?.getD undef = .bool false := hty 12 59 rfl (by obtain rfl := (Option.some.inj ho); rfl)
              obtain rfl := (Option.some.inj ho)
              clear hty ho
              refine step_pure (.string ⟨(Tk).toArray⟩) (wanted_guard rfl rfl h59) ?_ (Ext.refl _) rfl
              have hcv := run_string_bytes Try.underlying25 Try.underlying5 Try.underlying9 (H10.out.ext hle)
              simp [execOp, Act.eval, h60, hcv, go_sem]
            | 15, ho =>
              have h59 : tmps[59]?.getD undef = .bool false := hty 12 59 rfl (by obtain rfl := (Option.some.inj ho); rfl)
              obtain rfl := (Option.some.inj ho)
              clear hty ho
              refine step_pure (.string s) (wanted_guard rfl rfl h59) ?_ (Ext.refl _) rfl
              simp [execOp, Act.eval, h2, go_sem]
            | 16, ho =>
              have h59 : tmps[59]?.getD undef = .bool false := hty 12 59 rfl (by obtain rfl := (Option.some.inj ho); rfl)
              obtain rfl := (Option.some.inj ho)
              clear hty ho
              refine step_pure (.int .i64 (M : Int)) (wanted_guard rfl rfl h59) ?_ (Ext.refl _) rfl
              simp [execOp, Act.eval, h8, go_sem]
            | 17, ho =>
              have h62 : tmps[62]?.getD undef = .string s := hty 15 62 rfl (by obtain rfl := (Option.some.inj ho); rfl)
              have h63 : tmps[63]?.getD undef = .int .i64 (M : Int) := hty 16 63 rfl (by obtain rfl := (Option.some.inj ho); rfl)
              have h59 : tmps[59]?.getD undef = .bool false := hty 12 59 rfl (by obtain rfl := (Option.some.inj ho); rfl)
              obtain rfl := (Option.some.inj ho)
              clear hty ho
              refine step_pure (.string (s.extract 0 M)) (wanted_guard rfl rfl h59) ?_ (Ext.refl _) rfl
              simp [execOp, Act.eval, h62, h63, hMs, hM0, go_sem]
            | 18, ho =>
              have h61 : tmps[61]?.getD undef = .string ⟨(Tk).toArray⟩ := hty 14 61 rfl (by obtain rfl := (Option.some.inj ho); rfl)
              have h64 : tmps[64]?.getD undef = .string (s.extract 0 M) := hty 17 64 rfl (by obtain rfl := (Option.some.inj ho); rfl)
              have h59 : tmps[59]?.getD undef = .bool false := hty 12 59 rfl (by obtain rfl := (Option.some.inj ho); rfl)
              obtain rfl := (Option.some.inj ho)
              clear hty ho
              refine step_pure (.bool false) (wanted_guard rfl rfl h59) ?_ (Ext.refl _) rfl
              simp [execOp, Act.eval, h61, h64, HTK.out, go_sem]
            | 19, ho =>
              have h59 : tmps[59]?.getD undef = .bool false := hty 12 59 rfl (by obtain rfl := (Option.some.inj ho); rfl)
              have h65 : tmps[65]?.getD undef = .bool false := hty 18 65 rfl (by obtain rfl := (Option.some.inj ho); rfl)
              obtain rfl := (Option.some.inj ho)
              clear hty ho
              refine step_pure (.bool false) (wanted_free rfl) ?_ (Ext.refl _) rfl
              simp [execOp, Act.eval, h59, h65, go_sem]
            | (j + 20), ho => exact absurd ho (by simp)

          · intro tmps w5 hle hs5 hfr hty
            have h66 : tmps[66]?.getD undef = .bool false := hty 19 66 rfl
            have hfe := frame_eq [47, 48, 49, 50, 51, 52, 53, 54, 55, 56, 57, 58, 59, 60, 61, 62, 63, 64, 65, 66] hs5 hfr (by kernel_rfl)
            rw [hfe]
            clear hfe hfr hs5 hty
            simp only [List.foldl_cons, List.foldl_nil]
            generalize tmps[47]?.getD undef = x47
            generalize tmps[48]?.getD undef = x48
            generalize tmps[49]?.getD undef = x49
            generalize tmps[50]?.getD undef = x50
            generalize tmps[51]?.getD undef = x51
            generalize tmps[52]?.getD undef = x52
            generalize tmps[53]?.getD undef = x53
            generalize tmps[54]?.getD undef = x54
            generalize tmps[55]?.getD undef = x55
            generalize tmps[56]?.getD undef = x56
            generalize tmps[57]?.getD undef = x57
            generalize tmps[58]?.getD undef = x58
            generalize tmps[59]?.getD undef = x59
            generalize tmps[60]?.getD undef = x60
            generalize tmps[61]?.getD undef = x61
            generalize tmps[62]?.getD undef = x62
            generalize tmps[63]?.getD undef = x63
            generalize tmps[64]?.getD undef = x64
            generalize tmps[65]?.getD undef = x65
            rw [h66]
            clear h66
            simp only [List.setIfInBounds_toArray, List.set_cons_succ, List.set_cons_zero]
            replace HV := hid (hle.block HV.out)
            replace HW := hid (hle.block HW.out)
            replace HX := hid (HX.out.trans hle)
            clear hle H10
            obtain ⟨⟨a0, a1, a2, a3⟩, _, _⟩ := box4 HV.out
            obtain ⟨⟨b0, b1, b2, b3⟩, _, _⟩ := box4 HW.out
            go_wp2_with fail
            refine (kpv _).mono ?_
            rintro e w6 ⟨r12, rfl, ho, hx⟩
            have H12 := hid ho
            replace HV := hid (hx.block HV.out)
            replace HW := hid (hx.block HW.out)
            replace HX := hid (HX.out.trans hx)
            clear ho hx kpv a0 a1 a2 a3 b0 b1 b2 b3
            obtain ⟨⟨a0, a1, a2, a3⟩, _, _⟩ := box4 HV.out
            obtain ⟨⟨b0, b1, b2, b3⟩, _, _⟩ := box4 HW.out
            go_wp2_with fail
            refine (kpw _).mono ?_
            rintro e w7 ⟨r14, rfl, ho, hx⟩
            have H14 := hid ho
            replace H12 := hid (H12.out.ext hx)
            replace HV := hid (hx.block HV.out)
            replace HW := hid (hx.block HW.out)
            replace HX := hid (HX.out.trans hx)
            clear ho hx kpw a0 a1 a2 a3 b0 b1 b2 b3
            obtain ⟨⟨a0, a1, a2, a3⟩, _, _⟩ := box4 HV.out
            obtain ⟨⟨b0, b1, b2, b3⟩, _, _⟩ := box4 HW.out
            by_cases hE1 : E1 = 0
            · by_cases hE2 : E2 = 0
              · subst hE1
                subst hE2
                obtain ⟨kt2, keq, kguard, kra, hS1, hR0, hsz⟩ := HQ.out rfl rfl
                obtain ⟨A12, c12, rfl, hl12, hm12, hli12⟩ := H12.out
                have hcv : (convert 25 9 (.slice A12 P1.length c12)).run Try.prog w7 = .ok (.string ⟨P1.toArray⟩) w7 := run_string_bytes Try.underlying25 Try.underlying5 Try.underlying9 H12.out
                go_wp2_with fail
                refine (kt2 _).mono ?_
                rintro e w8 ⟨rfl, hx⟩
                replace H12 := hid (H12.out.ext hx)
                replace H14 := hid (H14.out.ext hx)
                replace HV := hid (hx.block HV.out)
                replace HW := hid (hx.block HW.out)
                replace HX := hid (HX.out.trans hx)
                clear hx hcv a0 a1 a2 a3 b0 b1 b2 b3 kt2
                replace H12 := hid (H12.out.ext (Ext.alloc w8 (.cells #[.int .u8 (k : Int), .int .i64 n, .int .u64 (b : Int), .string t] 31)))
                replace H14 := hid (H14.out.ext (Ext.alloc w8 (.cells #[.int .u8 (k : Int), .int .i64 n, .int .u64 (b : Int), .string t] 31)))
                replace HV := hid ((Ext.alloc w8 (.cells #[.int .u8 (k : Int), .int .i64 n, .int .u64 (b : Int), .string t] 31)).block HV.out)
                replace HW := hid ((Ext.alloc w8 (.cells #[.int .u8 (k : Int), .int .i64 n, .int .u64 (b : Int), .string t] 31)).block HW.out)
                replace HX := hid (HX.out.then_alloc (.cells #[.int .u8 (k : Int), .int .i64 n, .int .u64 (b : Int), .string t] 31))
                obtain ⟨⟨a0, a1, a2, a3⟩, _, _⟩ := box4 HV.out
                obtain ⟨⟨b0, b1, b2, b3⟩, _, _⟩ := box4 HW.out
                have hcv1 := run_string_bytes (P := Try.prog) Try.underlying25 Try.underlying5 Try.underlying9 H12.out
                have hcv2 := run_string_bytes (P := Try.prog) Try.underlying25 Try.underlying5 Try.underlying9 H14.out
                go_wp2_with fail
                refine (kra _).mono ?_
                rintro e w9 ⟨rfl, hx⟩
                replace HX := hid (HX.out.trans hx)
                clear hx hcv1 hcv2 a0 a1 a2 a3 b0 b1 b2 b3
                go_wp2_with fail
                refine (awake_any _).mono ?_
                rintro e w10 ⟨rfl, hx⟩
                replace HX := hid (HX.out.trans hx)
                clear hx
                go_wp2_with fail
                go_ret
                exact ⟨rfl, HX.out⟩
              · have hE2' : (E2 != 0) = true := bne_iff_ne.2 hE2
                subst hE1
                clear hE2
                go_wp2_with fail
                refine (awake_any _).mono ?_
                rintro e w9 ⟨rfl, hx⟩
                go_wp2_with fail
                go_ret
                exact ⟨rfl, HX.out.trans hx⟩
            · have hE1' : (E1 != 0) = true := bne_iff_ne.2 hE1
              clear hE1
              go_wp2_with fail
              refine (awake_any _).mono ?_
              rintro e w9 ⟨rfl, hx⟩
              go_wp2_with fail
              go_ret
              exact ⟨rfl, HX.out.trans hx⟩
        · have hE' : (E == 0) = false := beq_eq_false_iff_ne.2 hE
          replace HV := hid ((Ext.alloc w3 (.cells #[.int .u8 (kx : Int), .int .i64 nx, .int .u64 (bx : Int), .string tx] 31)).block HV.out)
          replace HW := hid ((Ext.alloc w3 (.cells #[.int .u8 (kx : Int), .int .i64 nx, .int .u64 (bx : Int), .string tx] 31)).block HW.out)
          replace HX := hid (HX.out.then_alloc (.cells #[.int .u8 (kx : Int), .int .i64 nx, .int .u64 (bx : Int), .string tx] 31))
          obtain ⟨⟨a0, a1, a2, a3⟩, _, _⟩ := box4 HV.out
          obtain ⟨⟨b0, b1, b2, b3⟩, _, _⟩ := box4 HW.out
          clear hE hq
          go_wp2_with fail
          refine (kpv _).mono ?_
          rintro e w6 ⟨r12, rfl, ho, hx⟩
          have H12 := hid ho
          replace HV := hid (hx.block HV.out)
          replace HW := hid (hx.block HW.out)
          replace HX := hid (HX.out.trans hx)
          clear ho hx kpv a0 a1 a2 a3 b0 b1 b2 b3
          obtain ⟨⟨a0, a1, a2, a3⟩, _, _⟩ := box4 HV.out
          obtain ⟨⟨b0, b1, b2, b3⟩, _, _⟩ := box4 HW.out
          go_wp2_with fail
          refine (kpw _).mono ?_
          rintro e w7 ⟨r14, rfl, ho, hx⟩
          have H14 := hid ho
          replace H12 := hid (H12.out.ext hx)
          replace HV := hid (hx.block HV.out)
          replace HW := hid (hx.block HW.out)
          replace HX := hid (HX.out.trans hx)
          clear ho hx kpw a0 a1 a2 a3 b0 b1 b2 b3
          obtain ⟨⟨a0, a1, a2, a3⟩, _, _⟩ := box4 HV.out
          obtain ⟨⟨b0, b1, b2, b3⟩, _, _⟩ := box4 HW.out
          by_cases hE1 : E1 = 0
          · by_cases hE2 : E2 = 0
            · subst hE1
              subst hE2
              obtain ⟨kt2, keq, kguard, kra, hS1, hR0, hsz⟩ := HQ.out rfl rfl
              obtain ⟨A12, c12, rfl, hl12, hm12, hli12⟩ := H12.out
              have hcv : (convert 25 9 (.slice A12 P1.length c12)).run Try.prog w7 = .ok (.string ⟨P1.toArray⟩) w7 := run_string_bytes Try.underlying25 Try.underlying5 Try.underlying9 H12.out
              go_wp2_with fail
              refine (kt2 _).mono ?_
              rintro e w8 ⟨rfl, hx⟩
              replace H12 := hid (H12.out.ext hx)
              replace H14 := hid (H14.out.ext hx)
              replace HV := hid (hx.block HV.out)
              replace HW := hid (hx.block HW.out)
              replace HX := hid (HX.out.trans hx)
              clear hx hcv a0 a1 a2 a3 b0 b1 b2 b3 kt2
              replace H12 := hid (H12.out.ext (Ext.alloc w8 (.cells #[.int .u8 (k : Int), .int .i64 n, .int .u64 (b : Int), .string t] 31)))
              replace H14 := hid (H14.out.ext (Ext.alloc w8 (.cells #[.int .u8 (k : Int), .int .i64 n, .int .u64 (b : Int), .string t] 31)))
              replace HV := hid ((Ext.alloc w8 (.cells #[.int .u8 (k : Int), .int .i64 n, .int .u64 (b : Int), .string t] 31)).block HV.out)
              replace HW := hid ((Ext.alloc w8 (.cells #[.int .u8 (k : Int), .int .i64 n, .int .u64 (b : Int), .string t] 31)).block HW.out)
              replace HX := hid (HX.out.then_alloc (.cells #[.int .u8 (k : Int), .int .i64 n, .int .u64 (b : Int), .string t] 31))
              obtain ⟨⟨a0, a1, a2, a3⟩, _, _⟩ := box4 HV.out
              obtain ⟨⟨b0, b1, b2, b3⟩, _, _⟩ := box4 HW.out
              have hcv1 := run_string_bytes (P := Try.prog) Try.underlying25 Try.underlying5 Try.underlying9 H12.out
              have hcv2 := run_string_bytes (P := Try.prog) Try.underlying25 Try.underlying5 Try.underlying9 H14.out
              go_wp2_with fail
              refine (kra _).mono ?_
              rintro e w9 ⟨rfl, hx⟩
              replace HX := hid (HX.out.trans hx)
              clear hx hcv1 hcv2 a0 a1 a2 a3 b0 b1 b2 b3
              go_wp2_with fail
              refine (awake_any _).mono ?_
              rintro e w10 ⟨rfl, hx⟩
              replace HX := hid (HX.out.trans hx)
              clear hx
              go_wp2_with fail
              go_ret
              exact ⟨rfl, HX.out⟩
            · have hE2' : (E2 != 0) = true := bne_iff_ne.2 hE2
              subst hE1
              clear hE2
              go_wp2_with fail
              refine (awake_any _).mono ?_
              rintro e w9 ⟨rfl, hx⟩
              go_wp2_with fail
              go_ret
              exact ⟨rfl, HX.out.trans hx⟩
          · have hE1' : (E1 != 0) = true := bne_iff_ne.2 hE1
            clear hE1
            go_wp2_with fail
            refine (awake_any _).mono ?_
            rintro e w9 ⟨rfl, hx⟩
            go_wp2_with fail
            go_ret
            exact ⟨rfl, HX.out.trans hx⟩
end Go.Proofs.Ytkblpbpmaoofgaa
