/- The landed program's Check, by its contract. Conditions: numbers within their kinds. -/
import Derived.Test.YtbgapkhcaideiaaVV1
import Derived.Test.YtbgapkhcaideiaaBase
import Derived.BigQuiet
namespace Go.Proofs.Ytbgapkhcaideiaa
open Go Go.RowKit

theorem m_whole_fault (d : Nat) (w : World) : (method (d + 1) 56 (.agg #[]) "telltale/value.fault").run Try.prog w = .ok (61, .agg #[]) w := by kernel_rfl
theorem m_whole_only (d : Nat) (w : World) : (method (d + 1) 56 (.agg #[]) "telltale/value.only").run Try.prog w = .ok (62, .agg #[]) w := by kernel_rfl
theorem m_flag_fault (d : Nat) (w : World) : (method (d + 1) 58 (.agg #[]) "telltale/value.fault").run Try.prog w = .ok (63, .agg #[]) w := by kernel_rfl
theorem m_flag_only (d : Nat) (w : World) : (method (d + 1) 58 (.agg #[]) "telltale/value.only").run Try.prog w = .ok (64, .agg #[]) w := by kernel_rfl
theorem m_double_fault (d : Nat) (w : World) : (method (d + 1) 59 (.agg #[]) "telltale/value.fault").run Try.prog w = .ok (65, .agg #[]) w := by kernel_rfl
theorem m_double_only (d : Nat) (w : World) : (method (d + 1) 59 (.agg #[]) "telltale/value.only").run Try.prog w = .ok (66, .agg #[]) w := by kernel_rfl
theorem m_text_fault (d : Nat) (w : World) : (method (d + 1) 61 (.agg #[]) "telltale/value.fault").run Try.prog w = .ok (70, .agg #[]) w := by kernel_rfl
theorem m_text_only (d : Nat) (w : World) : (method (d + 1) 61 (.agg #[]) "telltale/value.only").run Try.prog w = .ok (71, .agg #[]) w := by kernel_rfl
theorem m_none_fault (d : Nat) (w : World) : (method (d + 1) 64 (.agg #[]) "telltale/value.fault").run Try.prog w = .ok (72, .agg #[]) w := by kernel_rfl

/-- whether two values are the same, as the program compares them -/
def sameV (k : Nat) (n : Int) (b : Nat) (t : ByteArray) (l : Nat) (m : Int) (c : Nat) (u : ByteArray) : Bool := decide (k = l ∧ n = m ∧ b = c ∧ t = u)
theorem run_unlike_val (k : Nat) (n : Int) (b : Nat) (t : ByteArray) (l : Nat) (m : Int) (c : Nat) (u : ByteArray) (w : World) :
    (binOp .neq 33 (vv k n b t) (vv l m c u)).run Try.prog w = .ok (.bool (!sameV k n b t l m c u)) w := by
  unfold sameV vv
  simp [go_sem]
  by_cases h1 : k = l
  · by_cases h2 : n = m
    · by_cases h3 : b = c
      · by_cases h4 : t = u
        · have h4' := (list_ba t u).2 h4
          simp [h1, h2, h3, h4]
        · have h4' : ¬ t.toList = u.toList := fun h => h4 ((list_ba t u).1 h)
          simp [h1, h2, h3, h4, h4']
      · have h3' : ¬ (b : Int) = (c : Int) := by omega
        simp [h1, h2, h3, h3']
    · simp [h1, h2]
  · have h1' : ¬ (k : Int) = (l : Int) := by omega
    simp [h1, h1']

theorem unlike_iff (k : Nat) (n : Int) (b : Nat) (t : ByteArray) (l : Nat) (m : Int) (c : Nat) (u : ByteArray) : (!sameV k n b t l m c u) = true ↔ ¬ (k = l ∧ n = m ∧ b = c ∧ t = u) := by
  unfold sameV
  rw [Bool.not_eq_true', decide_eq_false_iff_not]

/-- what the slots of the region hold -/
def vcheckG (x i y : Value) (z : Bool) : Nat → Value → World → Prop
  | 0, v, _ => v = x
  | 1, v, _ => v = i
  | 2, v, _ => v = x
  | 3, v, _ => v = y
  | 4, v, _ => v = .bool z
  | _, _, _ => True
theorem vcheckG_st (x i y : Value) (z : Bool) : ∀ i9 z9 x9 y9, vcheckG x i y z i9 z9 x9 → Ext x9 y9 → vcheckG x i y z i9 z9 y9 := by
  intro i9 z9 x9 y9 h _
  unfold vcheckG at *
  split at h <;> exact h

set_option maxRecDepth 100000 in
set_option maxHeartbeats 1000000 in
theorem vcheck_whole (n : Int) (b : Nat) (t : ByteArray) (w : World) : Calls Try.prog 22 #[.agg #[.int .u8 1, .int .i64 n, .int .u64 (b : Int), .string t]] w (Says w (.int .i64 (checkV 1 n b t))) := by
  have hc := @check_int n b t
  have kn := fun W => need_any 1 W
  rw [need_one] at kn
  have kf := fun W => whole_fault 1 n b t W
  have ko := fun W => whole_only 1 n b t W
  have m1 := m_whole_fault
  have m2 := m_whole_only
  have q := fun W => run_unlike_val 1 n b t 1 n 0 noText W
  obtain ⟨E, hE⟩ : ∃ E : Int, E = if n < -4611686018427387904 ∨ 4611686018427387904 < n then 8 else 0 := ⟨_, rfl⟩
  rw [← hE] at kf
  obtain ⟨Z, hZ⟩ : ∃ Z, Z = !sameV 1 n b t 1 n 0 noText := ⟨_, rfl⟩
  rw [← hZ] at q
  have HC := hid hc
  have HE := hid hE
  have hz2 := unlike_iff 1 n b t 1 n 0 noText
  rw [← hZ] at hz2
  have HZ := hid hz2
  obtain ⟨C, hC⟩ : ∃ C, C = checkV 1 n b t := ⟨_, rfl⟩
  rw [← hC] at HC ⊢
  have KO := hid ko
  have Q := hid q
  have M2 := hid m2
  unfold vv at kf
  clear hc hE hZ hC ko q hz2
  go_enter Try.func22, Try.ntmps22
  go_wp2_with ((with_reducible show Calls _ 26 _ _ _); refine (kn _).mono ?_; rintro e w1 ⟨rfl, rfl⟩)
  refine (kf _).mono ?_
  rintro e w1 ⟨rfl, hx⟩
  have HBOX := hid (hx.block (heap_alloc_new w _))
  have HX := hid ((Ext.alloc w _).trans hx)
  clear hx kf
  by_cases h0 : E = 0
  · subst h0
    go_wp2_with fail
    refine wp_region_slots Ext (vcheckG (.agg #[.int .u8 1, .int .i64 n, .int .u64 (b : Int), .string t]) (.iface 56 (.agg #[])) (vv 1 n 0 noText) Z) (by kernel_rfl) Ext.trans Ext.refl (Ext.drew _) (vcheckG_st _ _ _ _) (by kernel_rfl) ?_ ?_
    · intro tmps wr hle hfr j o hj hty
      have h1 : tmps[1]?.getD undef = .pointer (some ⟨w.heap.size, 0, none⟩) := hfr 1 (by kernel_rfl)
      have h3 : tmps[3]?.getD undef = .iface 56 (.agg #[]) := hfr 3 (by kernel_rfl)
      obtain ⟨⟨c0, c1, c2, c3⟩, _, _⟩ := box4 (hle.block HBOX.out)
      clear hfr
      match j, hj with
      | 0, ho =>
        obtain rfl := (Option.some.inj ho)
        clear hty ho
        refine step_pure (.agg #[.int .u8 1, .int .i64 n, .int .u64 (b : Int), .string t]) (wanted_free rfl) ?_ (Ext.refl _) rfl
        simp [execOp, Act.eval, h1, c0, c1, c2, c3, go_sem]
      | 1, ho =>
        obtain rfl := (Option.some.inj ho)
        clear hty ho
        refine step_pure (.iface 56 (.agg #[])) (wanted_free rfl) ?_ (Ext.refl _) rfl
        simp [execOp, Act.eval, h3, go_sem]
      | 2, ho =>
        obtain rfl := (Option.some.inj ho)
        clear hty ho
        refine step_pure (.agg #[.int .u8 1, .int .i64 n, .int .u64 (b : Int), .string t]) (wanted_free rfl) ?_ (Ext.refl _) rfl
        simp [execOp, Act.eval, h1, c0, c1, c2, c3, go_sem]
      | 3, ho =>
        have h15 : tmps[15]?.getD undef = .iface 56 (.agg #[]) := hty 1 15 (by kernel_rfl) (by obtain rfl := (Option.some.inj ho); rfl)
        have h16 : tmps[16]?.getD undef = .agg #[.int .u8 1, .int .i64 n, .int .u64 (b : Int), .string t] := hty 2 16 (by kernel_rfl) (by obtain rfl := (Option.some.inj ho); rfl)
        obtain rfl := (Option.some.inj ho)
        clear hty ho
        refine step_call 62 #[.agg #[], .agg #[.int .u8 1, .int .i64 n, .int .u64 (b : Int), .string t]] (wanted_free rfl) ?_ ?_
        · simp [execOp, Act.eval, h15, h16, M2.out, go_sem]
        · exact (KO.out _).mono fun e w' h => ⟨_, h.1, h.2, rfl⟩
      | 4, ho =>
        have h14 : tmps[14]?.getD undef = .agg #[.int .u8 1, .int .i64 n, .int .u64 (b : Int), .string t] := hty 0 14 (by kernel_rfl) (by obtain rfl := (Option.some.inj ho); rfl)
        have h17 : tmps[17]?.getD undef = vv 1 n 0 noText := hty 3 17 (by kernel_rfl) (by obtain rfl := (Option.some.inj ho); rfl)
        obtain rfl := (Option.some.inj ho)
        clear hty ho
        refine step_pure (.bool Z) (wanted_free rfl) ?_ (Ext.refl _) rfl
        have q' : (binOp .neq 33 (.agg #[.int .u8 1, .int .i64 n, .int .u64 (b : Int), .string t]) (.agg #[.int .u8 1, .int .i64 n, .int .u64 0, .string noText])).run Try.prog wr = .ok (.bool Z) wr := Q.out wr
        have h17' : tmps[17]?.getD undef = .agg #[.int .u8 1, .int .i64 n, .int .u64 0, .string noText] := h17
        simp [execOp, Act.eval, h14, h17', run_eqGuard_agg, q']
      | (j + 5), hj => exact absurd hj (by simp)
    · intro tmps w5 hle hs hfr hty
      have h18 : tmps[18]?.getD undef = .bool Z := hty 4 18 (by kernel_rfl)
      have hfe := frame_eq [14, 15, 16, 17, 18] hs hfr (by kernel_rfl)
      rw [hfe]
      clear hfe hfr hs hty
      simp only [List.foldl_cons, List.foldl_nil]
      rw [h18]
      generalize tmps[14]?.getD undef = x14
      generalize tmps[15]?.getD undef = x15
      generalize tmps[16]?.getD undef = x16
      generalize tmps[17]?.getD undef = x17
      clear h18
      simp only [List.setIfInBounds_toArray, List.set_cons_succ, List.set_cons_zero]
      have HY := hid (HX.out.trans hle)
      clear hle
      cases Z
      all_goals
        go_wp2_with fail
        go_ret
        refine Says.mk_int ?_ HY.out
        have e0 := HZ.out
        have e1 := HE.out
        have e2 := HC.out
        have ht0 : t = noText ↔ t.size = 0 := text_none t
        simp only [ht0, true_and, Bool.false_eq_true, false_iff, true_iff, Decidable.not_not] at e0
        (repeat' split at e1) <;> (repeat' split at e2) <;> first | omega | (exfalso; omega)
  · have h0' : (E != 0) = true := bne_iff_ne.2 h0
    go_wp2_with fail
    go_ret
    refine Says.mk_int ?_ HX.out
    have e1 := HE.out
    have e2 := HC.out
    (repeat' split at e1) <;> (repeat' split at e2) <;> omega

set_option maxRecDepth 100000 in
set_option maxHeartbeats 1000000 in
theorem vcheck_flag (n : Int) (b : Nat) (t : ByteArray) (w : World) : Calls Try.prog 22 #[.agg #[.int .u8 2, .int .i64 n, .int .u64 (b : Int), .string t]] w (Says w (.int .i64 (checkV 2 n b t))) := by
  have hc := @check_flag n b t
  have kn := fun W => need_any 2 W
  rw [need_two] at kn
  have kf := fun W => flag_fault 2 n b t W
  have ko := fun W => flag_only 2 n b t W
  have m1 := m_flag_fault
  have m2 := m_flag_only
  have q := fun W => run_unlike_val 2 n b t 2 n 0 noText W
  obtain ⟨E, hE⟩ : ∃ E : Int, E = if n < 0 ∨ 1 < n then 8 else 0 := ⟨_, rfl⟩
  rw [← hE] at kf
  obtain ⟨Z, hZ⟩ : ∃ Z, Z = !sameV 2 n b t 2 n 0 noText := ⟨_, rfl⟩
  rw [← hZ] at q
  have HC := hid hc
  have HE := hid hE
  have hz2 := unlike_iff 2 n b t 2 n 0 noText
  rw [← hZ] at hz2
  have HZ := hid hz2
  obtain ⟨C, hC⟩ : ∃ C, C = checkV 2 n b t := ⟨_, rfl⟩
  rw [← hC] at HC ⊢
  have KO := hid ko
  have Q := hid q
  have M2 := hid m2
  unfold vv at kf
  clear hc hE hZ hC ko q hz2
  go_enter Try.func22, Try.ntmps22
  go_wp2_with ((with_reducible show Calls _ 26 _ _ _); refine (kn _).mono ?_; rintro e w1 ⟨rfl, rfl⟩)
  refine (kf _).mono ?_
  rintro e w1 ⟨rfl, hx⟩
  have HBOX := hid (hx.block (heap_alloc_new w _))
  have HX := hid ((Ext.alloc w _).trans hx)
  clear hx kf
  by_cases h0 : E = 0
  · subst h0
    go_wp2_with fail
    refine wp_region_slots Ext (vcheckG (.agg #[.int .u8 2, .int .i64 n, .int .u64 (b : Int), .string t]) (.iface 58 (.agg #[])) (vv 2 n 0 noText) Z) (by kernel_rfl) Ext.trans Ext.refl (Ext.drew _) (vcheckG_st _ _ _ _) (by kernel_rfl) ?_ ?_
    · intro tmps wr hle hfr j o hj hty
      have h1 : tmps[1]?.getD undef = .pointer (some ⟨w.heap.size, 0, none⟩) := hfr 1 (by kernel_rfl)
      have h3 : tmps[3]?.getD undef = .iface 58 (.agg #[]) := hfr 3 (by kernel_rfl)
      obtain ⟨⟨c0, c1, c2, c3⟩, _, _⟩ := box4 (hle.block HBOX.out)
      clear hfr
      match j, hj with
      | 0, ho =>
        obtain rfl := (Option.some.inj ho)
        clear hty ho
        refine step_pure (.agg #[.int .u8 2, .int .i64 n, .int .u64 (b : Int), .string t]) (wanted_free rfl) ?_ (Ext.refl _) rfl
        simp [execOp, Act.eval, h1, c0, c1, c2, c3, go_sem]
      | 1, ho =>
        obtain rfl := (Option.some.inj ho)
        clear hty ho
        refine step_pure (.iface 58 (.agg #[])) (wanted_free rfl) ?_ (Ext.refl _) rfl
        simp [execOp, Act.eval, h3, go_sem]
      | 2, ho =>
        obtain rfl := (Option.some.inj ho)
        clear hty ho
        refine step_pure (.agg #[.int .u8 2, .int .i64 n, .int .u64 (b : Int), .string t]) (wanted_free rfl) ?_ (Ext.refl _) rfl
        simp [execOp, Act.eval, h1, c0, c1, c2, c3, go_sem]
      | 3, ho =>
        have h15 : tmps[15]?.getD undef = .iface 58 (.agg #[]) := hty 1 15 (by kernel_rfl) (by obtain rfl := (Option.some.inj ho); rfl)
        have h16 : tmps[16]?.getD undef = .agg #[.int .u8 2, .int .i64 n, .int .u64 (b : Int), .string t] := hty 2 16 (by kernel_rfl) (by obtain rfl := (Option.some.inj ho); rfl)
        obtain rfl := (Option.some.inj ho)
        clear hty ho
        refine step_call 64 #[.agg #[], .agg #[.int .u8 2, .int .i64 n, .int .u64 (b : Int), .string t]] (wanted_free rfl) ?_ ?_
        · simp [execOp, Act.eval, h15, h16, M2.out, go_sem]
        · exact (KO.out _).mono fun e w' h => ⟨_, h.1, h.2, rfl⟩
      | 4, ho =>
        have h14 : tmps[14]?.getD undef = .agg #[.int .u8 2, .int .i64 n, .int .u64 (b : Int), .string t] := hty 0 14 (by kernel_rfl) (by obtain rfl := (Option.some.inj ho); rfl)
        have h17 : tmps[17]?.getD undef = vv 2 n 0 noText := hty 3 17 (by kernel_rfl) (by obtain rfl := (Option.some.inj ho); rfl)
        obtain rfl := (Option.some.inj ho)
        clear hty ho
        refine step_pure (.bool Z) (wanted_free rfl) ?_ (Ext.refl _) rfl
        have q' : (binOp .neq 33 (.agg #[.int .u8 2, .int .i64 n, .int .u64 (b : Int), .string t]) (.agg #[.int .u8 2, .int .i64 n, .int .u64 0, .string noText])).run Try.prog wr = .ok (.bool Z) wr := Q.out wr
        have h17' : tmps[17]?.getD undef = .agg #[.int .u8 2, .int .i64 n, .int .u64 0, .string noText] := h17
        simp [execOp, Act.eval, h14, h17', run_eqGuard_agg, q']
      | (j + 5), hj => exact absurd hj (by simp)
    · intro tmps w5 hle hs hfr hty
      have h18 : tmps[18]?.getD undef = .bool Z := hty 4 18 (by kernel_rfl)
      have hfe := frame_eq [14, 15, 16, 17, 18] hs hfr (by kernel_rfl)
      rw [hfe]
      clear hfe hfr hs hty
      simp only [List.foldl_cons, List.foldl_nil]
      rw [h18]
      generalize tmps[14]?.getD undef = x14
      generalize tmps[15]?.getD undef = x15
      generalize tmps[16]?.getD undef = x16
      generalize tmps[17]?.getD undef = x17
      clear h18
      simp only [List.setIfInBounds_toArray, List.set_cons_succ, List.set_cons_zero]
      have HY := hid (HX.out.trans hle)
      clear hle
      cases Z
      all_goals
        go_wp2_with fail
        go_ret
        refine Says.mk_int ?_ HY.out
        have e0 := HZ.out
        have e1 := HE.out
        have e2 := HC.out
        have ht0 : t = noText ↔ t.size = 0 := text_none t
        simp only [ht0, true_and, Bool.false_eq_true, false_iff, true_iff, Decidable.not_not] at e0
        (repeat' split at e1) <;> (repeat' split at e2) <;> first | omega | (exfalso; omega)
  · have h0' : (E != 0) = true := bne_iff_ne.2 h0
    go_wp2_with fail
    go_ret
    refine Says.mk_int ?_ HX.out
    have e1 := HE.out
    have e2 := HC.out
    (repeat' split at e1) <;> (repeat' split at e2) <;> omega

set_option maxRecDepth 100000 in
set_option maxHeartbeats 1000000 in
theorem vcheck_double (n : Int) (b : Nat) (t : ByteArray) (w : World) (hb : b ≤ 18446744073709551615) : Calls Try.prog 22 #[.agg #[.int .u8 3, .int .i64 n, .int .u64 (b : Int), .string t]] w (Says w (.int .i64 (checkV 3 n b t))) := by
  have hc := @check_real n b t
  have kn := fun W => need_any 3 W
  rw [need_three] at kn
  have kf := fun W => double_fault 3 n b t W hb
  have ko := fun W => double_only 3 n b t W
  have m1 := m_double_fault
  have m2 := m_double_only
  have q := fun W => run_unlike_val 3 n b t 3 0 b noText W
  obtain ⟨E, hE⟩ : ∃ E : Int, E = if cleanZ b ≠ b then 4 else 0 := ⟨_, rfl⟩
  rw [← hE] at kf
  obtain ⟨Z, hZ⟩ : ∃ Z, Z = !sameV 3 n b t 3 0 b noText := ⟨_, rfl⟩
  rw [← hZ] at q
  have HC := hid hc
  have HE := hid hE
  have hz2 := unlike_iff 3 n b t 3 0 b noText
  rw [← hZ] at hz2
  have HZ := hid hz2
  obtain ⟨C, hC⟩ : ∃ C, C = checkV 3 n b t := ⟨_, rfl⟩
  rw [← hC] at HC ⊢
  have KO := hid ko
  have Q := hid q
  have M2 := hid m2
  unfold vv at kf
  clear hc hE hZ hC ko q hz2
  go_enter Try.func22, Try.ntmps22
  go_wp2_with ((with_reducible show Calls _ 26 _ _ _); refine (kn _).mono ?_; rintro e w1 ⟨rfl, rfl⟩)
  refine (kf _).mono ?_
  rintro e w1 ⟨rfl, hx⟩
  have HBOX := hid (hx.block (heap_alloc_new w _))
  have HX := hid ((Ext.alloc w _).trans hx)
  clear hx kf
  by_cases h0 : E = 0
  · subst h0
    go_wp2_with fail
    refine wp_region_slots Ext (vcheckG (.agg #[.int .u8 3, .int .i64 n, .int .u64 (b : Int), .string t]) (.iface 59 (.agg #[])) (vv 3 0 b noText) Z) (by kernel_rfl) Ext.trans Ext.refl (Ext.drew _) (vcheckG_st _ _ _ _) (by kernel_rfl) ?_ ?_
    · intro tmps wr hle hfr j o hj hty
      have h1 : tmps[1]?.getD undef = .pointer (some ⟨w.heap.size, 0, none⟩) := hfr 1 (by kernel_rfl)
      have h3 : tmps[3]?.getD undef = .iface 59 (.agg #[]) := hfr 3 (by kernel_rfl)
      obtain ⟨⟨c0, c1, c2, c3⟩, _, _⟩ := box4 (hle.block HBOX.out)
      clear hfr
      match j, hj with
      | 0, ho =>
        obtain rfl := (Option.some.inj ho)
        clear hty ho
        refine step_pure (.agg #[.int .u8 3, .int .i64 n, .int .u64 (b : Int), .string t]) (wanted_free rfl) ?_ (Ext.refl _) rfl
        simp [execOp, Act.eval, h1, c0, c1, c2, c3, go_sem]
      | 1, ho =>
        obtain rfl := (Option.some.inj ho)
        clear hty ho
        refine step_pure (.iface 59 (.agg #[])) (wanted_free rfl) ?_ (Ext.refl _) rfl
        simp [execOp, Act.eval, h3, go_sem]
      | 2, ho =>
        obtain rfl := (Option.some.inj ho)
        clear hty ho
        refine step_pure (.agg #[.int .u8 3, .int .i64 n, .int .u64 (b : Int), .string t]) (wanted_free rfl) ?_ (Ext.refl _) rfl
        simp [execOp, Act.eval, h1, c0, c1, c2, c3, go_sem]
      | 3, ho =>
        have h15 : tmps[15]?.getD undef = .iface 59 (.agg #[]) := hty 1 15 (by kernel_rfl) (by obtain rfl := (Option.some.inj ho); rfl)
        have h16 : tmps[16]?.getD undef = .agg #[.int .u8 3, .int .i64 n, .int .u64 (b : Int), .string t] := hty 2 16 (by kernel_rfl) (by obtain rfl := (Option.some.inj ho); rfl)
        obtain rfl := (Option.some.inj ho)
        clear hty ho
        refine step_call 66 #[.agg #[], .agg #[.int .u8 3, .int .i64 n, .int .u64 (b : Int), .string t]] (wanted_free rfl) ?_ ?_
        · simp [execOp, Act.eval, h15, h16, M2.out, go_sem]
        · exact (KO.out _).mono fun e w' h => ⟨_, h.1, h.2, rfl⟩
      | 4, ho =>
        have h14 : tmps[14]?.getD undef = .agg #[.int .u8 3, .int .i64 n, .int .u64 (b : Int), .string t] := hty 0 14 (by kernel_rfl) (by obtain rfl := (Option.some.inj ho); rfl)
        have h17 : tmps[17]?.getD undef = vv 3 0 b noText := hty 3 17 (by kernel_rfl) (by obtain rfl := (Option.some.inj ho); rfl)
        obtain rfl := (Option.some.inj ho)
        clear hty ho
        refine step_pure (.bool Z) (wanted_free rfl) ?_ (Ext.refl _) rfl
        have q' : (binOp .neq 33 (.agg #[.int .u8 3, .int .i64 n, .int .u64 (b : Int), .string t]) (.agg #[.int .u8 3, .int .i64 0, .int .u64 (b : Int), .string noText])).run Try.prog wr = .ok (.bool Z) wr := Q.out wr
        have h17' : tmps[17]?.getD undef = .agg #[.int .u8 3, .int .i64 0, .int .u64 (b : Int), .string noText] := h17
        simp [execOp, Act.eval, h14, h17', run_eqGuard_agg, q']
      | (j + 5), hj => exact absurd hj (by simp)
    · intro tmps w5 hle hs hfr hty
      have h18 : tmps[18]?.getD undef = .bool Z := hty 4 18 (by kernel_rfl)
      have hfe := frame_eq [14, 15, 16, 17, 18] hs hfr (by kernel_rfl)
      rw [hfe]
      clear hfe hfr hs hty
      simp only [List.foldl_cons, List.foldl_nil]
      rw [h18]
      generalize tmps[14]?.getD undef = x14
      generalize tmps[15]?.getD undef = x15
      generalize tmps[16]?.getD undef = x16
      generalize tmps[17]?.getD undef = x17
      clear h18
      simp only [List.setIfInBounds_toArray, List.set_cons_succ, List.set_cons_zero]
      have HY := hid (HX.out.trans hle)
      clear hle
      cases Z
      all_goals
        go_wp2_with fail
        go_ret
        refine Says.mk_int ?_ HY.out
        have e0 := HZ.out
        have e1 := HE.out
        have e2 := HC.out
        have ht0 : t = noText ↔ t.size = 0 := text_none t
        simp only [ht0, true_and, Bool.false_eq_true, false_iff, true_iff, Decidable.not_not] at e0
        (repeat' split at e1) <;> (repeat' split at e2) <;> first | omega | (exfalso; omega)
  · have h0' : (E != 0) = true := bne_iff_ne.2 h0
    go_wp2_with fail
    go_ret
    refine Says.mk_int ?_ HX.out
    have e1 := HE.out
    have e2 := HC.out
    (repeat' split at e1) <;> (repeat' split at e2) <;> omega

set_option maxRecDepth 100000 in
set_option maxHeartbeats 1000000 in
theorem vcheck_text (n : Int) (b : Nat) (t : ByteArray) (w : World) (ht : t.size ≤ 9223372036854775807) : Calls Try.prog 22 #[.agg #[.int .u8 4, .int .i64 n, .int .u64 (b : Int), .string t]] w (Says w (.int .i64 (checkV 4 n b t))) := by
  have hc := @check_text n b t
  have kn := fun W => need_any 4 W
  rw [need_four] at kn
  have kf := fun W => text_fault 4 n b t W ht
  have ko := fun W => text_only 4 n b t W
  have m1 := m_text_fault
  have m2 := m_text_only
  have q := fun W => run_unlike_val 4 n b t 4 0 0 t W
  obtain ⟨E, hE⟩ : ∃ E : Int, E = if 24 < t.size then 5 else 0 := ⟨_, rfl⟩
  rw [← hE] at kf
  obtain ⟨Z, hZ⟩ : ∃ Z, Z = !sameV 4 n b t 4 0 0 t := ⟨_, rfl⟩
  rw [← hZ] at q
  have HC := hid hc
  have HE := hid hE
  have hz2 := unlike_iff 4 n b t 4 0 0 t
  rw [← hZ] at hz2
  have HZ := hid hz2
  obtain ⟨C, hC⟩ : ∃ C, C = checkV 4 n b t := ⟨_, rfl⟩
  rw [← hC] at HC ⊢
  have KO := hid ko
  have Q := hid q
  have M2 := hid m2
  unfold vv at kf
  clear hc hE hZ hC ko q hz2
  go_enter Try.func22, Try.ntmps22
  go_wp2_with ((with_reducible show Calls _ 26 _ _ _); refine (kn _).mono ?_; rintro e w1 ⟨rfl, rfl⟩)
  refine (kf _).mono ?_
  rintro e w1 ⟨rfl, hx⟩
  have HBOX := hid (hx.block (heap_alloc_new w _))
  have HX := hid ((Ext.alloc w _).trans hx)
  clear hx kf
  by_cases h0 : E = 0
  · subst h0
    go_wp2_with fail
    refine wp_region_slots Ext (vcheckG (.agg #[.int .u8 4, .int .i64 n, .int .u64 (b : Int), .string t]) (.iface 61 (.agg #[])) (vv 4 0 0 t) Z) (by kernel_rfl) Ext.trans Ext.refl (Ext.drew _) (vcheckG_st _ _ _ _) (by kernel_rfl) ?_ ?_
    · intro tmps wr hle hfr j o hj hty
      have h1 : tmps[1]?.getD undef = .pointer (some ⟨w.heap.size, 0, none⟩) := hfr 1 (by kernel_rfl)
      have h3 : tmps[3]?.getD undef = .iface 61 (.agg #[]) := hfr 3 (by kernel_rfl)
      obtain ⟨⟨c0, c1, c2, c3⟩, _, _⟩ := box4 (hle.block HBOX.out)
      clear hfr
      match j, hj with
      | 0, ho =>
        obtain rfl := (Option.some.inj ho)
        clear hty ho
        refine step_pure (.agg #[.int .u8 4, .int .i64 n, .int .u64 (b : Int), .string t]) (wanted_free rfl) ?_ (Ext.refl _) rfl
        simp [execOp, Act.eval, h1, c0, c1, c2, c3, go_sem]
      | 1, ho =>
        obtain rfl := (Option.some.inj ho)
        clear hty ho
        refine step_pure (.iface 61 (.agg #[])) (wanted_free rfl) ?_ (Ext.refl _) rfl
        simp [execOp, Act.eval, h3, go_sem]
      | 2, ho =>
        obtain rfl := (Option.some.inj ho)
        clear hty ho
        refine step_pure (.agg #[.int .u8 4, .int .i64 n, .int .u64 (b : Int), .string t]) (wanted_free rfl) ?_ (Ext.refl _) rfl
        simp [execOp, Act.eval, h1, c0, c1, c2, c3, go_sem]
      | 3, ho =>
        have h15 : tmps[15]?.getD undef = .iface 61 (.agg #[]) := hty 1 15 (by kernel_rfl) (by obtain rfl := (Option.some.inj ho); rfl)
        have h16 : tmps[16]?.getD undef = .agg #[.int .u8 4, .int .i64 n, .int .u64 (b : Int), .string t] := hty 2 16 (by kernel_rfl) (by obtain rfl := (Option.some.inj ho); rfl)
        obtain rfl := (Option.some.inj ho)
        clear hty ho
        refine step_call 71 #[.agg #[], .agg #[.int .u8 4, .int .i64 n, .int .u64 (b : Int), .string t]] (wanted_free rfl) ?_ ?_
        · simp [execOp, Act.eval, h15, h16, M2.out, go_sem]
        · exact (KO.out _).mono fun e w' h => ⟨_, h.1, h.2, rfl⟩
      | 4, ho =>
        have h14 : tmps[14]?.getD undef = .agg #[.int .u8 4, .int .i64 n, .int .u64 (b : Int), .string t] := hty 0 14 (by kernel_rfl) (by obtain rfl := (Option.some.inj ho); rfl)
        have h17 : tmps[17]?.getD undef = vv 4 0 0 t := hty 3 17 (by kernel_rfl) (by obtain rfl := (Option.some.inj ho); rfl)
        obtain rfl := (Option.some.inj ho)
        clear hty ho
        refine step_pure (.bool Z) (wanted_free rfl) ?_ (Ext.refl _) rfl
        have q' : (binOp .neq 33 (.agg #[.int .u8 4, .int .i64 n, .int .u64 (b : Int), .string t]) (.agg #[.int .u8 4, .int .i64 0, .int .u64 0, .string t])).run Try.prog wr = .ok (.bool Z) wr := Q.out wr
        have h17' : tmps[17]?.getD undef = .agg #[.int .u8 4, .int .i64 0, .int .u64 0, .string t] := h17
        simp [execOp, Act.eval, h14, h17', run_eqGuard_agg, q']
      | (j + 5), hj => exact absurd hj (by simp)
    · intro tmps w5 hle hs hfr hty
      have h18 : tmps[18]?.getD undef = .bool Z := hty 4 18 (by kernel_rfl)
      have hfe := frame_eq [14, 15, 16, 17, 18] hs hfr (by kernel_rfl)
      rw [hfe]
      clear hfe hfr hs hty
      simp only [List.foldl_cons, List.foldl_nil]
      rw [h18]
      generalize tmps[14]?.getD undef = x14
      generalize tmps[15]?.getD undef = x15
      generalize tmps[16]?.getD undef = x16
      generalize tmps[17]?.getD undef = x17
      clear h18
      simp only [List.setIfInBounds_toArray, List.set_cons_succ, List.set_cons_zero]
      have HY := hid (HX.out.trans hle)
      clear hle
      cases Z
      all_goals
        go_wp2_with fail
        go_ret
        refine Says.mk_int ?_ HY.out
        have e0 := HZ.out
        have e1 := HE.out
        have e2 := HC.out
        have ht0 : t = noText ↔ t.size = 0 := text_none t
        simp only [true_and, and_true, Bool.false_eq_true, false_iff, true_iff, Decidable.not_not] at e0
        (repeat' split at e1) <;> (repeat' split at e2) <;> first | omega | (exfalso; omega)
  · have h0' : (E != 0) = true := bne_iff_ne.2 h0
    go_wp2_with fail
    go_ret
    refine Says.mk_int ?_ HX.out
    have e1 := HE.out
    have e2 := HC.out
    (repeat' split at e1) <;> (repeat' split at e2) <;> omega

set_option maxRecDepth 100000 in
theorem vcheck_none (k : Nat) (n : Int) (b : Nat) (t : ByteArray) (w : World) (hk : k < 1 ∨ 4 < k) : Calls Try.prog 22 #[vv k n b t] w (Says w (.int .i64 (checkV k n b t))) := by
  rw [check_kind hk]
  have kn := fun W => need_any k W
  rw [need_none hk] at kn
  have kf := fun W => none_fault k n b t W
  have m1 := m_none_fault
  unfold vv at kf ⊢
  clear hk
  go_enter Try.func22, Try.ntmps22
  go_wp2_with ((with_reducible show Calls _ 26 _ _ _); refine (kn _).mono ?_; rintro e w1 ⟨rfl, rfl⟩)
  refine (kf _).mono ?_
  rintro e w1 ⟨rfl, hx⟩
  have HX := hid ((Ext.alloc w _).trans hx)
  clear hx kf
  go_wp2_with fail
  go_ret
  exact Says.mk_int rfl HX.out

end Go.Proofs.Ytbgapkhcaideiaa
