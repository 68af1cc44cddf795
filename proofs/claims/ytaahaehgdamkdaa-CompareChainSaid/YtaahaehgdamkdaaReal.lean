/- The contracts of the landed program's real: Kind, Clean, Rank, Neg, Less, Equal, Add, OfInt, Whole, Versus tell what the specification's functions say; and of what it takes of the library (Trunc, Compare, Or). Conditions: numbers within their kinds. -/
import Derived.Test.YtaahaehgdamkdaaBase
import Derived.Test.YtaahaehgdamkdaaRR5
import Derived.Deep.CutRange
namespace Go.Proofs.Ytaahaehgdamkdaa
open Go Go.RowKit

theorem xor_top (n x : Nat) (h : x < 2 ^ (n + 1)) : x ^^^ 2 ^ n = (x + 2 ^ n) % 2 ^ (n + 1) := by
  apply Nat.eq_of_testBit_eq
  intro i
  rw [Nat.testBit_xor, Nat.testBit_mod_two_pow, Nat.testBit_two_pow, Nat.add_comm x]
  rcases Nat.lt_trichotomy i n with h1 | h1 | h1
  · rw [Nat.testBit_two_pow_add_gt h1]
    have e1 : i < n + 1 := by omega
    have e2 : ¬ n = i := by omega
    simp [e1, e2]
  · subst h1
    rw [Nat.testBit_two_pow_add_eq]
    have e1 : i < i + 1 := by omega
    simp [e1]
  · rw [Nat.testBit_lt_two_pow (Nat.lt_of_lt_of_le h (Nat.pow_le_pow_right (by decide) h1))]
    have e1 : ¬ i < n + 1 := by omega
    have e2 : ¬ n = i := by omega
    simp [e1, e2]
theorem and_top (n x : Nat) : x &&& 2 ^ n = if x / 2 ^ n % 2 = 1 then 2 ^ n else 0 := by
  apply Nat.eq_of_testBit_eq
  intro i
  rw [Nat.testBit_and, Nat.testBit_two_pow]
  by_cases h1 : n = i
  · subst h1
    rw [Nat.testBit_eq_decide_div_mod_eq]
    by_cases h2 : x / 2 ^ n % 2 = 1
    · rw [if_pos h2, Nat.testBit_two_pow]; simp [h2]
    · rw [if_neg h2]; simp [h2]
  · split <;> simp [h1]

theorem u64_sign_off {x : Nat} (h1 : x ≤ 18446744073709551615) : bits .andNot .u64 (x : Int) 9223372036854775808 = (rungZ x : Int) := by
  rw [show (9223372036854775808 : Int) = ((9223372036854775808 : Nat) : Int) from rfl, u64_andNot_nat x 9223372036854775808 (by omega) (by decide)]
  have : x &&& (18446744073709551615 - 9223372036854775808) = x % 9223372036854775808 := Nat.and_two_pow_sub_one_eq_mod x 63
  rw [this]
  rfl
theorem u64_sign_on {x : Nat} (h1 : x ≤ 18446744073709551615) : (bits .and .u64 (x : Int) 9223372036854775808 != 0) = sgZ x := by
  rw [show (9223372036854775808 : Int) = ((9223372036854775808 : Nat) : Int) from rfl, u64_and_nat x 9223372036854775808 (by omega) (by decide)]
  have h : x &&& 9223372036854775808 = if x / 9223372036854775808 % 2 = 1 then 9223372036854775808 else 0 := and_top 63 x
  rw [h]
  unfold sgZ
  by_cases h2 : 9223372036854775808 ≤ x
  · rw [decide_eq_true h2, if_pos (by omega)]; rfl
  · rw [decide_eq_false h2, if_neg (by omega)]; rfl
theorem u64_sign_turn {x : Nat} (h1 : x ≤ 18446744073709551615) : bits .xor .u64 (x : Int) 9223372036854775808 = (((x + 9223372036854775808) % 18446744073709551616 : Nat) : Int) := by
  rw [show (9223372036854775808 : Int) = ((9223372036854775808 : Nat) : Int) from rfl, u64_xor_nat x 9223372036854775808 (by omega) (by decide)]
  have h : x ^^^ 9223372036854775808 = (x + 9223372036854775808) % 18446744073709551616 := xor_top 63 x (by omega)
  rw [h]

def SaysB (w : World) (t : Int × Bool) (e : Ending) (w' : World) : Prop := e = .returned (.tuple #[.int .i64 t.1, .bool t.2]) ∧ Ext w w'
theorem SaysB.mk {w w' : World} {t : Int × Bool} {x : Int} {b : Bool} (h : t = (x, b)) (hx : Ext w w') : SaysB w t (.returned (.tuple #[.int .i64 x, .bool b])) w' := by
  subst h
  exact ⟨rfl, hx⟩

set_option maxRecDepth 100000 in
set_option maxHeartbeats 400000 in
theorem kind_just (u : Nat) (w : World) (hu : u ≤ 18446744073709551615) : Calls Try.prog 26 #[.int .u64 (u : Int)] w (Just w (.int .u8 (kindZ u : Int))) := by
  have hb := u64_sign_off hu
  have hf := @kind_fin u
  have hn := @kind_nan u
  have hi := @kind_inf u
  have hz := @kind_zero u
  have ht : kindZ u = 2 ↔ rungZ u ≠ 0 ∧ rungZ u ≤ 4503599627370495 := by
    have := fr_lt u; have := ex_lt u
    rw [rung_parts]; unfold kindZ
    repeat' split
    all_goals omega
  have hk : 1 ≤ kindZ u ∧ kindZ u ≤ 5 := by unfold kindZ; (repeat' split) <;> omega
  have hr := rung_lt u
  generalize rungZ u = r at *
  generalize kindZ u = k at *
  have F1 := hid hf
  have F2 := hid hn
  have F3 := hid hi
  have F4 := hid hz
  have F5 := hid ht
  have F6 := hid hk
  obtain ⟨z, hzz⟩ : ∃ z : Int, z = (r : Int) := ⟨_, rfl⟩
  rw [← hzz] at hb
  have F7 := hid hzz
  clear hf hn hi hz ht hk hr hzz
  go_enter Try.func26, Try.ntmps26
  go_wp2
  all_goals go_ret
  all_goals exact Just.mk_int (by have := F1.out; have := F2.out; have := F3.out; have := F4.out; have := F5.out; have := F6.out; have := F7.out; simp only [beq_iff_eq, beq_eq_false_iff_ne] at *; omega)

theorem is_num (u : Nat) (w : World) (hu : u ≤ 18446744073709551615) : Calls Try.prog 69 #[.int .u64 (u : Int)] w (Just w (.bool (!decide (kindZ u = 5)))) := by
  have k := fun W => kind_just u W hu
  go_enter Try.func69, Try.ntmps69
  go_wp2_with ((with_reducible show Calls _ 26 _ _ _); refine (k _).mono ?_; rintro e w1 ⟨rfl, rfl⟩)
  go_ret
  refine Just.mk_bool ?_
  by_cases h : kindZ u = 5
  · rw [h]; rfl
  · rw [decide_eq_false h, bne_iff_ne.2 (by omega)]; rfl

theorem clean_just (u : Nat) (w : World) (hu : u ≤ 18446744073709551615) : Calls Try.prog 49 #[.int .u64 (u : Int)] w (Just w (.int .u64 (cleanZ u : Int))) := by
  have k := fun W => is_num u W hu
  by_cases h : kindZ u = 5
  · rw [decide_eq_true h] at k
    go_enter Try.func49, Try.ntmps49
    go_wp2_with ((with_reducible show Calls _ 69 _ _ _); refine (k _).mono ?_; rintro e w1 ⟨rfl, rfl⟩)
    go_ret
    exact Just.mk_int (by unfold cleanZ; rw [if_pos h]; rfl)
  · rw [decide_eq_false h] at k
    go_enter Try.func49, Try.ntmps49
    go_wp2_with ((with_reducible show Calls _ 69 _ _ _); refine (k _).mono ?_; rintro e w1 ⟨rfl, rfl⟩)
    go_ret
    exact Just.mk_int (by unfold cleanZ; rw [if_neg h])

set_option maxRecDepth 100000 in
theorem neg_just (u : Nat) (w : World) (hu : u ≤ 18446744073709551615) : Calls Try.prog 45 #[.int .u64 (u : Int)] w (Just w (.int .u64 (negZ u : Int))) := by
  have hb := u64_sign_turn hu
  obtain ⟨y, hy⟩ : ∃ y, y = (u + 9223372036854775808) % 18446744073709551616 := ⟨_, rfl⟩
  rw [← hy] at hb
  have hyl : y ≤ 18446744073709551615 := by omega
  have kc := fun W => clean_just y W hyl
  have he : cleanZ y = negZ u := by
    have hr : rungZ y = rungZ u := by unfold rungZ; omega
    unfold cleanZ negZ
    rw [kind_of_rung hr, ← hy]
  rw [he] at kc
  clear hy he
  go_enter Try.func45, Try.ntmps45
  go_wp2_with ((with_reducible show Calls _ 49 _ _ _); refine (kc _).mono ?_; rintro e w1 ⟨rfl, rfl⟩)
  go_ret
  exact Just.mk_int rfl

set_option maxRecDepth 100000 in
set_option maxHeartbeats 400000 in
theorem rank_just (u : Nat) (w : World) (hu : u ≤ 18446744073709551615) : Calls Try.prog 80 #[.int .u64 (u : Int)] w (Just w (.int .u64 (rankZ u : Int))) := by
  have kn := fun W => is_num u W hu
  have kc := fun W => clean_just u W hu
  have hb := u64_sign_on hu
  have hnot : bits .xor .u64 IntKind.u64.max (u : Int) = 18446744073709551615 - (u : Int) := u64_not (by omega) (by omega)
  by_cases h : kindZ u = 5
  · have hc : cleanZ u = 9221120237041090560 := if_pos h
    have hr := rank_nan h
    rw [decide_eq_true h] at kn
    rw [hc] at kc
    go_enter Try.func80, Try.ntmps80
    go_wp2_with (first | ((with_reducible show Calls _ 69 _ _ _); refine (kn _).mono ?_; rintro e w1 ⟨rfl, rfl⟩) | ((with_reducible show Calls _ 49 _ _ _); refine (kc _).mono ?_; rintro e w1 ⟨rfl, rfl⟩))
    go_ret
    exact Just.mk_int (by rw [hr]; decide)
  · have hc : cleanZ u = u := if_neg h
    have hr : rankZ u = if 9223372036854775808 ≤ u then 18446744073709551615 - u else u + 9223372036854775808 := by unfold rankZ; rw [hc]
    rw [decide_eq_false h] at kn
    rw [hc] at kc
    unfold sgZ at hb
    by_cases h2 : 9223372036854775808 ≤ u
    · rw [decide_eq_true h2] at hb
      rw [if_pos h2] at hr
      go_enter Try.func80, Try.ntmps80
      go_wp2_with (first | ((with_reducible show Calls _ 69 _ _ _); refine (kn _).mono ?_; rintro e w1 ⟨rfl, rfl⟩) | ((with_reducible show Calls _ 49 _ _ _); refine (kc _).mono ?_; rintro e w1 ⟨rfl, rfl⟩))
      all_goals go_ret
      all_goals exact Just.mk_int (by omega)
    · rw [decide_eq_false h2] at hb
      rw [if_neg h2] at hr
      go_enter Try.func80, Try.ntmps80
      go_wp2_with (first | ((with_reducible show Calls _ 69 _ _ _); refine (kn _).mono ?_; rintro e w1 ⟨rfl, rfl⟩) | ((with_reducible show Calls _ 49 _ _ _); refine (kc _).mono ?_; rintro e w1 ⟨rfl, rfl⟩))
      all_goals go_ret
      all_goals exact Just.mk_int (by omega)

set_option maxHeartbeats 400000 in
theorem less_just (a b : Nat) (w : World) (ha : a ≤ 18446744073709551615) (hb : b ≤ 18446744073709551615) : Calls Try.prog 76 #[.int .u64 (a : Int), .int .u64 (b : Int)] w (Just w (.bool (lessZ a b))) := by
  have kf := from_run
  go_enter Try.func76, Try.ntmps76
  go_wp2_with fail
  go_ret
  exact Just.mk_bool (ord_lt ha hb)

set_option maxHeartbeats 400000 in
theorem equal_just (a b : Nat) (w : World) (ha : a ≤ 18446744073709551615) (hb : b ≤ 18446744073709551615) : Calls Try.prog 77 #[.int .u64 (a : Int), .int .u64 (b : Int)] w (Just w (.bool (equalZ a b))) := by
  have kf := from_run
  go_enter Try.func77, Try.ntmps77
  go_wp2_with fail
  go_ret
  exact Just.mk_bool (ord_eq ha hb)

set_option maxHeartbeats 400000 in
theorem ofint_just (n : Int) (w : World) : Calls Try.prog 61 #[.int .i64 n] w (Just w (.int .u64 (intZ n : Int))) := by
  have kb := bits_run
  go_enter Try.func61, Try.ntmps61
  go_wp2_with fail
  go_ret
  exact Just.mk_int (by rw [ofint_f64])

set_option maxHeartbeats 400000 in
theorem add_any (a b : Nat) (w : World) (ha : a ≤ 18446744073709551615) (hb : b ≤ 18446744073709551615) : Calls Try.prog 39 #[.int .u64 (a : Int), .int .u64 (b : Int)] w (Says w (.int .u64 (addZ a b : Int))) := by
  have kf := from_run
  have kb := bits_run
  have kc := clean_just
  have hz : addZ a b ≤ 18446744073709551615 := by have := (add_clean a b (by omega) (by omega)).2; omega
  have hcz : ¬ nanSum a b → cleanZ (addZ a b) = addZ a b := fun _ => (add_clean a b (by omega) (by omega)).1
  by_cases hn : nanSum a b
  · obtain ⟨N, hN, hk, hs⟩ := sum_nan a b w ha hb hn
    go_enter Try.func39, Try.ntmps39
    go_wp2_with ((with_reducible show Calls _ 49 _ _ _); refine (kc N _ hN).mono ?_; rintro e w1 ⟨rfl, rfl⟩)
    go_ret
    refine Says.mk_int ?_ (Ext.drew _)
    unfold cleanZ addZ
    rw [if_pos hk, if_pos hn]
  · have hs := sum_run a b w ha hb hn
    go_enter Try.func39, Try.ntmps39
    go_wp2_with ((with_reducible show Calls _ 49 _ _ _); refine (kc (addZ a b) _ hz).mono ?_; rintro e w1 ⟨rfl, rfl⟩)
    go_ret
    exact Says.mk_int (by first | rfl | rw [hcz hn]) (Ext.refl _)

/-! ### what the program takes of the library -/
theorem trunc_run (u : Nat) (w : World) (hu : u < 18446744073709551616) (h : rungZ u < 9218868437227405312) : (callFunc 87 #[.float .f64 u]).run Try.prog w = .ok (.value (.float .f64 (truncZ u))) w := by
  rw [run_callFunc_extern Try.func87 (by kernel_rfl) (by kernel_rfl) (by kernel_rfl) (e := Extern.MathFloor.toIntegral "math.archTrunc" .zero) (by kernel_rfl)]
  obtain ⟨m, p, r1, _, _⟩ := read_num hu h
  have hd : FloatKind.f64.decode u = .number (sgZ u) m p := r1
  have ht := trunc_word hu h
  rw [hd] at ht
  have key : Extern.MathFloor.toIntegral "math.archTrunc" .zero #[.float .f64 u] = pure (.float .f64 (truncZ u)) := by
    rw [← ht, ← hd]
    delta Extern.MathFloor.toIntegral
    show (match FloatKind.f64.decode u with | .nan s t => _ | d => pure (Value.float .f64 (FloatKind.f64.encode (d.integral .zero)))) = _
    rw [hd]
  rw [key]
  rfl

set_option maxHeartbeats 400000 in
theorem trunc_just (u : Nat) (w : World) (hu : u < 18446744073709551616) (h : rungZ u < 9218868437227405312) : Calls Try.prog 73 #[.float .f64 u] w (Just w (.float .f64 (truncZ u))) := by
  have kt := fun W => trunc_run u W hu h
  go_enter Try.func73, Try.ntmps73
  go_wp2_with fail
  go_ret
  exact ⟨rfl, rfl⟩

theorem nanf_just (a : Nat) (w : World) (ha : a ≤ 18446744073709551615) : Calls Try.prog 86 #[.float .f64 a] w (Just w (.bool (decide (kindZ a = 5)))) := by
  go_enter Try.func86, Try.ntmps86
  go_wp2
  go_ret
  refine Just.mk_bool ?_
  rw [ord_ne ha ha]
  unfold equalZ
  by_cases h : kindZ a = 5
  · rw [decide_eq_true h, decide_eq_false (by omega)]; rfl
  · rw [decide_eq_false h, decide_eq_true ⟨h, h, rfl⟩]; rfl
theorem nani_just (a : Int) (w : World) : Calls Try.prog 89 #[.int .i64 a] w (Just w (.bool false)) := by
  go_enter Try.func89, Try.ntmps89
  go_wp2
  go_ret
  exact Just.mk_bool (by simp)

set_option maxHeartbeats 400000 in
theorem cmpi_just (x y : Int) (w : World) : Calls Try.prog 75 #[.int .i64 x, .int .i64 y] w (Just w (.int .i64 (cmpI x y))) := by
  have k := nani_just
  go_enter Try.func75, Try.ntmps75
  go_wp2_with ((with_reducible show Calls _ 89 _ _ _); refine (k _ _).mono ?_; rintro e w1 ⟨rfl, rfl⟩)
  all_goals go_ret
  all_goals refine Just.mk_int ?_
  all_goals unfold cmpI
  all_goals ((repeat' split) <;> first | rfl | (exfalso; omega))

set_option maxHeartbeats 400000 in
theorem cmpf_just (a b : Nat) (w : World) (ha : a ≤ 18446744073709551615) (hb : b ≤ 18446744073709551615) (h5 : kindZ a ≠ 5) (h6 : kindZ b ≠ 5) :
    Calls Try.prog 72 #[.float .f64 a, .float .f64 b] w (Just w (.int .i64 (cmpI (srkZ a) (srkZ b)))) := by
  have k1 := fun W => nanf_just a W ha
  have k2 := fun W => nanf_just b W hb
  rw [decide_eq_false h5] at k1
  rw [decide_eq_false h6] at k2
  have hl := ord_lt ha hb
  have hg := ord_gt ha hb
  have l1 : lessZ a b = decide (srkZ a < srkZ b) := by unfold lessZ; rw [Bool.eq_iff_iff, decide_eq_true_iff, decide_eq_true_iff]; exact ⟨fun h => h.2.2, fun h => ⟨h5, h6, h⟩⟩
  have l2 : lessZ b a = decide (srkZ b < srkZ a) := by unfold lessZ; rw [Bool.eq_iff_iff, decide_eq_true_iff, decide_eq_true_iff]; exact ⟨fun h => h.2.2, fun h => ⟨h6, h5, h⟩⟩
  rw [l1] at hl
  rw [l2] at hg
  clear l1 l2
  rcases Int.lt_trichotomy (srkZ a) (srkZ b) with h | h | h
  · rw [cmp_lt h]
    rw [decide_eq_true h] at hl
    clear h hg
    go_enter Try.func72, Try.ntmps72
    go_wp2_with (first | ((with_reducible show Calls _ 86 #[.float .f64 a] _ _); refine (k1 _).mono ?_; rintro e w1 ⟨rfl, rfl⟩) | ((with_reducible show Calls _ 86 #[.float .f64 b] _ _); refine (k2 _).mono ?_; rintro e w1 ⟨rfl, rfl⟩))
    go_ret
    exact Just.mk_int rfl
  · rw [cmp_eq h]
    rw [decide_eq_false (by omega)] at hl
    rw [decide_eq_false (by omega)] at hg
    clear h
    go_enter Try.func72, Try.ntmps72
    go_wp2_with (first | ((with_reducible show Calls _ 86 #[.float .f64 a] _ _); refine (k1 _).mono ?_; rintro e w1 ⟨rfl, rfl⟩) | ((with_reducible show Calls _ 86 #[.float .f64 b] _ _); refine (k2 _).mono ?_; rintro e w1 ⟨rfl, rfl⟩))
    go_ret
    exact Just.mk_int rfl
  · rw [cmp_gt h]
    rw [decide_eq_false (by omega)] at hl
    rw [decide_eq_true h] at hg
    clear h
    go_enter Try.func72, Try.ntmps72
    go_wp2_with (first | ((with_reducible show Calls _ 86 #[.float .f64 a] _ _); refine (k1 _).mono ?_; rintro e w1 ⟨rfl, rfl⟩) | ((with_reducible show Calls _ 86 #[.float .f64 b] _ _); refine (k2 _).mono ?_; rintro e w1 ⟨rfl, rfl⟩))
    go_ret
    exact Just.mk_int rfl

/-- the two bounds, held against a double -/
theorem ord_low {u : Nat} (hu : u ≤ 18446744073709551615) : (FloatKind.f64.format.order u 14109777632551763968 == some Ordering.gt || FloatKind.f64.format.order u 14109777632551763968 == some Ordering.eq) = (!decide (kindZ u = 5) && decide ((-4886405595696988160 : Int) ≤ srkZ u)) := by
  rw [ord_gt hu (by decide), ord_eq hu (by decide)]
  unfold lessZ equalZ
  rw [low_parts.1, low_parts.2]
  by_cases h : kindZ u = 5
  · rw [decide_eq_true h, decide_eq_false (by omega), decide_eq_false (by omega)]; rfl
  · rw [decide_eq_false h, Bool.eq_iff_iff]
    simp only [Bool.or_eq_true, Bool.and_eq_true, decide_eq_true_iff, Bool.not_false, true_and]
    omega
theorem ord_high {u : Nat} (hu : u ≤ 18446744073709551615) : (FloatKind.f64.format.order u 4886405595696988160 == some Ordering.lt || FloatKind.f64.format.order u 4886405595696988160 == some Ordering.eq) = (!decide (kindZ u = 5) && decide (srkZ u ≤ 4886405595696988160)) := by
  rw [ord_lt hu (by decide), ord_eq hu (by decide)]
  unfold lessZ equalZ
  rw [high_parts.1, high_parts.2]
  by_cases h : kindZ u = 5
  · rw [decide_eq_true h, decide_eq_false (by omega), decide_eq_false (by omega)]; rfl
  · rw [decide_eq_false h, Bool.eq_iff_iff]
    simp only [Bool.or_eq_true, Bool.and_eq_true, decide_eq_true_iff, Bool.not_false, true_and]
    omega

set_option maxRecDepth 100000 in
set_option maxHeartbeats 400000 in
theorem within_just (u : Nat) (w : World) (hu : u ≤ 18446744073709551615) : Calls Try.prog 71 #[.float .f64 u] w (Just w (.bool (nearZ u))) := by
  have h1 := ord_low hu
  have h2 := ord_high hu
  have h3 := @near_bool u
  generalize (!decide (kindZ u = 5) && decide ((-4886405595696988160 : Int) ≤ srkZ u)) = A at *
  generalize (!decide (kindZ u = 5) && decide (srkZ u ≤ 4886405595696988160)) = B at *
  cases A
  · go_enter Try.func71, Try.ntmps71
    go_wp2
    all_goals go_ret
    all_goals exact Just.mk_bool (by first | exact h3 | (rw [h1, h2]; rfl) | (rw [h2]; rfl) | rfl)
  · go_enter Try.func71, Try.ntmps71
    go_wp2
    all_goals go_ret
    all_goals exact Just.mk_bool (by first | exact h3 | (rw [h1, h2]; rfl) | (rw [h2]; rfl) | rfl)

set_option maxRecDepth 100000 in
set_option maxHeartbeats 800000 in
theorem or_just (a b r : Int) (HR : Hid (r = if a ≠ 0 then a else b)) (g : Nat) (w : World) (hg : w.heap[g]? = some (.cells #[.int .i64 a, .int .i64 b] 3 (0, 0))) :
    Calls Try.prog 74 #[.slice (some ⟨g, 0, none⟩) 2 2] w (Just w (.int .i64 r)) := by
  have hc0 : w.cell? ⟨g, 0, none⟩ = some (.int .i64 a) := by simp [World.cell?, hg]
  have hc1 : w.cell? ⟨g, 1, none⟩ = some (.int .i64 b) := by simp [World.cell?, hg]
  clear hg
  go_enter Try.func74, Try.ntmps74
  go_wp2_with fail
  go_loopw [8] (fun i wr => ∃ k : Nat, k ≤ 2 ∧ i = .int .i64 (k : Int) ∧ Hid (k = 0 ∨ (a = 0 ∧ k = 1) ∨ (a = 0 ∧ b = 0 ∧ k = 2)) ∧ wr = w)
    (fun i _ => 2 - (intOf i).toNat)
  case atStart => exact ⟨0, by omega, rfl, hid (Or.inl rfl), rfl⟩
  case round =>
    obtain ⟨k, hk, rfl, hcase, rfl⟩ := hrel
    rcases hcase.out with h | ⟨h, h2⟩ | ⟨h, h2, h3⟩
    · subst h
      clear hcase
      by_cases ha : a = 0
      · subst ha
        go_wp2_with fail
        go_roundw
        case rel => exact ⟨1, by omega, by go_num, hid (Or.inr (Or.inl (by simp))), trivial⟩
        case measure => simp [intOf]
      · have hb : (a != 0) = true := bne_iff_ne.2 ha
        have HA := hid ha
        clear ha
        go_wp2_with fail
        go_ret
        exact Just.mk_int (by rw [HR.out, if_pos HA.out])
    · subst h2
      subst h
      clear hcase
      by_cases hb : b = 0
      · subst hb
        go_wp2_with fail
        go_roundw
        case rel => exact ⟨2, by omega, by go_num, hid (Or.inr (Or.inr (by simp))), trivial⟩
        case measure => simp [intOf]
      · have hb' : (b != 0) = true := bne_iff_ne.2 hb
        clear hb
        go_wp2_with fail
        go_ret
        exact Just.mk_int (by rw [HR.out, if_neg (by decide)])
    · subst h3
      subst h
      subst h2
      clear hcase
      go_wp2_with fail
      go_ret
      exact Just.mk_int (by rw [HR.out, if_neg (by decide)])

set_option maxRecDepth 100000 in
set_option maxHeartbeats 800000 in
theorem versus_any (n : Int) (u : Nat) (w : World) (h0 : -9223372036854775808 ≤ n) (h1 : n ≤ 9223372036854775807) (hu : u ≤ 18446744073709551615) : Calls Try.prog 51 #[.int .i64 n, .int .u64 (u : Int)] w (SaysB w (versusZ n u)) := by
  have kf := from_run
  have kw := fun W => within_just u W hu
  have kn := fun W => is_num u W hu
  by_cases hout : n < -4611686018427387904 ∨ 4611686018427387904 < n
  · have HR := hid (versus_out (n := n) (u := u) (by omega))
    generalize versusZ n u = R at *
    rcases hout with h2 | h2
    · go_enter Try.func51, Try.ntmps51
      go_wp2_with fail
      all_goals go_ret2
      all_goals exact SaysB.mk HR.out (Ext.refl _)
    · go_enter Try.func51, Try.ntmps51
      go_wp2_with fail
      all_goals go_ret2
      all_goals exact SaysB.mk HR.out (Ext.refl _)
  · have l0 : -4611686018427387904 ≤ n := by omega
    have l1 : n ≤ 4611686018427387904 := by omega
    clear hout
    by_cases h5 : kindZ u = 5
    · have HR := hid (versus_out (n := n) (u := u) (Or.inl h5))
      rw [decide_eq_true h5] at kn
      generalize versusZ n u = R at *
      clear h5
      go_enter Try.func51, Try.ntmps51
      go_wp2_with ((with_reducible show Calls _ 69 _ _ _); refine (kn _).mono ?_; rintro e w1 ⟨rfl, rfl⟩)
      all_goals go_ret2
      all_goals exact SaysB.mk HR.out (Ext.refl _)
    · rw [decide_eq_false h5] at kn
      by_cases hn : rungZ u ≤ 4886405595696988160
      · have hb : nearZ u = true := decide_eq_true hn
        rw [hb] at kw
        have hfin : rungZ u < 9218868437227405312 := by omega
        have kt := fun W => trunc_just u W (by omega) hfin
        obtain ⟨tu, ts, tr, tv⟩ := trunc_facts hfin
        have t5 : kindZ (truncZ u) ≠ 5 := by have := @kind_nan (truncZ u); omega
        have hpt : partZ (truncZ u) = partZ u := by unfold partZ at *; rw [tv, Nat.mul_div_cancel _ Q_pos]
        have hc : ∀ W, (convert 75 3 (.float .f64 (truncZ u))).run Try.prog W = .ok (.int .i64 (signI (sgZ u) (partZ u))) W := fun W => by
          refine run_convert_float_int W _ _ .f64 .i64 (truncZ u) _ (by rw [Try.underlying75]; rfl) Try.underlying3 ?_
          rw [int_of_fin tu tr (by rw [hpt]; exact part_near hn), ts, hpt]
        have kq := fun W => cmpf_just (truncZ u) u W (by omega) hu t5 h5
        have HR := hid (versus_near l0 l1 hn)
        have hib := part_near hn
        have hI : -4611686018427387904 ≤ signI (sgZ u) (partZ u) ∧ signI (sgZ u) (partZ u) ≤ 4611686018427387904 := by unfold signI; split <;> omega
        generalize cmpI (srkZ (truncZ u)) (srkZ u) = C at *
        clear tu ts tr tv t5 hpt hib
        generalize truncZ u = T at *
        generalize signI (sgZ u) (partZ u) = I at *
        generalize versusZ n u = R at *
        obtain ⟨D, hD⟩ : ∃ D, D = if cmpI n I ≠ 0 then cmpI n I else C := ⟨_, rfl⟩
        rw [← hD] at HR
        have ko := fun g W h => or_just (cmpI n I) C D hD g W h
        clear hD
        have ki := fun W => cmpi_just n I W
        generalize cmpI n I = E at *
        clear h5 hn hb hfin
        go_enter Try.func51, Try.ntmps51
        go_wp2_with (first | ((with_reducible show Calls _ 69 _ _ _); refine (kn _).mono ?_; rintro e w1 ⟨rfl, rfl⟩) | ((with_reducible show Calls _ 71 _ _ _); refine (kw _).mono ?_; rintro e w1 ⟨rfl, rfl⟩) | ((with_reducible show Calls _ 73 _ _ _); refine (kt _).mono ?_; rintro e w1 ⟨rfl, rfl⟩) | ((with_reducible show Calls _ 72 _ _ _); refine (kq _).mono ?_; rintro e w1 ⟨rfl, rfl⟩) | ((with_reducible show Calls _ 75 _ _ _); refine (ki _).mono ?_; rintro e w1 ⟨rfl, rfl⟩) | ((with_reducible show Calls _ 74 _ _ _); refine (ko _ _ (heap_alloc_new _ _)).mono ?_; rintro e w1 ⟨rfl, rfl⟩))
        go_ret2
        exact SaysB.mk HR.out (Ext.alloc _ _)
      · have hb : nearZ u = false := decide_eq_false hn
        rw [hb] at kw
        have HR := hid (versus_far h5 l0 l1 (show 4886405595696988160 < rungZ u by omega))
        have hkz : kindZ 0 ≠ 5 := by decide
        have kq := fun W => cmpf_just 0 u W (by decide) hu hkz h5
        have hz : cmpI (srkZ 0) (srkZ u) = if sgZ u then 1 else -1 := by
          rw [show srkZ 0 = 0 by decide]
          unfold srkZ
          cases sgZ u
          · exact cmp_lt (by simp only [Bool.false_eq_true, if_false]; omega)
          · exact cmp_gt (by simp only [if_true]; omega)
        rw [hz] at kq
        generalize (if sgZ u then (1 : Int) else -1) = C at *
        generalize versusZ n u = R at *
        clear h5 hn hb hz hkz
        go_enter Try.func51, Try.ntmps51
        go_wp2_with (first | ((with_reducible show Calls _ 69 _ _ _); refine (kn _).mono ?_; rintro e w1 ⟨rfl, rfl⟩) | ((with_reducible show Calls _ 71 _ _ _); refine (kw _).mono ?_; rintro e w1 ⟨rfl, rfl⟩) | ((with_reducible show Calls _ 72 _ _ _); refine (kq _).mono ?_; rintro e w1 ⟨rfl, rfl⟩))
        all_goals go_ret2
        all_goals exact SaysB.mk HR.out (Ext.refl _)

/-! ### as the laws' walks take them -/
theorem neg_any (u : Nat) (w : World) (hu : u ≤ 18446744073709551615) : Calls Try.prog 45 #[.int .u64 (u : Int)] w (Says w (.int .u64 (negZ u : Int))) := (neg_just u w hu).mono (fun _ _ h => h.says)
theorem ofint_any (n : Int) (w : World) (_ : -9223372036854775808 ≤ n) (_ : n ≤ 9223372036854775807) : Calls Try.prog 61 #[.int .i64 n] w (Says w (.int .u64 (intZ n : Int))) := (ofint_just n w).mono (fun _ _ h => h.says)
end Go.Proofs.Ytaahaehgdamkdaa
