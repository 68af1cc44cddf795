/- What holds of whole numbers against doubles, and of order. Plain; conditions: none. -/
import Derived.Test.YtmgcikjpgbhpgaaRLaw
namespace Go.Proofs.Ytmgcikjpgbhpgaa
open Go

/-! ### order -/
/-! ### whole numbers -/
theorem nQ_abs (n : Int) : (n * (Qz : Int)).natAbs = n.natAbs * Qz := by rw [Int.natAbs_mul]; rfl
theorem srk_int (n : Int) : srkZ (intZ n) = rdI (n * (Qz : Int)) := by
  rw [intZ_Q, ← nQ_abs]
  refine srk_rd ?_
  rcases Int.lt_trichotomy n 0 with h | h | h
  · right; rw [decide_eq_true h, decide_eq_true (nQ_neg h)]
  · left; rw [h, Int.zero_mul]
  · right; rw [decide_eq_false (by omega), decide_eq_false (by have := nQ_pos h; omega)]
theorem pow_swap (a b c d : Nat) (h : a + b = c + d) : 2 ^ a * 2 ^ b = 2 ^ c * 2 ^ d := by rw [← Nat.pow_add, ← Nat.pow_add, h]
theorem pow_swap' (m n a b c d x : Nat) (hm : 2 ^ a = m) (hn : 2 ^ c = n) (hx : x = 2 ^ b) (h : a + b = c + d) : m * x = n * 2 ^ d := by rw [← hm, ← hn, hx]; exact pow_swap a b c d h
theorem Q_is : Qz = 2 ^ q74 := rfl
def q84 : Nat := 1084
def q75 : Nat := 1075
theorem rnd_int_at (e : Nat) (he : 4611686018427387904 * Qz = 4503599627370496 * 2 ^ e) (he2 : e ≤ 1084) {k : Nat} (h : k ≤ 4611686018427387904) : rnd (k * Qz) ≤ 4886405595696988160 := by
  have h1 : k * Qz ≤ 4503599627370496 * 2 ^ e := by rw [← he]; exact Nat.mul_le_mul h (Nat.le_refl _)
  refine Nat.le_trans (rnd_mono h1) ?_
  have hp : 0 < 2 ^ e := Nat.pow_pos (by decide)
  have hd : dn (4503599627370496 * 2 ^ e) = e := dn_uniq (Or.inr (Nat.le_refl _)) ((Nat.mul_lt_mul_right hp).2 (by decide))
  unfold rnd
  rw [hd, rhe_exact (Nat.mul_mod_left _ _), Nat.mul_div_cancel _ hp]
  omega
theorem rnd_int {k : Nat} (h : k ≤ 4611686018427387904) : rnd (k * Qz) ≤ 4886405595696988160 :=
  rnd_int_at q84 (pow_swap' _ _ 62 q74 52 q84 Qz (by decide) (by decide) Q_is (by decide)) (Nat.le_refl _) h
theorem int_parts {n : Int} (h0 : -4611686018427387904 ≤ n) (h1 : n ≤ 4611686018427387904) :
    rungZ (intZ n) = rnd (n.natAbs * Qz) ∧ rungZ (intZ n) ≤ 4886405595696988160 ∧ sgZ (intZ n) = decide (n < 0) ∧ kindZ (intZ n) ≠ 5 ∧ kindZ (intZ n) ≠ 4 ∧ intZ n < 18446744073709551616 := by
  have hb := rnd_int (k := n.natAbs) (by omega)
  obtain ⟨h2, h3, h4⟩ := rung_rd (decide (n < 0)) (n.natAbs * Qz)
  rw [← intZ_Q] at h2 h3 h4
  have h5 := @kind_fin (intZ n)
  have h6 : rungZ (intZ n) = rnd (n.natAbs * Qz) := by omega
  refine ⟨h6, by omega, h3, ?_, ?_, h4⟩
  · exact (h5.2 (by omega)).1
  · exact (h5.2 (by omega)).2
theorem int_less {a b : Int} (h : a ≤ b) : lessZ (intZ b) (intZ a) = false := by
  rw [Bool.eq_false_iff]
  intro h2
  obtain ⟨_, _, h3⟩ := less_true.1 h2
  rw [srk_int, srk_int] at h3
  have hQ := Q_pos
  have := rdI_mono (show a * (Qz : Int) ≤ b * (Qz : Int) from Int.mul_le_mul_of_nonneg_right h (by omega))
  omega

theorem pow_le_inv {a b : Nat} (h : 2 ^ a ≤ 2 ^ b) : a ≤ b := by
  rcases Nat.lt_or_ge b a with h1 | h1
  · have : 2 ^ (b + 1) ≤ 2 ^ a := Nat.pow_le_pow_right (by decide) h1
    rw [Nat.pow_succ] at this
    have := Nat.pow_pos (n := b) (show 0 < 2 by decide)
    omega
  · exact h1
theorem int_exact_at (e : Nat) (he : 9007199254740992 * Qz = 4503599627370496 * 2 ^ e) (hq : ∀ d, d < e → Qz % 2 ^ d = 0) {k : Nat} (h : k ≤ 9007199254740992) : k * Qz % 2 ^ dn (k * Qz) = 0 := by
  generalize Qz = Q at *
  rcases Nat.lt_or_ge (k * Q) 9007199254740992 with h1 | h1
  · rw [dn_small h1, Nat.pow_zero, Nat.mod_one]
  · obtain ⟨a, b, c⟩ := dn_big h1
    have h2 : k * Q ≤ 9007199254740992 * Q := Nat.mul_le_mul h (Nat.le_refl _)
    have h3 : 2 ^ dn (k * Q) ≤ 2 ^ e := Nat.le_of_mul_le_mul_left (by omega : 4503599627370496 * 2 ^ dn (k * Q) ≤ 4503599627370496 * 2 ^ e) (by decide)
    have h4 := pow_le_inv h3
    rcases Nat.lt_or_ge (dn (k * Q)) e with h5 | h5
    · have h6 := hq _ h5
      exact Nat.mod_eq_zero_of_dvd (Nat.dvd_trans (Nat.dvd_of_mod_eq_zero h6) ⟨k, Nat.mul_comm _ _⟩)
    · have h6 : dn (k * Q) = e := by omega
      rw [h6] at b ⊢
      have h7 : k * Q = 4503599627370496 * 2 ^ e := by omega
      rw [h7]
      exact Nat.mul_mod_left _ _
theorem Q_dvd (n d : Nat) (h : d ≤ n) : 2 ^ n % 2 ^ d = 0 := by
  have e : 2 ^ n = 2 ^ d * 2 ^ (n - d) := by rw [← Nat.pow_add]; exact congrArg (fun i => 2 ^ i) (by omega)
  exact Nat.mod_eq_zero_of_dvd ⟨_, e⟩
theorem int_exact {k : Nat} (h : k ≤ 9007199254740992) : k * Qz % 2 ^ dn (k * Qz) = 0 :=
  int_exact_at q75 (pow_swap' _ _ 53 q74 52 q75 Qz (by decide) (by decide) Q_is (by decide)) (fun d hd => by rw [Q_is]; exact Q_dvd q74 d (Nat.le_of_lt_succ hd)) h
theorem int_back {n : Int} (h0 : -9007199254740992 ≤ n) (h1 : n ≤ 9007199254740992) : wholeZ (intZ n) = (n, true) := by
  obtain ⟨p1, p2, p3, p4, p5, _⟩ := int_parts (n := n) (by omega) (by omega)
  have hv : valZ (intZ n) = n.natAbs * Qz := by
    unfold valZ
    rw [p1, worth_rnd (int_exact (by omega))]
  have hx : exZ (intZ n) ≠ 2047 := by
    intro h
    have h2 := @kind_fin (intZ n)
    have h3 := @rung_parts (intZ n)
    have := h2.1 ⟨p4, p5⟩
    omega
  rw [whole_is hx (by omega) hv, p3]
  unfold signI
  by_cases h : n < 0
  · rw [decide_eq_true h, if_pos rfl, show -((n.natAbs : Nat) : Int) = n by omega]
  · rw [decide_eq_false h, if_neg (by decide), show ((n.natAbs : Nat) : Int) = n by omega]

/-- the cases of holding a whole number against a double -/
theorem versus_cases {n : Int} {u : Nat} (h0 : -4611686018427387904 ≤ n) (h1 : n ≤ 4611686018427387904) :
    (kindZ u = 5 ∧ versusZ n u = (0, false)) ∨ (kindZ u = 4 ∧ versusZ n u = (if sgZ u then 1 else -1, true)) ∨ (kindZ u ≠ 5 ∧ kindZ u ≠ 4 ∧ versusZ n u = (cmpI (n * (Qz : Int)) (svalZ u), true)) := by
  by_cases h5 : kindZ u = 5
  · exact Or.inl ⟨h5, versus_out (Or.inl h5)⟩
  · have hb : ¬ (kindZ u = 5 ∨ n < -4611686018427387904 ∨ 4611686018427387904 < n) := by omega
    by_cases h4 : kindZ u = 4
    · exact Or.inr (Or.inl ⟨h4, versus_inf hb h4⟩)
    · exact Or.inr (Or.inr ⟨h5, h4, versus_fin hb h4⟩)
theorem versus_told {n : Int} {u : Nat} (h0 : -4611686018427387904 ≤ n) (h1 : n ≤ 4611686018427387904) : (versusZ n u).2 = decide (kindZ u ≠ 5) ∧ -1 ≤ (versusZ n u).1 ∧ (versusZ n u).1 ≤ 1 := by
  rcases versus_cases (u := u) h0 h1 with ⟨h, e⟩ | ⟨h, e⟩ | ⟨h, _, e⟩
  · rw [e]; exact ⟨(decide_eq_false (by omega)).symm, by decide, by decide⟩
  · rw [e]; exact ⟨(decide_eq_true (by omega)).symm, by cases sgZ u <;> decide, by cases sgZ u <;> decide⟩
  · rw [e]
    have := cmp_bound (n * (Qz : Int)) (svalZ u)
    exact ⟨(decide_eq_true h).symm, this.1, this.2⟩
theorem versus_mono {a b : Int} {u : Nat} (h0 : -4611686018427387904 ≤ a) (hab : a ≤ b) (h1 : b ≤ 4611686018427387904) : (versusZ a u).1 ≤ (versusZ b u).1 := by
  have hQ := Q_pos
  have hm : a * (Qz : Int) ≤ b * (Qz : Int) := Int.mul_le_mul_of_nonneg_right hab (by omega)
  rcases versus_cases (n := a) (u := u) h0 (by omega) with ⟨h, e⟩ | ⟨h, e⟩ | ⟨h, h4, e⟩ <;> rcases versus_cases (n := b) (u := u) (by omega) h1 with ⟨k, f⟩ | ⟨k, f⟩ | ⟨k, k4, f⟩
  all_goals first
    | (exfalso; omega)
    | (rw [e, f])
  · exact Int.le_refl _
  · exact Int.le_refl _
  · unfold cmpI
    show (if _ then _ else _) ≤ (if _ then _ else _ : Int)
    (repeat' split) <;> omega

theorem versus_zero_iff {n : Int} {u : Nat} (h0 : -4611686018427387904 ≤ n) (h1 : n ≤ 4611686018427387904) (hk : kindZ u ≠ 5) :
    (versusZ n u).1 = 0 ↔ (wholeZ u).2 = true ∧ (wholeZ u).1 = n := by
  have hQ := Q_pos
  rcases versus_cases (u := u) h0 h1 with ⟨h, e⟩ | ⟨h, e⟩ | ⟨h, h4, e⟩
  · exact absurd h hk
  · have hx : exZ u = 2047 := by
      have := kind_inf.1 h
      have := @rung_parts u; have := fr_lt u
      omega
    rw [e, whole_inf hx]
    cases sgZ u <;> simp
  · have hx : exZ u ≠ 2047 := by
      intro h2
      have h3 := kind_fin.1 ⟨h, h4⟩
      have := @rung_parts u
      omega
    have hz : cmpI (n * (Qz : Int)) (svalZ u) = 0 ↔ n * (Qz : Int) = svalZ u := by
      unfold cmpI
      (repeat' split) <;> omega
    rw [e]
    show cmpI (n * (Qz : Int)) (svalZ u) = 0 ↔ _
    rw [hz]
    constructor
    · intro h2
      have h3 : valZ u = n.natAbs * Qz := by
        rw [← nQ_abs, h2]
        unfold svalZ
        split <;> omega
      rw [whole_is hx (by omega) h3]
      refine ⟨rfl, ?_⟩
      show signI (sgZ u) n.natAbs = n
      unfold svalZ at h2
      unfold signI
      cases hs : sgZ u <;> rw [hs] at h2 <;> simp only [if_true, if_false, Bool.false_eq_true] at h2 ⊢
      · rcases Int.lt_or_le n 0 with h5 | h5
        · have := nQ_neg h5; omega
        · omega
      · rcases Int.lt_or_le 0 n with h5 | h5
        · have := nQ_pos h5; omega
        · omega
    · rintro ⟨h2, h3⟩
      unfold wholeZ at h2 h3
      by_cases hc : exZ u ≠ 2047 ∧ valZ u % Qz = 0 ∧ valZ u / Qz ≤ 4611686018427387904
      · rw [if_pos hc] at h3
        have hd : valZ u / Qz * Qz = valZ u := Nat.div_mul_cancel (Nat.dvd_of_mod_eq_zero hc.2.1)
        have h4 : signI (sgZ u) (valZ u / Qz) = n := h3
        rw [← h4]
        unfold signI svalZ
        have hd2 : ((valZ u / Qz : Nat) : Int) * (Qz : Int) = (valZ u : Int) := by rw [← Int.natCast_mul, hd]
        split
        · rw [Int.neg_mul, hd2]
        · exact hd2
      · rw [if_neg hc] at h2; cases h2

theorem versus_less {n : Int} {u : Nat} (h0 : -4611686018427387904 ≤ n) (h1 : n ≤ 4611686018427387904) (hk : kindZ u ≠ 5) (hx : (versusZ n u).1 ≠ 0) :
    decide ((versusZ n u).1 < 0) = lessZ (intZ n) u ∨ equalZ (intZ n) u = true := by
  obtain ⟨_, p2, _, p4, p5, _⟩ := int_parts h0 h1
  have hb : -4886405595696988160 ≤ srkZ (intZ n) ∧ srkZ (intZ n) ≤ 4886405595696988160 := by unfold srkZ; split <;> omega
  rcases versus_cases (u := u) h0 h1 with ⟨h, e⟩ | ⟨h, e⟩ | ⟨h, h4, e⟩
  · exact absurd h hk
  · left
    have hi := inf_srk h
    rw [e]
    cases hs : sgZ u <;> rw [hs] at hi <;> simp only [if_true, if_false, Bool.false_eq_true] at hi
    · rw [less_true.2 ⟨p4, hk, by omega⟩]; rfl
    · have : lessZ (intZ n) u = false := by
        rw [Bool.eq_false_iff]
        intro h2
        have := (less_true.1 h2).2.2
        omega
      rw [this]; rfl
  · rw [e] at hx ⊢
    have hf := kind_fin.1 ⟨h, h4⟩
    have hu : rdI (svalZ u) = srkZ u := sval_srk (by omega)
    have hs := srk_int n
    have hx2 : cmpI (n * (Qz : Int)) (svalZ u) ≠ 0 := hx
    show decide (cmpI (n * (Qz : Int)) (svalZ u) < 0) = _ ∨ _
    rcases Int.lt_trichotomy (n * (Qz : Int)) (svalZ u) with h5 | h5 | h5
    · have := rdI_mono (Int.le_of_lt h5)
      rw [cmp_lt h5]
      rcases Int.lt_or_le (srkZ (intZ n)) (srkZ u) with h6 | h6
      · left; rw [less_true.2 ⟨p4, hk, h6⟩]; rfl
      · right; exact equal_true.2 ⟨p4, hk, by omega⟩
    · exact absurd (cmp_eq h5) hx2
    · have := rdI_mono (Int.le_of_lt h5)
      rw [cmp_gt h5]
      left
      have : lessZ (intZ n) u = false := by
        rw [Bool.eq_false_iff]
        intro h2
        have := (less_true.1 h2).2.2
        omega
      rw [this]; rfl

end Go.Proofs.Ytmgcikjpgbhpgaa
