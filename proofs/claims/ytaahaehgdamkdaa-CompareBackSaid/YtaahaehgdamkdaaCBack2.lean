/- Sums and differences of values undo each other (the walk). Conditions: the reach of a string, numbers within their kinds. -/
import Derived.Test.YtaahaehgdamkdaaCBack
import Derived.Test.YtaahaehgdamkdaaCBackM
import Derived.Test.YtaahaehgdamkdaaVV6
namespace Go.Proofs.Ytaahaehgdamkdaa
open Go Go.RowKit

theorem minus_may {k : Nat} {n : Int} {b : Nat} {t : ByteArray} {l : Nat} {m : Int} {c : Nat} {u : ByteArray} (h : (minusV k n b t l m c u).2 = true) :
    checkV (minusV k n b t l m c u).1.k (minusV k n b t l m c u).1.n (minusV k n b t l m c u).1.b (minusV k n b t l m c u).1.t = 0 := by
  rcases minus_cases (k := k) (n := n) (b := b) (t := t) (l := l) (m := m) (c := c) (u := u) with e | ⟨x, e⟩ | ⟨_, _, _, _, r0, r1, e⟩
  · rw [e] at h; cases h
  · rw [e]; exact real_may _
  · rw [e]; exact int_may r0 r1
theorem plus_bounds {k : Nat} {n : Int} {b : Nat} {t : ByteArray} {l : Nat} {m : Int} {c : Nat} {u : ByteArray} (hb : b ≤ 18446744073709551615) (hc : c ≤ 18446744073709551615) :
    (plusV k n b t l m c u).1.b ≤ 18446744073709551615 ∧ (plusV k n b t l m c u).1.t.size ≤ 9223372036854775807 := by
  have h0 : noText.size ≤ 9223372036854775807 := by decide
  rcases plus_cases k n b t l m c u with ⟨e, _⟩ | ⟨_, _, _, _, _, e⟩ | ⟨_, _, _, _, _, _, e⟩
  · rw [e]; exact ⟨Nat.zero_le _, h0⟩
  · rw [e]
    have h1 := bits_lt k n b hb
    have h2 := bits_lt l m c hc
    have h3 := (add_clean (bitsV k n b) (bitsV l m c) (by omega) (by omega)).2
    have h4 := clean_lt h3
    refine ⟨?_, h0⟩
    show cleanZ (addZ (bitsV k n b) (bitsV l m c)) ≤ _
    omega
  · rw [e]; exact ⟨Nat.zero_le _, h0⟩

theorem cback_law (k : Nat) (n : Int) (b : Nat) (t : ByteArray) (l : Nat) (m : Int) (c : Nat) (u : ByteArray) (w : World) (hk : k ≤ 255) (hl : l ≤ 255) (hn0 : -9223372036854775808 ≤ n) (hn1 : n ≤ 9223372036854775807) (hm0 : -9223372036854775808 ≤ m) (hm1 : m ≤ 9223372036854775807) (hb : b ≤ 18446744073709551615) (hc : c ≤ 18446744073709551615) (ht : t.size ≤ 9223372036854775807) (hu : u.size ≤ 9223372036854775807) : Calls Try.prog 7 #[.agg #[.int .u8 (k : Int), .int .i64 n, .int .u64 (b : Int), .string t], .agg #[.int .u8 (l : Int), .int .i64 m, .int .u64 (c : Int), .string u]] w (Says w (.bool true)) := by
  have hm1' := fun W => cplus_any k n b t l m c u W hk hl hn0 hn1 hm0 hm1 hb hc ht hu
  have hm2' := fun W => cplus_any l m c u k n b t W hl hk hm0 hm1 hn0 hn1 hc hb hu ht
  have hm3' := fun W => cminus_any k n b t l m c u W hk hl hn0 hn1 hm0 hm1 hb hc ht hu
  rw [← plus_turn k n b t l m c u] at hm2'
  have g1 := @plus_kind k n b t l m c u
  have g2 := @plus_none k n b t l m c u
  have g3 := @plus_may k n b t l m c u
  have g4 := @plus_minus k n b t l m c u
  have g5 := @plus_bounds k n b t l m c u hb hc
  have d1 := @minus_none k n b t l m c u
  have d2 := @minus_may k n b t l m c u
  have d3 := @minus_plus k n b t l m c u
  have ks := fun W => csum_any k l W hk hl
  obtain ⟨⟨p1, p2, p3, p4⟩, pe, hp⟩ : ∃ X E, plusV k n b t l m c u = (X, E) := ⟨_, _, rfl⟩
  obtain ⟨⟨q1, q2, q3, q4⟩, qe, hq⟩ : ∃ X E, minusV k n b t l m c u = (X, E) := ⟨_, _, rfl⟩
  rw [hp] at hm1' hm2' g1 g2 g3 g4 g5
  rw [hq] at hm3' d1 d2 d3
  have hno : qe = false → q1 = 0 ∧ q2 = 0 ∧ q3 = 0 ∧ q4 = noText := fun h => by
    have e := d1 h
    unfold VZ.none at e
    injection e with e1 e2 e3 e4
    exact ⟨e1, e2, e3, e4⟩
  have hd : qe = true → q1 = 1 → ∀ W, Calls Try.prog 13 #[.agg #[.int .u8 (q1 : Int), .int .i64 q2, .int .u64 (q3 : Int), .string q4], .agg #[.int .u8 (l : Int), .int .i64 m, .int .u64 (c : Int), .string u]] W (fun e w' => e = .returned (.tuple #[.agg #[.int .u8 (k : Int), .int .i64 n, .int .u64 (b : Int), .string t], .bool true]) ∧ Ext W w') := fun h h1 W => by
    have e := d3 h h1
    have cp := check_parts (k := q1) (n := q2) (b := q3) (t := q4) (d2 h)
    have h1' : q1 = 1 := h1
    have b1 : q3 = 0 := by omega
    have b2 : q4 = noText := by
      rcases cp with p | p | p | p
      · exact p.2.2.2.2
      · omega
      · omega
      · omega
    have z := cplus_any q1 q2 q3 q4 l m c u W (by omega) hl (by omega) (by omega) hm0 hm1 (by omega) hc (by rw [b2]; decide) hu
    rw [e] at z
    exact z
  cases pe
  · have e := g2 rfl
    unfold VZ.none at e
    injection e with e1 e2 e3 e4
    subst e1; subst e2; subst e3; subst e4
    exact cback_no k n b t l m c u 0 0 0 noText q1 q2 q3 q4 qe w ht hu hm1' hm2' hm3' hno hd
  · have e := g1 rfl
    rw [← e] at ks
    have kc : ∀ W, Calls Try.prog 25 #[.agg #[.int .u8 (p1 : Int), .int .i64 p2, .int .u64 (p3 : Int), .string p4]] W (fun e w' => e = .returned (.int .i64 0) ∧ Ext W w') := fun W => by
      have z := vcheck_free p1 p2 p3 p4 W g5.1 g5.2
      rw [g3 rfl] at z
      exact z
    by_cases h1 : p1 = 1
    · have kms : ∀ W, Calls Try.prog 15 #[.agg #[.int .u8 (p1 : Int), .int .i64 p2, .int .u64 (p3 : Int), .string p4], .agg #[.int .u8 (l : Int), .int .i64 m, .int .u64 (c : Int), .string u]] W (fun e w' => e = .returned (.tuple #[.agg #[.int .u8 (k : Int), .int .i64 n, .int .u64 (b : Int), .string t], .bool true]) ∧ Ext W w') := fun W => by
        have e2 := g4 rfl h1
        have cp := check_parts (k := p1) (n := p2) (b := p3) (t := p4) (g3 rfl)
        have h1' : p1 = 1 := h1
        have z := cminus_any p1 p2 p3 p4 l m c u W (by omega) hl (by omega) (by omega) hm0 hm1 g5.1 hc g5.2 hu
        rw [e2] at z
        exact z
      exact cback_int k n b t l m c u p1 p2 p3 p4 q1 q2 q3 q4 qe w ht hu hm1' hm2' hm3' hno hd ks kc h1 kms
    · exact cback_real k n b t l m c u p1 p2 p3 p4 q1 q2 q3 q4 qe w ht hu hm1' hm2' hm3' hno hd ks kc h1
end Go.Proofs.Ytaahaehgdamkdaa
