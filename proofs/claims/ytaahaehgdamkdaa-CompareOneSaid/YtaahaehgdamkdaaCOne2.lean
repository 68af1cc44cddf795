/- Just one of less, equal, greater holds of two values that may be, and are in order (the walk). Conditions: the reach of a string, numbers within their kinds. -/
import Derived.Test.YtaahaehgdamkdaaCOneA
import Derived.Test.YtaahaehgdamkdaaCOneB
import Derived.Test.YtaahaehgdamkdaaCOneC
namespace Go.Proofs.Ytaahaehgdamkdaa
open Go Go.RowKit

set_option maxRecDepth 100000 in
set_option maxHeartbeats 2000000 in
theorem cone_bad (k : Nat) (n : Int) (b : Nat) (t : ByteArray) (l : Nat) (m : Int) (c : Nat) (u : ByteArray) (w : World) (hk : k ≤ 255) (hl : l ≤ 255) (hn0 : -9223372036854775808 ≤ n) (hn1 : n ≤ 9223372036854775807) (hm0 : -9223372036854775808 ≤ m) (hm1 : m ≤ 9223372036854775807) (hb : b ≤ 18446744073709551615) (hc : c ≤ 18446744073709551615) (ht : t.size ≤ 9223372036854775807) (hu : u.size ≤ 9223372036854775807) (h : checkV k n b t ≠ 0 ∨ checkV l m c u ≠ 0) : Calls Try.prog 6 #[.agg #[.int .u8 (k : Int), .int .i64 n, .int .u64 (b : Int), .string t], .agg #[.int .u8 (l : Int), .int .i64 m, .int .u64 (c : Int), .string u]] w (Says w (.bool true)) := by
  have h1 : ∀ W, Calls Try.prog 11 #[.int .u8 1, .agg #[.int .u8 (k : Int), .int .i64 n, .int .u64 (b : Int), .string t], .agg #[.int .u8 (l : Int), .int .i64 m, .int .u64 (c : Int), .string u]] W (fun e w' => e = .returned (.bool false) ∧ Ext W w') := fun W => by have q := cholds_any 1 k n b t l m c u W (by decide) hk hl hn0 hn1 hm0 hm1 hb hc ht hu; rw [holds_bad h] at q; exact q
  have h2 : ∀ W, Calls Try.prog 11 #[.int .u8 2, .agg #[.int .u8 (k : Int), .int .i64 n, .int .u64 (b : Int), .string t], .agg #[.int .u8 (l : Int), .int .i64 m, .int .u64 (c : Int), .string u]] W (fun e w' => e = .returned (.bool false) ∧ Ext W w') := fun W => by have q := cholds_any 2 k n b t l m c u W (by decide) hk hl hn0 hn1 hm0 hm1 hb hc ht hu; rw [holds_bad h] at q; exact q
  have ck1 := fun W => vcheck_any k n b t W hk hn0 hn1 hb ht
  have ck2 := fun W => vcheck_any l m c u W hl hm0 hm1 hc hu
  have K1 := hid h1
  have K2 := hid h2
  obtain ⟨E1, he1⟩ : ∃ E, checkV k n b t = E := ⟨_, rfl⟩
  obtain ⟨E2, he2⟩ : ∃ E, checkV l m c u = E := ⟨_, rfl⟩
  rw [he1] at ck1 h
  rw [he2] at ck2 h
  replace ck1 : Hid (∀ W, Calls Try.prog 25 #[.agg #[.int .u8 (k : Int), .int .i64 n, .int .u64 (b : Int), .string t]] W (fun e w' => e = .returned (.int .i64 E1) ∧ Ext W w')) := ck1
  replace ck2 : Hid (∀ W, Calls Try.prog 25 #[.agg #[.int .u8 (l : Int), .int .i64 m, .int .u64 (c : Int), .string u]] W (fun e w' => e = .returned (.int .i64 E2) ∧ Ext W w')) := ck2
  clear h1 h2 he1 he2 hn0 hn1 hm0 hm1 hk hl hb hc
  have s1 := fun W => small_any k n b t W ht
  have s2 := fun W => small_any l m c u W hu
  go_enter Try.func6, Try.ntmps6
  go_wp2_with fail
  refine (s1 _).mono ?_
  rintro e w1 ⟨rfl, hx⟩
  have HV := hid (hx.block (heap_alloc2_old w _ _))
  have HW := hid (hx.block (heap_alloc2_new w _ _))
  have HX := hid (((Ext.alloc w _).then_alloc _).trans hx)
  clear hx
  obtain ⟨⟨a0, a1, a2, a3⟩, _, az⟩ := box4 HV.out
  obtain ⟨⟨b0, b1, b2, b3⟩, _, bz⟩ := box4 HW.out
  by_cases h1 : 100 < t.size
  · have h1' : 0 < max 0 ((t.size : Int) - 100) := by omega
    generalize max 0 ((t.size : Int) - 100) = S1 at *
    go_wp2_with fail
    refine (awake5_any _).mono ?_
    rintro e w9 ⟨rfl, hx⟩
    go_wp2_with fail
    go_ret
    exact ⟨rfl, HX.out.trans hx⟩
  · have h1' : max 0 ((t.size : Int) - 100) = 0 := by omega
    rw [h1'] at *
    go_wp2_with fail
    refine (s2 _).mono ?_
    rintro e w2 ⟨rfl, hx⟩
    replace HV := hid (hx.block HV.out)
    replace HW := hid (hx.block HW.out)
    replace HX := hid (HX.out.trans hx)
    clear hx a0 a1 a2 a3 az b0 b1 b2 b3 bz
    obtain ⟨⟨a0, a1, a2, a3⟩, _, az⟩ := box4 HV.out
    obtain ⟨⟨b0, b1, b2, b3⟩, _, bz⟩ := box4 HW.out
    by_cases h2 : 100 < u.size
    · have h2' : 0 < max 0 ((u.size : Int) - 100) := by omega
      generalize max 0 ((u.size : Int) - 100) = S2 at *
      go_wp2_with fail
      refine (awake5_any _).mono ?_
      rintro e w9 ⟨rfl, hx⟩
      go_wp2_with fail
      go_ret
      exact ⟨rfl, HX.out.trans hx⟩
    · have h2' : max 0 ((u.size : Int) - 100) = 0 := by omega
      rw [h2'] at *
      clear h1 h2 h1' h2' s1 s2
      have hd0 : ¬ w.heap.size = w2.heap.size := by omega
      have hd1 : ¬ w.heap.size = w2.heap.size + 1 := by omega
      have hd2 : ¬ w.heap.size + 1 = w2.heap.size := by omega
      have hd3 : ¬ w.heap.size + 1 = w2.heap.size + 1 := by omega
      have hz1 : w.heap.size < w2.heap.size + 1 := by omega
      have hz2 : w.heap.size < w2.heap.size + 1 + 1 := by omega
      have hz3 : w.heap.size + 1 < w2.heap.size + 1 := by omega
      have hz4 : w.heap.size + 1 < w2.heap.size + 1 + 1 := by omega
      have hz5 : w.heap.size < w2.heap.size + 2 := by omega
      have hz6 : w.heap.size + 1 < w2.heap.size + 2 := by omega
      go_upto_region 3 with fail
      go_cut [5, 6] from 22 to 174 (fun x y wx => ∃ g5 g6, x = .pointer (some ⟨g5, 0, none⟩) ∧ y = .pointer (some ⟨g6, 0, none⟩) ∧ Hid (wx.heap[g5]? = some (.cells #[.int .u8 (k : Int), .int .i64 n, .int .u64 (b : Int), .string t] 28 (0, 0))) ∧ Hid (wx.heap[g6]? = some (.cells #[.int .u8 (l : Int), .int .i64 m, .int .u64 (c : Int), .string u] 28 (0, 0))) ∧ Ext w2 wx)
      case first =>
        go_region
        all_goals (go_wp2_with fail)
        all_goals go_meet
        all_goals
          obtain ⟨q1, q2, q3⟩ := blocks2d w2 _ _
          exact ⟨_, _, rfl, rfl, (by first | exact q1 | exact q2), (by first | exact q1 | exact q2), q3⟩
      case rest =>
        obtain ⟨g5, g6, rfl, rfl, H5, H6, hx⟩ := hcut
        replace HX := hid (HX.out.trans hx)
        clear hx HV HW a0 a1 a2 a3 az b0 b1 b2 b3 bz hd0 hd1 hd2 hd3 hz1 hz2 hz3 hz4 hz5 hz6
        obtain ⟨⟨a0, a1, a2, a3⟩, _, az⟩ := box4 H5.out
        obtain ⟨⟨b0, b1, b2, b3⟩, _, bz⟩ := box4 H6.out
        have hh : (E1 != 0) = true ∨ (E1 = 0 ∧ (E2 != 0) = true) := by
          by_cases e : E1 = 0
          · exact Or.inr ⟨e, bne_iff_ne.2 (h.resolve_left (fun q => q e))⟩
          · exact Or.inl (bne_iff_ne.2 e)
        clear h
        rcases hh with hh | ⟨rfl, hh⟩
        all_goals
          go_wp2_with (first | ((with_reducible show Calls _ 25 #[.agg #[.int .u8 (k : Int), .int .i64 n, .int .u64 (b : Int), .string t]] _ _); refine (ck1.out _).mono ?_; rintro e w9 ⟨rfl, hx⟩; (first | replace HX := hid (HX.out.trans hx) | replace HX := hid ((HX.out.then_alloc _).trans hx)); replace H5 := hid (hx.block H5.out); replace H6 := hid (hx.block H6.out); clear hx a0 a1 a2 a3 az b0 b1 b2 b3 bz; obtain ⟨⟨a0, a1, a2, a3⟩, _, az⟩ := box4 H5.out; obtain ⟨⟨b0, b1, b2, b3⟩, _, bz⟩ := box4 H6.out) | ((with_reducible show Calls _ 25 #[.agg #[.int .u8 (l : Int), .int .i64 m, .int .u64 (c : Int), .string u]] _ _); refine (ck2.out _).mono ?_; rintro e w9 ⟨rfl, hx⟩; (first | replace HX := hid (HX.out.trans hx) | replace HX := hid ((HX.out.then_alloc _).trans hx)); replace H5 := hid (hx.block H5.out); replace H6 := hid (hx.block H6.out); clear hx a0 a1 a2 a3 az b0 b1 b2 b3 bz; obtain ⟨⟨a0, a1, a2, a3⟩, _, az⟩ := box4 H5.out; obtain ⟨⟨b0, b1, b2, b3⟩, _, bz⟩ := box4 H6.out) | ((with_reducible show Calls _ 11 #[.int .u8 2, .agg #[.int .u8 (k : Int), .int .i64 n, .int .u64 (b : Int), .string t], .agg #[.int .u8 (l : Int), .int .i64 m, .int .u64 (c : Int), .string u]] _ _); refine (K2.out _).mono ?_; rintro e w9 ⟨rfl, hx⟩; (first | replace HX := hid (HX.out.trans hx) | replace HX := hid ((HX.out.then_alloc _).trans hx)); replace H5 := hid (hx.block H5.out); replace H6 := hid (hx.block H6.out); clear hx a0 a1 a2 a3 az b0 b1 b2 b3 bz; obtain ⟨⟨a0, a1, a2, a3⟩, _, az⟩ := box4 H5.out; obtain ⟨⟨b0, b1, b2, b3⟩, _, bz⟩ := box4 H6.out) | ((with_reducible show Calls _ 11 #[.int .u8 1, .agg #[.int .u8 (k : Int), .int .i64 n, .int .u64 (b : Int), .string t], .agg #[.int .u8 (l : Int), .int .i64 m, .int .u64 (c : Int), .string u]] _ _); refine (K1.out _).mono ?_; rintro e w9 ⟨rfl, hx⟩; (first | replace HX := hid (HX.out.trans hx) | replace HX := hid ((HX.out.then_alloc _).trans hx)); replace H5 := hid (hx.block H5.out); replace H6 := hid (hx.block H6.out); clear hx a0 a1 a2 a3 az b0 b1 b2 b3 bz; obtain ⟨⟨a0, a1, a2, a3⟩, _, az⟩ := box4 H5.out; obtain ⟨⟨b0, b1, b2, b3⟩, _, bz⟩ := box4 H6.out) | ((with_reducible show Calls _ 10 #[] _ _); refine (awake5_any _).mono ?_; rintro e w9 ⟨rfl, hx⟩; (first | replace HX := hid (HX.out.trans hx) | replace HX := hid ((HX.out.then_alloc _).trans hx)); replace H5 := hid (hx.block H5.out); replace H6 := hid (hx.block H6.out); clear hx a0 a1 a2 a3 az b0 b1 b2 b3 bz; obtain ⟨⟨a0, a1, a2, a3⟩, _, az⟩ := box4 H5.out; obtain ⟨⟨b0, b1, b2, b3⟩, _, bz⟩ := box4 H6.out))
          go_ret
          exact ⟨rfl, HX.out⟩

theorem cone_law (k : Nat) (n : Int) (b : Nat) (t : ByteArray) (l : Nat) (m : Int) (c : Nat) (u : ByteArray) (w : World) (hk : k ≤ 255) (hl : l ≤ 255) (hn0 : -9223372036854775808 ≤ n) (hn1 : n ≤ 9223372036854775807) (hm0 : -9223372036854775808 ≤ m) (hm1 : m ≤ 9223372036854775807) (hb : b ≤ 18446744073709551615) (hc : c ≤ 18446744073709551615) (ht : t.size ≤ 9223372036854775807) (hu : u.size ≤ 9223372036854775807) : Calls Try.prog 6 #[.agg #[.int .u8 (k : Int), .int .i64 n, .int .u64 (b : Int), .string t], .agg #[.int .u8 (l : Int), .int .i64 m, .int .u64 (c : Int), .string u]] w (Says w (.bool true)) := by
  by_cases hbad : checkV k n b t ≠ 0 ∨ checkV l m c u ≠ 0
  · exact cone_bad k n b t l m c u w hk hl hn0 hn1 hm0 hm1 hb hc ht hu hbad
  · have e1 : checkV k n b t = 0 := Decidable.not_not.1 (fun h => hbad (Or.inl h))
    have e2 : checkV l m c u = 0 := Decidable.not_not.1 (fun h => hbad (Or.inr h))
    have p1 := check_parts e1
    have p2 := check_parts e2
    have kp : ∀ (o : Nat) (r : Bool), o ≤ 255 → holdsV o k n b t l m c u = r → ∀ W, Calls Try.prog 11 #[.int .u8 (o : Int), .agg #[.int .u8 (k : Int), .int .i64 n, .int .u64 (b : Int), .string t], .agg #[.int .u8 (l : Int), .int .i64 m, .int .u64 (c : Int), .string u]] W (fun e w' => e = .returned (.bool r) ∧ Ext W w') := fun o r ho hr W => by have h := cholds_any o k n b t l m c u W ho hk hl hn0 hn1 hm0 hm1 hb hc ht hu; rw [hr] at h; exact h
    have kt : ∀ (o : Nat) (r : Bool), o ≤ 255 → holdsV o l m c u k n b t = r → ∀ W, Calls Try.prog 11 #[.int .u8 (o : Int), .agg #[.int .u8 (l : Int), .int .i64 m, .int .u64 (c : Int), .string u], .agg #[.int .u8 (k : Int), .int .i64 n, .int .u64 (b : Int), .string t]] W (fun e w' => e = .returned (.bool r) ∧ Ext W w') := fun o r ho hr W => by have h := cholds_any o l m c u k n b t W ho hl hk hm0 hm1 hn0 hn1 hc hb hu ht; rw [hr] at h; exact h
    have kf : ∀ (r : Bool), fitsV 3 k l = r → ∀ W, Calls Try.prog 21 #[.int .u8 3, .int .u8 (k : Int), .int .u8 (l : Int)] W (fun e w' => e = .returned (.bool r) ∧ Ext W w') := fun r hr W => by have h := cfits_any 3 k l W (by decide) hk hl; rw [hr] at h; exact h
    have nk : ∀ j, numK j = true ↔ (j = 1 ∨ j = 3) := fun j => decide_eq_true_iff
    rcases holds_ways e1 e2 with ⟨hne, hnn, A⟩ | ⟨hk3, hl3, hnan, A⟩ | ⟨hk3, hl3, hb5, hc5, A⟩ | ⟨rfl, rfl, A⟩ | ⟨rfl, rfl, A⟩
    · -- apart
      have B : ∀ o, 1 ≤ o → o ≤ 6 → holdsV o l m c u k n b t = decide (o = 2) := by
        rcases holds_ways e2 e1 with ⟨_, _, B⟩ | ⟨q1, q2, _⟩ | ⟨q1, q2, _⟩ | ⟨q1, q2, _⟩ | ⟨q1, q2, _⟩
        · exact B
        · exact absurd ⟨q2, q1⟩ hnn
        · exact absurd ⟨q2, q1⟩ hnn
        · omega
        · omega
      have hf : fitsV 3 k l = false := by
        unfold fitsV
        rw [if_neg (by decide), if_neg (by rintro (h | h); exact hnn ⟨(nk k).1 h.1, (nk l).1 h.2⟩; omega), decide_eq_false (by omega)]
      have hs : eqV k n b t l m c u = false := decide_eq_false (fun h => hne h.1)
      exact cone_apart _ n b t _ m c u w hk hl hn0 hn1 hm0 hm1 hb hc ht hu e1 e2 (kp 1 false (by decide) ((A 1 (by decide) (by decide)).trans (by decide))) (kp 2 true (by decide) ((A 2 (by decide) (by decide)).trans (by decide))) (kp 3 false (by decide) ((A 3 (by decide) (by decide)).trans (by decide))) (kp 4 false (by decide) ((A 4 (by decide) (by decide)).trans (by decide))) (kp 5 false (by decide) ((A 5 (by decide) (by decide)).trans (by decide))) (kp 6 false (by decide) ((A 6 (by decide) (by decide)).trans (by decide))) (kt 1 false (by decide) ((B 1 (by decide) (by decide)).trans (by decide))) (kt 5 false (by decide) ((B 5 (by decide) (by decide)).trans (by decide))) (kt 6 false (by decide) ((B 6 (by decide) (by decide)).trans (by decide))) (kf _ hf) hs
    · -- one of them is no number
      have B : ∀ o, 1 ≤ o → o ≤ 6 → holdsV o l m c u k n b t = decide (o = 2) := by
        rcases holds_ways e2 e1 with ⟨_, q, _⟩ | ⟨_, _, _, B⟩ | ⟨_, _, q1, q2, _⟩ | ⟨q1, q2, _⟩ | ⟨q1, q2, _⟩
        · exact absurd ⟨hl3, hk3⟩ q
        · exact B
        · omega
        · omega
        · omega
      have hf : fitsV 3 k l = true := by
        unfold fitsV
        rw [if_neg (by decide), if_pos (Or.inl ⟨(nk k).2 hk3, (nk l).2 hl3⟩)]
      have hfl : k ≠ 2 := by omega
      by_cases hb5 : kindZ b = 5
      · cases hs : eqV k n b t l m c u
        · exact cone_nana0 _ n b t _ m c u w hk hl hn0 hn1 hm0 hm1 hb hc ht hu e1 e2 (kp 1 false (by decide) ((A 1 (by decide) (by decide)).trans (by decide))) (kp 2 true (by decide) ((A 2 (by decide) (by decide)).trans (by decide))) (kp 3 false (by decide) ((A 3 (by decide) (by decide)).trans (by decide))) (kp 4 false (by decide) ((A 4 (by decide) (by decide)).trans (by decide))) (kp 5 false (by decide) ((A 5 (by decide) (by decide)).trans (by decide))) (kp 6 false (by decide) ((A 6 (by decide) (by decide)).trans (by decide))) (kt 1 false (by decide) ((B 1 (by decide) (by decide)).trans (by decide))) (kt 5 false (by decide) ((B 5 (by decide) (by decide)).trans (by decide))) (kt 6 false (by decide) ((B 6 (by decide) (by decide)).trans (by decide))) (kf _ hf) hb5 hs
        · exact cone_nana1 _ n b t _ m c u w hk hl hn0 hn1 hm0 hm1 hb hc ht hu e1 e2 (kp 1 false (by decide) ((A 1 (by decide) (by decide)).trans (by decide))) (kp 2 true (by decide) ((A 2 (by decide) (by decide)).trans (by decide))) (kp 3 false (by decide) ((A 3 (by decide) (by decide)).trans (by decide))) (kp 4 false (by decide) ((A 4 (by decide) (by decide)).trans (by decide))) (kp 5 false (by decide) ((A 5 (by decide) (by decide)).trans (by decide))) (kp 6 false (by decide) ((A 6 (by decide) (by decide)).trans (by decide))) (kt 1 false (by decide) ((B 1 (by decide) (by decide)).trans (by decide))) (kt 5 false (by decide) ((B 5 (by decide) (by decide)).trans (by decide))) (kt 6 false (by decide) ((B 6 (by decide) (by decide)).trans (by decide))) (kf _ hf) hb5 hs hfl
      · have hc5 : kindZ c = 5 := hnan.resolve_left hb5
        cases hs : eqV k n b t l m c u
        · exact cone_nanb0 _ n b t _ m c u w hk hl hn0 hn1 hm0 hm1 hb hc ht hu e1 e2 (kp 1 false (by decide) ((A 1 (by decide) (by decide)).trans (by decide))) (kp 2 true (by decide) ((A 2 (by decide) (by decide)).trans (by decide))) (kp 3 false (by decide) ((A 3 (by decide) (by decide)).trans (by decide))) (kp 4 false (by decide) ((A 4 (by decide) (by decide)).trans (by decide))) (kp 5 false (by decide) ((A 5 (by decide) (by decide)).trans (by decide))) (kp 6 false (by decide) ((A 6 (by decide) (by decide)).trans (by decide))) (kt 1 false (by decide) ((B 1 (by decide) (by decide)).trans (by decide))) (kt 5 false (by decide) ((B 5 (by decide) (by decide)).trans (by decide))) (kt 6 false (by decide) ((B 6 (by decide) (by decide)).trans (by decide))) (kf _ hf) hb5 hc5 hs
        · exact cone_nanb1 _ n b t _ m c u w hk hl hn0 hn1 hm0 hm1 hb hc ht hu e1 e2 (kp 1 false (by decide) ((A 1 (by decide) (by decide)).trans (by decide))) (kp 2 true (by decide) ((A 2 (by decide) (by decide)).trans (by decide))) (kp 3 false (by decide) ((A 3 (by decide) (by decide)).trans (by decide))) (kp 4 false (by decide) ((A 4 (by decide) (by decide)).trans (by decide))) (kp 5 false (by decide) ((A 5 (by decide) (by decide)).trans (by decide))) (kp 6 false (by decide) ((A 6 (by decide) (by decide)).trans (by decide))) (kt 1 false (by decide) ((B 1 (by decide) (by decide)).trans (by decide))) (kt 5 false (by decide) ((B 5 (by decide) (by decide)).trans (by decide))) (kt 6 false (by decide) ((B 6 (by decide) (by decide)).trans (by decide))) (kf _ hf) hb5 hc5 hs hfl
    · -- numbers in order
      have B : ∀ o, 1 ≤ o → o ≤ 6 → holdsV o l m c u k n b t = saysV o (-(cmpI (keyV k n b) (keyV l m c))) := by
        rw [← cmpI_turn]
        rcases holds_ways e2 e1 with ⟨_, q, _⟩ | ⟨_, _, q, _⟩ | ⟨_, _, _, _, B⟩ | ⟨q1, q2, _⟩ | ⟨q1, q2, _⟩
        · exact absurd ⟨hl3, hk3⟩ q
        · omega
        · exact B
        · omega
        · omega
      have hf : fitsV 3 k l = true := by
        unfold fitsV
        rw [if_neg (by decide), if_pos (Or.inl ⟨(nk k).2 hk3, (nk l).2 hl3⟩)]
      have hr := cmp_bound (keyV k n b) (keyV l m c)
      generalize cmpI (keyV k n b) (keyV l m c) = r at *
      have hr3 : r = -1 ∨ r = 0 ∨ r = 1 := by omega
      rcases hr3 with rfl | rfl | rfl
      · exact cone_less _ n b t _ m c u w hk hl hn0 hn1 hm0 hm1 hb hc ht hu e1 e2 (kp 1 false (by decide) ((A 1 (by decide) (by decide)).trans (by decide))) (kp 2 true (by decide) ((A 2 (by decide) (by decide)).trans (by decide))) (kp 3 true (by decide) ((A 3 (by decide) (by decide)).trans (by decide))) (kp 4 true (by decide) ((A 4 (by decide) (by decide)).trans (by decide))) (kp 5 false (by decide) ((A 5 (by decide) (by decide)).trans (by decide))) (kp 6 false (by decide) ((A 6 (by decide) (by decide)).trans (by decide))) (kt 1 false (by decide) ((B 1 (by decide) (by decide)).trans (by decide))) (kt 5 true (by decide) ((B 5 (by decide) (by decide)).trans (by decide))) (kt 6 true (by decide) ((B 6 (by decide) (by decide)).trans (by decide))) (kf _ hf) hb5 hc5
      · exact cone_equal _ n b t _ m c u w hk hl hn0 hn1 hm0 hm1 hb hc ht hu e1 e2 (kp 1 true (by decide) ((A 1 (by decide) (by decide)).trans (by decide))) (kp 2 false (by decide) ((A 2 (by decide) (by decide)).trans (by decide))) (kp 3 false (by decide) ((A 3 (by decide) (by decide)).trans (by decide))) (kp 4 true (by decide) ((A 4 (by decide) (by decide)).trans (by decide))) (kp 5 false (by decide) ((A 5 (by decide) (by decide)).trans (by decide))) (kp 6 true (by decide) ((A 6 (by decide) (by decide)).trans (by decide))) (kt 1 true (by decide) ((B 1 (by decide) (by decide)).trans (by decide))) (kt 5 false (by decide) ((B 5 (by decide) (by decide)).trans (by decide))) (kt 6 true (by decide) ((B 6 (by decide) (by decide)).trans (by decide))) (kf _ hf) hb5 hc5
      · exact cone_more _ n b t _ m c u w hk hl hn0 hn1 hm0 hm1 hb hc ht hu e1 e2 (kp 1 false (by decide) ((A 1 (by decide) (by decide)).trans (by decide))) (kp 2 true (by decide) ((A 2 (by decide) (by decide)).trans (by decide))) (kp 3 false (by decide) ((A 3 (by decide) (by decide)).trans (by decide))) (kp 4 false (by decide) ((A 4 (by decide) (by decide)).trans (by decide))) (kp 5 true (by decide) ((A 5 (by decide) (by decide)).trans (by decide))) (kp 6 true (by decide) ((A 6 (by decide) (by decide)).trans (by decide))) (kt 1 false (by decide) ((B 1 (by decide) (by decide)).trans (by decide))) (kt 5 false (by decide) ((B 5 (by decide) (by decide)).trans (by decide))) (kt 6 false (by decide) ((B 6 (by decide) (by decide)).trans (by decide))) (kf _ hf) hb5 hc5
    · -- flags
      have B : ∀ o, 1 ≤ o → o ≤ 6 → holdsV o 2 m c u 2 n b t = (decide (o ≤ 2) && saysV o (cmpI m n)) := by
        rcases holds_ways e2 e1 with ⟨q, _⟩ | ⟨q, _⟩ | ⟨q, _⟩ | ⟨_, _, B⟩ | ⟨q1, q2, _⟩
        · exact absurd rfl q
        · omega
        · omega
        · exact B
        · omega
      have hf : fitsV 3 2 2 = false := by decide
      have hfl : (2 : Nat) = 2 := rfl
      by_cases hnm : n = m
      · have c1 : cmpI n m = 0 := cmp_eq hnm
        have c2 : cmpI m n = 0 := cmp_eq hnm.symm
        rw [c1] at A
        rw [c2] at B
        have hb0 : b = 0 := by omega
        have hc0 : c = 0 := by omega
        have ht0 : t = noText := by
          rcases p1 with p | p | p | p
          · omega
          · exact p.2.2.2.2
          · omega
          · omega
        have hu0 : u = noText := by
          rcases p2 with p | p | p | p
          · omega
          · exact p.2.2.2.2
          · omega
          · omega
        have hs : eqV 2 n b t 2 m c u = true := decide_eq_true ⟨rfl, hnm, by rw [hb0, hc0], by rw [ht0, hu0]⟩
        exact cone_flageq _ n b t _ m c u w hk hl hn0 hn1 hm0 hm1 hb hc ht hu e1 e2 (kp 1 true (by decide) ((A 1 (by decide) (by decide)).trans (by decide))) (kp 2 false (by decide) ((A 2 (by decide) (by decide)).trans (by decide))) (kp 3 false (by decide) ((A 3 (by decide) (by decide)).trans (by decide))) (kp 4 false (by decide) ((A 4 (by decide) (by decide)).trans (by decide))) (kp 5 false (by decide) ((A 5 (by decide) (by decide)).trans (by decide))) (kp 6 false (by decide) ((A 6 (by decide) (by decide)).trans (by decide))) (kt 1 true (by decide) ((B 1 (by decide) (by decide)).trans (by decide))) (kt 5 false (by decide) ((B 5 (by decide) (by decide)).trans (by decide))) (kt 6 false (by decide) ((B 6 (by decide) (by decide)).trans (by decide))) (kf _ hf) hs hfl
      · have c0 : ∀ x y : Int, x ≠ y → ∀ o, 1 ≤ o → o ≤ 6 → (decide (o ≤ 2) && saysV o (cmpI x y)) = decide (o = 2) := by
          intro x y hxy o o1 o6
          have hz : cmpI x y ≠ 0 := fun h => hxy ((cmpI_zero x y).1 h)
          have : o = 1 ∨ o = 2 ∨ o = 3 ∨ o = 4 ∨ o = 5 ∨ o = 6 := by omega
          rcases this with rfl | rfl | rfl | rfl | rfl | rfl
          · have : saysV 1 (cmpI x y) = false := decide_eq_false (by omega)
            rw [this]; rfl
          · have : saysV 2 (cmpI x y) = true := decide_eq_true (by omega)
            rw [this]; rfl
          · rfl
          · rfl
          · rfl
          · rfl
        replace A := fun o o1 o6 => (A o o1 o6).trans (c0 n m hnm o o1 o6)
        replace B := fun o o1 o6 => (B o o1 o6).trans (c0 m n (Ne.symm hnm) o o1 o6)
        have hs : eqV 2 n b t 2 m c u = false := decide_eq_false (fun h => hnm h.2.1)
        exact cone_flagne _ n b t _ m c u w hk hl hn0 hn1 hm0 hm1 hb hc ht hu e1 e2 (kp 1 false (by decide) ((A 1 (by decide) (by decide)).trans (by decide))) (kp 2 true (by decide) ((A 2 (by decide) (by decide)).trans (by decide))) (kp 3 false (by decide) ((A 3 (by decide) (by decide)).trans (by decide))) (kp 4 false (by decide) ((A 4 (by decide) (by decide)).trans (by decide))) (kp 5 false (by decide) ((A 5 (by decide) (by decide)).trans (by decide))) (kp 6 false (by decide) ((A 6 (by decide) (by decide)).trans (by decide))) (kt 1 false (by decide) ((B 1 (by decide) (by decide)).trans (by decide))) (kt 5 false (by decide) ((B 5 (by decide) (by decide)).trans (by decide))) (kt 6 false (by decide) ((B 6 (by decide) (by decide)).trans (by decide))) (kf _ hf) hs
    · -- texts
      have B : ∀ o, 1 ≤ o → o ≤ 6 → holdsV o 4 m c u 4 n b t = saysV o (-(cmpT t u)) := by
        rw [← cmpT_turn]
        rcases holds_ways e2 e1 with ⟨q, _⟩ | ⟨q, _⟩ | ⟨q, _⟩ | ⟨q1, q2, _⟩ | ⟨_, _, B⟩
        · exact absurd rfl q
        · omega
        · omega
        · omega
        · exact B
      have hf : fitsV 3 4 4 = true := by decide
      have hb0 : b = 0 := by omega
      have hc0 : c = 0 := by omega
      have hb5 : kindZ b ≠ 5 := by rw [hb0, kind_zero0]; decide
      have hc5 : kindZ c ≠ 5 := by rw [hc0, kind_zero0]; decide
      have hr := cmpT_bound t u
      generalize cmpT t u = r at *
      have hr3 : r = -1 ∨ r = 0 ∨ r = 1 := by omega
      rcases hr3 with rfl | rfl | rfl
      · exact cone_less _ n b t _ m c u w hk hl hn0 hn1 hm0 hm1 hb hc ht hu e1 e2 (kp 1 false (by decide) ((A 1 (by decide) (by decide)).trans (by decide))) (kp 2 true (by decide) ((A 2 (by decide) (by decide)).trans (by decide))) (kp 3 true (by decide) ((A 3 (by decide) (by decide)).trans (by decide))) (kp 4 true (by decide) ((A 4 (by decide) (by decide)).trans (by decide))) (kp 5 false (by decide) ((A 5 (by decide) (by decide)).trans (by decide))) (kp 6 false (by decide) ((A 6 (by decide) (by decide)).trans (by decide))) (kt 1 false (by decide) ((B 1 (by decide) (by decide)).trans (by decide))) (kt 5 true (by decide) ((B 5 (by decide) (by decide)).trans (by decide))) (kt 6 true (by decide) ((B 6 (by decide) (by decide)).trans (by decide))) (kf _ hf) hb5 hc5
      · exact cone_equal _ n b t _ m c u w hk hl hn0 hn1 hm0 hm1 hb hc ht hu e1 e2 (kp 1 true (by decide) ((A 1 (by decide) (by decide)).trans (by decide))) (kp 2 false (by decide) ((A 2 (by decide) (by decide)).trans (by decide))) (kp 3 false (by decide) ((A 3 (by decide) (by decide)).trans (by decide))) (kp 4 true (by decide) ((A 4 (by decide) (by decide)).trans (by decide))) (kp 5 false (by decide) ((A 5 (by decide) (by decide)).trans (by decide))) (kp 6 true (by decide) ((A 6 (by decide) (by decide)).trans (by decide))) (kt 1 true (by decide) ((B 1 (by decide) (by decide)).trans (by decide))) (kt 5 false (by decide) ((B 5 (by decide) (by decide)).trans (by decide))) (kt 6 true (by decide) ((B 6 (by decide) (by decide)).trans (by decide))) (kf _ hf) hb5 hc5
      · exact cone_more _ n b t _ m c u w hk hl hn0 hn1 hm0 hm1 hb hc ht hu e1 e2 (kp 1 false (by decide) ((A 1 (by decide) (by decide)).trans (by decide))) (kp 2 true (by decide) ((A 2 (by decide) (by decide)).trans (by decide))) (kp 3 false (by decide) ((A 3 (by decide) (by decide)).trans (by decide))) (kp 4 false (by decide) ((A 4 (by decide) (by decide)).trans (by decide))) (kp 5 true (by decide) ((A 5 (by decide) (by decide)).trans (by decide))) (kp 6 true (by decide) ((A 6 (by decide) (by decide)).trans (by decide))) (kt 1 false (by decide) ((B 1 (by decide) (by decide)).trans (by decide))) (kt 5 false (by decide) ((B 5 (by decide) (by decide)).trans (by decide))) (kt 6 false (by decide) ((B 6 (by decide) (by decide)).trans (by decide))) (kf _ hf) hb5 hc5
end Go.Proofs.Ytaahaehgdamkdaa
