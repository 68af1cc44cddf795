/- What is less, or equal, goes on from one value to the next (the walk). Conditions: the reach of a string, numbers within their kinds. -/
import Derived.Test.YtaahaehgdamkdaaCAwk
import Derived.Test.YtaahaehgdamkdaaVSmall
import Derived.Test.YtaahaehgdamkdaaCChainM
import Derived.Test.YtaahaehgdamkdaaVRanks
namespace Go.Proofs.Ytaahaehgdamkdaa
open Go Go.RowKit

set_option maxRecDepth 100000 in
set_option maxHeartbeats 4000000 in
theorem cchain_law (k : Nat) (n : Int) (b : Nat) (t : ByteArray) (l : Nat) (m : Int) (c : Nat) (u : ByteArray) (j : Nat) (i : Int) (d : Nat) (v : ByteArray) (w : World)
    (hk : k ≤ 255) (hkl : l ≤ 255) (hkj : j ≤ 255) (hn0 : -9223372036854775808 ≤ n) (hn1 : n ≤ 9223372036854775807) (hm0 : -9223372036854775808 ≤ m) (hm1 : m ≤ 9223372036854775807) (hi0 : -9223372036854775808 ≤ i) (hi1 : i ≤ 9223372036854775807)
    (hbb : b ≤ 18446744073709551615) (hcc : c ≤ 18446744073709551615) (hdd : d ≤ 18446744073709551615) (ht : t.size ≤ 9223372036854775807) (hu : u.size ≤ 9223372036854775807) (hv : v.size ≤ 9223372036854775807) :
    Calls Try.prog 8 #[.agg (arr3 k n b t l m c u j i d v)] w (Says w (.bool true)) := by
  have s1 := fun W => small_any k n b t W ht
  have s2 := fun W => small_any l m c u W hu
  have s3 := fun W => small_any j i d v W hv
  have fA1 := fun W => cholds_any 3 k n b t l m c u W (by decide) hk hkl hn0 hn1 hm0 hm1 hbb hcc ht hu
  have fA2 := fun W => cholds_any 4 l m c u j i d v W (by decide) hkl hkj hm0 hm1 hi0 hi1 hcc hdd hu hv
  have fA3 := fun W => cholds_any 3 k n b t j i d v W (by decide) hk hkj hn0 hn1 hi0 hi1 hbb hdd ht hv
  have fA4 := fun W => cholds_any 4 k n b t l m c u W (by decide) hk hkl hn0 hn1 hm0 hm1 hbb hcc ht hu
  have fA5 := fun W => cholds_any 3 l m c u j i d v W (by decide) hkl hkj hm0 hm1 hi0 hi1 hcc hdd hu hv
  have fE1 := fun W => cholds_any 1 k n b t l m c u W (by decide) hk hkl hn0 hn1 hm0 hm1 hbb hcc ht hu
  have fE2 := fun W => cholds_any 1 l m c u j i d v W (by decide) hkl hkj hm0 hm1 hi0 hi1 hcc hdd hu hv
  have fE3 := fun W => cholds_any 1 k n b t j i d v W (by decide) hk hkj hn0 hn1 hi0 hi1 hbb hdd ht hv
  have G1 : Hid (holdsV 3 k n b t l m c u = true → holdsV 4 l m c u j i d v = true → holdsV 3 k n b t j i d v = true) := fun q1 q2 => chain_less 3 4 (Or.inl ⟨rfl, rfl⟩) q1 q2
  have G2 : Hid (holdsV 4 k n b t l m c u = true → holdsV 3 l m c u j i d v = true → holdsV 3 k n b t j i d v = true) := fun q1 q2 => chain_less 4 3 (Or.inr ⟨rfl, rfl⟩) q1 q2
  have G3 : Hid (holdsV 1 k n b t l m c u = true → holdsV 1 l m c u j i d v = true → holdsV 1 k n b t j i d v = true) := chain_equal
  obtain ⟨A1, hA1⟩ : ∃ q, holdsV 3 k n b t l m c u = q := ⟨_, rfl⟩
  obtain ⟨A2, hA2⟩ : ∃ q, holdsV 4 l m c u j i d v = q := ⟨_, rfl⟩
  obtain ⟨A3, hA3⟩ : ∃ q, holdsV 3 k n b t j i d v = q := ⟨_, rfl⟩
  obtain ⟨A4, hA4⟩ : ∃ q, holdsV 4 k n b t l m c u = q := ⟨_, rfl⟩
  obtain ⟨A5, hA5⟩ : ∃ q, holdsV 3 l m c u j i d v = q := ⟨_, rfl⟩
  obtain ⟨E1, hE1⟩ : ∃ q, holdsV 1 k n b t l m c u = q := ⟨_, rfl⟩
  obtain ⟨E2, hE2⟩ : ∃ q, holdsV 1 l m c u j i d v = q := ⟨_, rfl⟩
  obtain ⟨E3, hE3⟩ : ∃ q, holdsV 1 k n b t j i d v = q := ⟨_, rfl⟩
  rw [hA1, hA2, hA3] at G1
  rw [hA4, hA5, hA3] at G2
  rw [hE1, hE2, hE3] at G3
  rw [hA1] at fA1
  replace fA1 : Hid (∀ W, Calls Try.prog 11 #[.int .u8 3, .agg #[.int .u8 (k : Int), .int .i64 n, .int .u64 (b : Int), .string t], .agg #[.int .u8 (l : Int), .int .i64 m, .int .u64 (c : Int), .string u]] W (fun e w' => e = .returned (.bool A1) ∧ Ext W w')) := fA1
  rw [hA2] at fA2
  replace fA2 : Hid (∀ W, Calls Try.prog 11 #[.int .u8 4, .agg #[.int .u8 (l : Int), .int .i64 m, .int .u64 (c : Int), .string u], .agg #[.int .u8 (j : Int), .int .i64 i, .int .u64 (d : Int), .string v]] W (fun e w' => e = .returned (.bool A2) ∧ Ext W w')) := fA2
  rw [hA3] at fA3
  replace fA3 : Hid (∀ W, Calls Try.prog 11 #[.int .u8 3, .agg #[.int .u8 (k : Int), .int .i64 n, .int .u64 (b : Int), .string t], .agg #[.int .u8 (j : Int), .int .i64 i, .int .u64 (d : Int), .string v]] W (fun e w' => e = .returned (.bool A3) ∧ Ext W w')) := fA3
  rw [hA4] at fA4
  replace fA4 : Hid (∀ W, Calls Try.prog 11 #[.int .u8 4, .agg #[.int .u8 (k : Int), .int .i64 n, .int .u64 (b : Int), .string t], .agg #[.int .u8 (l : Int), .int .i64 m, .int .u64 (c : Int), .string u]] W (fun e w' => e = .returned (.bool A4) ∧ Ext W w')) := fA4
  rw [hA5] at fA5
  replace fA5 : Hid (∀ W, Calls Try.prog 11 #[.int .u8 3, .agg #[.int .u8 (l : Int), .int .i64 m, .int .u64 (c : Int), .string u], .agg #[.int .u8 (j : Int), .int .i64 i, .int .u64 (d : Int), .string v]] W (fun e w' => e = .returned (.bool A5) ∧ Ext W w')) := fA5
  rw [hE1] at fE1
  replace fE1 : Hid (∀ W, Calls Try.prog 11 #[.int .u8 1, .agg #[.int .u8 (k : Int), .int .i64 n, .int .u64 (b : Int), .string t], .agg #[.int .u8 (l : Int), .int .i64 m, .int .u64 (c : Int), .string u]] W (fun e w' => e = .returned (.bool E1) ∧ Ext W w')) := fE1
  rw [hE2] at fE2
  replace fE2 : Hid (∀ W, Calls Try.prog 11 #[.int .u8 1, .agg #[.int .u8 (l : Int), .int .i64 m, .int .u64 (c : Int), .string u], .agg #[.int .u8 (j : Int), .int .i64 i, .int .u64 (d : Int), .string v]] W (fun e w' => e = .returned (.bool E2) ∧ Ext W w')) := fE2
  rw [hE3] at fE3
  replace fE3 : Hid (∀ W, Calls Try.prog 11 #[.int .u8 1, .agg #[.int .u8 (k : Int), .int .i64 n, .int .u64 (b : Int), .string t], .agg #[.int .u8 (j : Int), .int .i64 i, .int .u64 (d : Int), .string v]] W (fun e w' => e = .returned (.bool E3) ∧ Ext W w')) := fE3
  clear hA1 hA2 hA3 hA4 hA5 hE1 hE2 hE3
  unfold arr3
  go_enter Try.func8, Try.ntmps8
  go_wp2_with fail
  go_loopw [3] (fun x wr => ∃ q : Nat, q ≤ 3 ∧ x = .int .i64 (q : Int) ∧ Hid (wr.heap[w.heap.size]? = some (.cells (arr3 k n b t l m c u j i d v) 44 (0, 0))) ∧ Ext w wr)
    (fun x _ => 3 - (intOf x).toNat)
  case atStart => exact ⟨0, by omega, rfl, hid (heap_alloc_new w _), Ext.alloc w _⟩
  case round =>
    obtain ⟨q, hq, rfl, hb, hext⟩ := hrel
    obtain ⟨⟨a0, a1, a2, a3⟩, ⟨b0, b1, b2, b3⟩, ⟨c0, c1, c2, c3⟩⟩ := box12 hb.out
    have hq4 : q = 0 ∨ q = 1 ∨ q = 2 ∨ q = 3 := by omega
    rcases hq4 with rfl | rfl | rfl | rfl
    · go_wp2_with fail
      refine (s1 _).mono ?_
      rintro e w1 ⟨rfl, hx⟩
      replace hb := hid (hx.block hb.out)
      replace hext := hext.trans hx
      clear hx a0 a1 a2 a3 b0 b1 b2 b3 c0 c1 c2 c3
      by_cases h100 : 100 < t.size
      · have h' : 0 < max 0 ((t.size : Int) - 100) := by omega
        generalize max 0 ((t.size : Int) - 100) = S1 at *
        go_wp2_with fail
        refine (awake5_any _).mono ?_
        rintro e w2 ⟨rfl, hx⟩
        go_wp2_with fail
        go_ret
        exact ⟨rfl, hext.trans hx⟩
      · have h' : max 0 ((t.size : Int) - 100) = 0 := by omega
        rw [h']
        clear h' h100
        go_wp2_with fail
        go_roundw
        case rel => exact ⟨1, by omega, by go_num, hb, hext⟩
        case measure => simp [intOf]
    · go_wp2_with fail
      refine (s2 _).mono ?_
      rintro e w1 ⟨rfl, hx⟩
      replace hb := hid (hx.block hb.out)
      replace hext := hext.trans hx
      clear hx a0 a1 a2 a3 b0 b1 b2 b3 c0 c1 c2 c3
      by_cases h100 : 100 < u.size
      · have h' : 0 < max 0 ((u.size : Int) - 100) := by omega
        generalize max 0 ((u.size : Int) - 100) = S1 at *
        go_wp2_with fail
        refine (awake5_any _).mono ?_
        rintro e w2 ⟨rfl, hx⟩
        go_wp2_with fail
        go_ret
        exact ⟨rfl, hext.trans hx⟩
      · have h' : max 0 ((u.size : Int) - 100) = 0 := by omega
        rw [h']
        clear h' h100
        go_wp2_with fail
        go_roundw
        case rel => exact ⟨2, by omega, by go_num, hb, hext⟩
        case measure => simp [intOf]
    · go_wp2_with fail
      refine (s3 _).mono ?_
      rintro e w1 ⟨rfl, hx⟩
      replace hb := hid (hx.block hb.out)
      replace hext := hext.trans hx
      clear hx a0 a1 a2 a3 b0 b1 b2 b3 c0 c1 c2 c3
      by_cases h100 : 100 < v.size
      · have h' : 0 < max 0 ((v.size : Int) - 100) := by omega
        generalize max 0 ((v.size : Int) - 100) = S1 at *
        go_wp2_with fail
        refine (awake5_any _).mono ?_
        rintro e w2 ⟨rfl, hx⟩
        go_wp2_with fail
        go_ret
        exact ⟨rfl, hext.trans hx⟩
      · have h' : max 0 ((v.size : Int) - 100) = 0 := by omega
        rw [h']
        clear h' h100
        go_wp2_with fail
        go_roundw
        case rel => exact ⟨3, by omega, by go_num, hb, hext⟩
        case measure => simp [intOf]
    · have hz : w.heap.size < wr.heap.size := (Array.getElem?_eq_some_iff.1 hb.out).1
      have hz1 : w.heap.size < wr.heap.size + 1 := by omega
      have hz2 : w.heap.size < wr.heap.size + 1 + 1 := by omega
      have hz3 : w.heap.size < wr.heap.size + 2 := by omega
      have hd0 : ¬ w.heap.size = wr.heap.size := by omega
      have hd1 : ¬ w.heap.size = wr.heap.size + 1 := by omega
      have hd2 : ¬ w.heap.size = wr.heap.size + 1 + 1 := by omega
      have hd3 : ¬ w.heap.size = wr.heap.size + 2 := by omega
      have hh := hb.out
      simp only [arr3] at hh
      go_upto_region 6 with fail
      go_cut [4, 5, 6] from 17 to 22 (fun x y z wx => ∃ g4 g5 g6, x = .pointer (some ⟨g4, 0, none⟩) ∧ y = .pointer (some ⟨g5, 0, none⟩) ∧ z = .pointer (some ⟨g6, 0, none⟩) ∧ Hid (wx.heap[g4]? = some (.cells #[.int .u8 (k : Int), .int .i64 n, .int .u64 (b : Int), .string t] 28 (0, 0))) ∧ Hid (wx.heap[g5]? = some (.cells #[.int .u8 (l : Int), .int .i64 m, .int .u64 (c : Int), .string u] 28 (0, 0))) ∧ Hid (wx.heap[g6]? = some (.cells #[.int .u8 (j : Int), .int .i64 i, .int .u64 (d : Int), .string v] 28 (0, 0))) ∧ Ext w wx)
      case first =>
        go_region
        all_goals (go_wp2_with fail)
        all_goals go_meet
        all_goals
          obtain ⟨q1, q2, q3, q4⟩ := blocks3 wr _ _ _
          exact ⟨_, _, _, rfl, rfl, rfl, (by first | exact q1 | exact q2 | exact q3), (by first | exact q1 | exact q2 | exact q3), (by first | exact q1 | exact q2 | exact q3), hext.trans q4⟩
      case rest =>
        obtain ⟨g4, g5, g6, rfl, rfl, rfl, HB4, HB5, HB6, hx⟩ := hcut
        have HX := hid hx
        clear hx hb hext a0 a1 a2 a3 b0 b1 b2 b3 c0 c1 c2 c3 hz hz1 hz2 hz3 hd0 hd1 hd2 hd3 hh
        obtain ⟨⟨a0, a1, a2, a3⟩, _, az⟩ := box4 HB4.out
        obtain ⟨⟨b0, b1, b2, b3⟩, _, bz⟩ := box4 HB5.out
        obtain ⟨⟨c0, c1, c2, c3⟩, _, cz⟩ := box4 HB6.out
        have w1 : A1 = false ∨ (A1 = true ∧ A2 = false) ∨ (A1 = true ∧ A2 = true ∧ A3 = true) := by have := G1.out; revert this; cases A1 <;> cases A2 <;> cases A3 <;> simp
        have w2 : A4 = false ∨ (A4 = true ∧ A5 = false) ∨ (A4 = true ∧ A5 = true ∧ A3 = true) := by have := G2.out; revert this; cases A4 <;> cases A5 <;> cases A3 <;> simp
        have w3 : E1 = false ∨ (E1 = true ∧ E2 = false) ∨ (E1 = true ∧ E2 = true ∧ E3 = true) := by have := G3.out; revert this; cases E1 <;> cases E2 <;> cases E3 <;> simp
        have W3 := hid w3
        clear w3 G1 G2 G3
        rcases w1 with rfl | ⟨rfl, rfl⟩ | ⟨rfl, rfl, h3⟩ <;> rcases w2 with rfl | ⟨rfl, rfl⟩ | ⟨rfl, rfl, h4⟩
        all_goals (try subst h3)
        all_goals (try subst h4)
        all_goals (try clear h4)
        all_goals
          rcases W3.out with rfl | ⟨rfl, rfl⟩ | ⟨rfl, rfl, rfl⟩
          all_goals
            go_wp2_with (first | ((with_reducible show Calls _ 11 #[.int .u8 3, .agg #[.int .u8 (k : Int), .int .i64 n, .int .u64 (b : Int), .string t], .agg #[.int .u8 (l : Int), .int .i64 m, .int .u64 (c : Int), .string u]] _ _); refine (fA1.out _).mono ?_; rintro e w9 ⟨rfl, hx⟩; replace HX := hid (HX.out.trans hx); replace HB4 := hid (hx.block HB4.out); replace HB5 := hid (hx.block HB5.out); replace HB6 := hid (hx.block HB6.out); clear hx a0 a1 a2 a3 az b0 b1 b2 b3 bz c0 c1 c2 c3 cz; obtain ⟨⟨a0, a1, a2, a3⟩, _, az⟩ := box4 HB4.out; obtain ⟨⟨b0, b1, b2, b3⟩, _, bz⟩ := box4 HB5.out; obtain ⟨⟨c0, c1, c2, c3⟩, _, cz⟩ := box4 HB6.out)| ((with_reducible show Calls _ 11 #[.int .u8 4, .agg #[.int .u8 (l : Int), .int .i64 m, .int .u64 (c : Int), .string u], .agg #[.int .u8 (j : Int), .int .i64 i, .int .u64 (d : Int), .string v]] _ _); refine (fA2.out _).mono ?_; rintro e w9 ⟨rfl, hx⟩; replace HX := hid (HX.out.trans hx); replace HB4 := hid (hx.block HB4.out); replace HB5 := hid (hx.block HB5.out); replace HB6 := hid (hx.block HB6.out); clear hx a0 a1 a2 a3 az b0 b1 b2 b3 bz c0 c1 c2 c3 cz; obtain ⟨⟨a0, a1, a2, a3⟩, _, az⟩ := box4 HB4.out; obtain ⟨⟨b0, b1, b2, b3⟩, _, bz⟩ := box4 HB5.out; obtain ⟨⟨c0, c1, c2, c3⟩, _, cz⟩ := box4 HB6.out)| ((with_reducible show Calls _ 11 #[.int .u8 3, .agg #[.int .u8 (k : Int), .int .i64 n, .int .u64 (b : Int), .string t], .agg #[.int .u8 (j : Int), .int .i64 i, .int .u64 (d : Int), .string v]] _ _); refine (fA3.out _).mono ?_; rintro e w9 ⟨rfl, hx⟩; replace HX := hid (HX.out.trans hx); replace HB4 := hid (hx.block HB4.out); replace HB5 := hid (hx.block HB5.out); replace HB6 := hid (hx.block HB6.out); clear hx a0 a1 a2 a3 az b0 b1 b2 b3 bz c0 c1 c2 c3 cz; obtain ⟨⟨a0, a1, a2, a3⟩, _, az⟩ := box4 HB4.out; obtain ⟨⟨b0, b1, b2, b3⟩, _, bz⟩ := box4 HB5.out; obtain ⟨⟨c0, c1, c2, c3⟩, _, cz⟩ := box4 HB6.out)| ((with_reducible show Calls _ 11 #[.int .u8 4, .agg #[.int .u8 (k : Int), .int .i64 n, .int .u64 (b : Int), .string t], .agg #[.int .u8 (l : Int), .int .i64 m, .int .u64 (c : Int), .string u]] _ _); refine (fA4.out _).mono ?_; rintro e w9 ⟨rfl, hx⟩; replace HX := hid (HX.out.trans hx); replace HB4 := hid (hx.block HB4.out); replace HB5 := hid (hx.block HB5.out); replace HB6 := hid (hx.block HB6.out); clear hx a0 a1 a2 a3 az b0 b1 b2 b3 bz c0 c1 c2 c3 cz; obtain ⟨⟨a0, a1, a2, a3⟩, _, az⟩ := box4 HB4.out; obtain ⟨⟨b0, b1, b2, b3⟩, _, bz⟩ := box4 HB5.out; obtain ⟨⟨c0, c1, c2, c3⟩, _, cz⟩ := box4 HB6.out)| ((with_reducible show Calls _ 11 #[.int .u8 3, .agg #[.int .u8 (l : Int), .int .i64 m, .int .u64 (c : Int), .string u], .agg #[.int .u8 (j : Int), .int .i64 i, .int .u64 (d : Int), .string v]] _ _); refine (fA5.out _).mono ?_; rintro e w9 ⟨rfl, hx⟩; replace HX := hid (HX.out.trans hx); replace HB4 := hid (hx.block HB4.out); replace HB5 := hid (hx.block HB5.out); replace HB6 := hid (hx.block HB6.out); clear hx a0 a1 a2 a3 az b0 b1 b2 b3 bz c0 c1 c2 c3 cz; obtain ⟨⟨a0, a1, a2, a3⟩, _, az⟩ := box4 HB4.out; obtain ⟨⟨b0, b1, b2, b3⟩, _, bz⟩ := box4 HB5.out; obtain ⟨⟨c0, c1, c2, c3⟩, _, cz⟩ := box4 HB6.out)| ((with_reducible show Calls _ 11 #[.int .u8 1, .agg #[.int .u8 (k : Int), .int .i64 n, .int .u64 (b : Int), .string t], .agg #[.int .u8 (l : Int), .int .i64 m, .int .u64 (c : Int), .string u]] _ _); refine (fE1.out _).mono ?_; rintro e w9 ⟨rfl, hx⟩; replace HX := hid (HX.out.trans hx); replace HB4 := hid (hx.block HB4.out); replace HB5 := hid (hx.block HB5.out); replace HB6 := hid (hx.block HB6.out); clear hx a0 a1 a2 a3 az b0 b1 b2 b3 bz c0 c1 c2 c3 cz; obtain ⟨⟨a0, a1, a2, a3⟩, _, az⟩ := box4 HB4.out; obtain ⟨⟨b0, b1, b2, b3⟩, _, bz⟩ := box4 HB5.out; obtain ⟨⟨c0, c1, c2, c3⟩, _, cz⟩ := box4 HB6.out)| ((with_reducible show Calls _ 11 #[.int .u8 1, .agg #[.int .u8 (l : Int), .int .i64 m, .int .u64 (c : Int), .string u], .agg #[.int .u8 (j : Int), .int .i64 i, .int .u64 (d : Int), .string v]] _ _); refine (fE2.out _).mono ?_; rintro e w9 ⟨rfl, hx⟩; replace HX := hid (HX.out.trans hx); replace HB4 := hid (hx.block HB4.out); replace HB5 := hid (hx.block HB5.out); replace HB6 := hid (hx.block HB6.out); clear hx a0 a1 a2 a3 az b0 b1 b2 b3 bz c0 c1 c2 c3 cz; obtain ⟨⟨a0, a1, a2, a3⟩, _, az⟩ := box4 HB4.out; obtain ⟨⟨b0, b1, b2, b3⟩, _, bz⟩ := box4 HB5.out; obtain ⟨⟨c0, c1, c2, c3⟩, _, cz⟩ := box4 HB6.out)| ((with_reducible show Calls _ 11 #[.int .u8 1, .agg #[.int .u8 (k : Int), .int .i64 n, .int .u64 (b : Int), .string t], .agg #[.int .u8 (j : Int), .int .i64 i, .int .u64 (d : Int), .string v]] _ _); refine (fE3.out _).mono ?_; rintro e w9 ⟨rfl, hx⟩; replace HX := hid (HX.out.trans hx); replace HB4 := hid (hx.block HB4.out); replace HB5 := hid (hx.block HB5.out); replace HB6 := hid (hx.block HB6.out); clear hx a0 a1 a2 a3 az b0 b1 b2 b3 bz c0 c1 c2 c3 cz; obtain ⟨⟨a0, a1, a2, a3⟩, _, az⟩ := box4 HB4.out; obtain ⟨⟨b0, b1, b2, b3⟩, _, bz⟩ := box4 HB5.out; obtain ⟨⟨c0, c1, c2, c3⟩, _, cz⟩ := box4 HB6.out) | ((with_reducible show Calls _ 10 _ _ _); refine (awake5_any _).mono ?_; rintro e w9 ⟨rfl, hx⟩; replace HX := hid (HX.out.trans hx); replace HB4 := hid (hx.block HB4.out); replace HB5 := hid (hx.block HB5.out); replace HB6 := hid (hx.block HB6.out); clear hx a0 a1 a2 a3 az b0 b1 b2 b3 bz c0 c1 c2 c3 cz; obtain ⟨⟨a0, a1, a2, a3⟩, _, az⟩ := box4 HB4.out; obtain ⟨⟨b0, b1, b2, b3⟩, _, bz⟩ := box4 HB5.out; obtain ⟨⟨c0, c1, c2, c3⟩, _, cz⟩ := box4 HB6.out))
            go_ret
            exact ⟨rfl, HX.out⟩
end Go.Proofs.Ytaahaehgdamkdaa
