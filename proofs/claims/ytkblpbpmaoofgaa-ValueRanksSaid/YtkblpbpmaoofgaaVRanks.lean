/- ValueRanks: the walk. -/
import Derived.Test.YtkblpbpmaoofgaaVSmall
import Derived.Deep.CutRange
import Derived.Deep.QuietTactic
namespace Go.Proofs.Ytkblpbpmaoofgaa
open Go Go.RowKit


/-- three values in a row -/
def arr3 (k : Nat) (n : Int) (b : Nat) (t : ByteArray) (l : Nat) (m : Int) (c : Nat) (u : ByteArray) (j : Nat) (i : Int) (d : Nat) (v : ByteArray) : Array Value :=
  #[.int .u8 (k : Int), .int .i64 n, .int .u64 (b : Int), .string t, .int .u8 (l : Int), .int .i64 m, .int .u64 (c : Int), .string u, .int .u8 (j : Int), .int .i64 i, .int .u64 (d : Int), .string v]
theorem box12 {w1 : World} {g : Nat} {a b c d e f h i j k l m : Value} {t : TypeId} (hh : w1.heap[g]? = some (.cells #[a, b, c, d, e, f, h, i, j, k, l, m] t (0, 0))) :
    (w1.cell? ⟨g, 0, none⟩ = some a ∧ w1.cell? ⟨g, 1, none⟩ = some b ∧ w1.cell? ⟨g, 2, none⟩ = some c ∧ w1.cell? ⟨g, 3, none⟩ = some d) ∧ (w1.cell? ⟨g, 4, none⟩ = some e ∧ w1.cell? ⟨g, 5, none⟩ = some f ∧ w1.cell? ⟨g, 6, none⟩ = some h ∧ w1.cell? ⟨g, 7, none⟩ = some i) ∧ (w1.cell? ⟨g, 8, none⟩ = some j ∧ w1.cell? ⟨g, 9, none⟩ = some k ∧ w1.cell? ⟨g, 10, none⟩ = some l ∧ w1.cell? ⟨g, 11, none⟩ = some m) :=
  ⟨⟨cell_of_row _ _ 0 _ _ _ hh, cell_of_row _ _ 1 _ _ _ hh, cell_of_row _ _ 2 _ _ _ hh, cell_of_row _ _ 3 _ _ _ hh⟩, ⟨cell_of_row _ _ 4 _ _ _ hh, cell_of_row _ _ 5 _ _ _ hh, cell_of_row _ _ 6 _ _ _ hh, cell_of_row _ _ 7 _ _ _ hh⟩, ⟨cell_of_row _ _ 8 _ _ _ hh, cell_of_row _ _ 9 _ _ _ hh, cell_of_row _ _ 10 _ _ _ hh, cell_of_row _ _ 11 _ _ _ hh⟩⟩

/-- what the slots of the region hold -/
def vranksG (va vb vc : Value) (X Y Z : Int) : Nat → Value → World → Prop
  | 0, v, _ => v = va
  | 1, v, _ => v = vb
  | 2, v, _ => v = .int .i64 X
  | 3, v, _ => v = vb
  | 4, v, _ => v = vc
  | 5, v, _ => v = .int .i64 Y
  | 6, v, _ => v = va
  | 7, v, _ => v = vc
  | 8, v, _ => v = .int .i64 Z
  | 9, v, _ => v = .int .i64 X
  | 10, v, _ => v = .int .i64 Y
  | 11, v, _ => v = .int .i64 Z
  | _, _, _ => True
theorem vranksG_st (va vb vc : Value) (X Y Z : Int) : ∀ i9 z9 x9 y9, vranksG va vb vc X Y Z i9 z9 x9 → Ext x9 y9 → vranksG va vb vc X Y Z i9 z9 y9 := by
  intro i9 z9 x9 y9 h e
  unfold vranksG at *
  split at h <;> first | exact h | exact Bytes.ext h e
theorem blocks3 (w : World) (o1 o2 o3 : Obj) : ((((w.alloc o1).alloc o2).alloc o3).drew).heap[w.heap.size]? = some o1 ∧ ((((w.alloc o1).alloc o2).alloc o3).drew).heap[w.heap.size + 1]? = some o2 ∧ ((((w.alloc o1).alloc o2).alloc o3).drew).heap[w.heap.size + 1 + 1]? = some o3 ∧ Ext w (((w.alloc o1).alloc o2).alloc o3).drew := by
  have e1 : (w.alloc o1).heap.size = w.heap.size + 1 := by simp
  have e2 : ((w.alloc o1).alloc o2).heap.size = w.heap.size + 1 + 1 := by simp
  have h1 := (((Ext.alloc (w.alloc o1) o2).then_alloc o3).then_drew).block (heap_alloc_new w o1)
  have h2 := ((Ext.alloc ((w.alloc o1).alloc o2) o3).then_drew).block (heap_alloc_new (w.alloc o1) o2)
  have h3 := (Ext.drew (((w.alloc o1).alloc o2).alloc o3)).block (heap_alloc_new ((w.alloc o1).alloc o2) o3)
  rw [e1] at h2
  rw [e2] at h3
  exact ⟨h1, h2, h3, (((Ext.alloc w o1).then_alloc o2).then_alloc o3).then_drew⟩

set_option maxRecDepth 100000 in
set_option maxHeartbeats 4000000 in
theorem vranks_in (k : Nat) (n : Int) (b : Nat) (t : ByteArray) (l : Nat) (m : Int) (c : Nat) (u : ByteArray) (j : Nat) (i : Int) (d : Nat) (v : ByteArray) (w : World)
    (hk : k ≤ 255) (hkl : l ≤ 255) (hkj : j ≤ 255) (hn0 : -9223372036854775808 ≤ n) (hn1 : n ≤ 9223372036854775807) (hm0 : -9223372036854775808 ≤ m) (hm1 : m ≤ 9223372036854775807) (hi0 : -9223372036854775808 ≤ i) (hi1 : i ≤ 9223372036854775807)
    (hbb : b ≤ 18446744073709551615) (hcc : c ≤ 18446744073709551615) (hdd : d ≤ 18446744073709551615) (ht : t.size ≤ 9223372036854775807) (hu : u.size ≤ 9223372036854775807) (hv : v.size ≤ 9223372036854775807) :
    Calls Try.prog 7 #[.agg (arr3 k n b t l m c u j i d v)] w (Says w (.bool true)) := by
  have s1 := fun W => small_any k n b t W ht
  have s2 := fun W => small_any l m c u W hu
  have s3 := fun W => small_any j i d v W hv
  have rab := fun W => vrank_any k n b t l m c u W hk hkl hn0 hn1 hm0 hm1 hbb hcc ht hu
  have rbc := fun W => vrank_any l m c u j i d v W hkl hkj hm0 hm1 hi0 hi1 hcc hdd hu hv
  have rac := fun W => vrank_any k n b t j i d v W hk hkj hn0 hn1 hi0 hi1 hbb hdd ht hv
  have rba := fun W => vrank_any l m c u k n b t W hkl hk hm0 hm1 hn0 hn1 hcc hbb hu ht
  have raa := fun W => vrank_any k n b t k n b t W hk hk hn0 hn1 hn0 hn1 hbb hbb ht ht
  have F1 := rank_bound k n b t l m c u
  have F2 := rank_turn k n b t l m c u
  have F3 := rank_self k n b t
  have F4 := rank_le k n b t l m c u j i d v
  rw [F2] at rba
  rw [F3] at raa
  unfold vv at rab rbc rac rba raa
  generalize rankV k n b t l m c u = X at *
  generalize rankV l m c u j i d v = Y at *
  generalize rankV k n b t j i d v = Z at *
  have G1 := hid F1
  have G4 := hid F4
  clear F1 F2 F3 F4
  unfold arr3
  go_enter Try.func7, Try.ntmps7
  go_wp2_with fail
  go_loopw [3] (fun x wr => ∃ q : Nat, q ≤ 3 ∧ x = .int .i64 (q : Int) ∧ Hid (wr.heap[w.heap.size]? = some (.cells (arr3 k n b t l m c u j i d v) 54 (0, 0))) ∧ Ext w wr)
    (fun x _ => 3 - (intOf x).toNat)
  case atStart => exact ⟨0, by omega, rfl, hid (heap_alloc_new w _), Ext.alloc w _⟩
  case round =>
    obtain ⟨q, hq, rfl, hb, hext⟩ := hrel
    obtain ⟨⟨a0, a1, a2, a3⟩, ⟨b0, b1, b2, b3⟩, ⟨c0, c1, c2, c3⟩⟩ := box12 hb.out
    have hq4 : q = 0 ∨ q = 1 ∨ q = 2 ∨ q = 3 := by omega
    rcases hq4 with rfl | rfl | rfl | rfl
    · go_wp2_with fail
      refine (s1 _).mono ?_
      rintro e w1 ⟨rfl, hx⟩
      replace hb := hid (hx.block hb.out)
      replace hext := hext.trans hx
      clear hx a0 a1 a2 a3 b0 b1 b2 b3 c0 c1 c2 c3
      by_cases h100 : 100 < t.size
      · have h' : 0 < max 0 ((t.size : Int) - 100) := by omega
        generalize max 0 ((t.size : Int) - 100) = S1 at *
        go_wp2_with fail
        refine (awake_any _).mono ?_
        rintro e w2 ⟨rfl, hx⟩
        go_wp2_with fail
        go_ret
        exact ⟨rfl, hext.trans hx⟩
      · have h' : max 0 ((t.size : Int) - 100) = 0 := by omega
        rw [h']
        clear h' h100
        go_wp2_with fail
        go_roundw
        case rel => exact ⟨1, by omega, by go_num, hb, hext⟩
        case measure => simp [intOf]
    · go_wp2_with fail
      refine (s2 _).mono ?_
      rintro e w1 ⟨rfl, hx⟩
      replace hb := hid (hx.block hb.out)
      replace hext := hext.trans hx
      clear hx a0 a1 a2 a3 b0 b1 b2 b3 c0 c1 c2 c3
      by_cases h100 : 100 < u.size
      · have h' : 0 < max 0 ((u.size : Int) - 100) := by omega
        generalize max 0 ((u.size : Int) - 100) = S1 at *
        go_wp2_with fail
        refine (awake_any _).mono ?_
        rintro e w2 ⟨rfl, hx⟩
        go_wp2_with fail
        go_ret
        exact ⟨rfl, hext.trans hx⟩
      · have h' : max 0 ((u.size : Int) - 100) = 0 := by omega
        rw [h']
        clear h' h100
        go_wp2_with fail
        go_roundw
        case rel => exact ⟨2, by omega, by go_num, hb, hext⟩
        case measure => simp [intOf]
    · go_wp2_with fail
      refine (s3 _).mono ?_
      rintro e w1 ⟨rfl, hx⟩
      replace hb := hid (hx.block hb.out)
      replace hext := hext.trans hx
      clear hx a0 a1 a2 a3 b0 b1 b2 b3 c0 c1 c2 c3
      by_cases h100 : 100 < v.size
      · have h' : 0 < max 0 ((v.size : Int) - 100) := by omega
        generalize max 0 ((v.size : Int) - 100) = S1 at *
        go_wp2_with fail
        refine (awake_any _).mono ?_
        rintro e w2 ⟨rfl, hx⟩
        go_wp2_with fail
        go_ret
        exact ⟨rfl, hext.trans hx⟩
      · have h' : max 0 ((v.size : Int) - 100) = 0 := by omega
        rw [h']
        clear h' h100
        go_wp2_with fail
        go_roundw
        case rel => exact ⟨3, by omega, by go_num, hb, hext⟩
        case measure => simp [intOf]
    · have hz : w.heap.size < wr.heap.size := (Array.getElem?_eq_some_iff.1 hb.out).1
      have hz1 : w.heap.size < wr.heap.size + 1 := by omega
      have hz2 : w.heap.size < wr.heap.size + 1 + 1 := by omega
      have hz3 : w.heap.size < wr.heap.size + 2 := by omega
      have hd0 : ¬ w.heap.size = wr.heap.size := by omega
      have hd1 : ¬ w.heap.size = wr.heap.size + 1 := by omega
      have hd2 : ¬ w.heap.size = wr.heap.size + 1 + 1 := by omega
      have hd3 : ¬ w.heap.size = wr.heap.size + 2 := by omega
      have hh := hb.out
      simp only [arr3] at hh
      go_upto_region 6 with fail
      go_cut [4, 5, 6] from 20 to 25 (fun x y z wx => ∃ g4 g5 g6, x = .pointer (some ⟨g4, 0, none⟩) ∧ y = .pointer (some ⟨g5, 0, none⟩) ∧ z = .pointer (some ⟨g6, 0, none⟩) ∧ Hid (wx.heap[g4]? = some (.cells #[.int .u8 (k : Int), .int .i64 n, .int .u64 (b : Int), .string t] 31 (0, 0))) ∧ Hid (wx.heap[g5]? = some (.cells #[.int .u8 (l : Int), .int .i64 m, .int .u64 (c : Int), .string u] 31 (0, 0))) ∧ Hid (wx.heap[g6]? = some (.cells #[.int .u8 (j : Int), .int .i64 i, .int .u64 (d : Int), .string v] 31 (0, 0))) ∧ Ext w wx)
      case first =>
        go_region
        all_goals (go_wp2_with fail)
        all_goals go_meet
        all_goals
          obtain ⟨q1, q2, q3, q4⟩ := blocks3 wr _ _ _
          exact ⟨_, _, _, rfl, rfl, rfl, (by first | exact q1 | exact q2 | exact q3), (by first | exact q1 | exact q2 | exact q3), (by first | exact q1 | exact q2 | exact q3), hext.trans q4⟩
      case rest =>
        obtain ⟨g4, g5, g6, rfl, rfl, rfl, HB4, HB5, HB6, hx⟩ := hcut
        clear hb hext a0 a1 a2 a3 b0 b1 b2 b3 c0 c1 c2 c3 hz hz1 hz2 hz3 hd0 hd1 hd2 hd3 hh
        go_wp2_with fail
        obtain ⟨va, hva⟩ : ∃ va, va = Value.agg #[.int .u8 (k : Int), .int .i64 n, .int .u64 (b : Int), .string t] := ⟨_, rfl⟩
        obtain ⟨vb, hvb⟩ : ∃ vb, vb = Value.agg #[.int .u8 (l : Int), .int .i64 m, .int .u64 (c : Int), .string u] := ⟨_, rfl⟩
        obtain ⟨vc, hvc⟩ : ∃ vc, vc = Value.agg #[.int .u8 (j : Int), .int .i64 i, .int .u64 (d : Int), .string v] := ⟨_, rfl⟩
        have HVA := hid hva
        have HVB := hid hvb
        have HVC := hid hvc
        rw [← hva, ← hvb] at rab
        rw [← hvb, ← hvc] at rbc
        rw [← hva, ← hvc] at rac
        rw [← hva, ← hvb] at rba
        rw [← hva] at raa
        clear hva hvb hvc
        have HX := hid hx
        clear hx
        refine wp_region_slots Ext (vranksG va vb vc X Y Z) (by kernel_rfl) Ext.trans Ext.refl (Ext.drew _) (vranksG_st _ _ _ _ _ _) (by kernel_rfl) ?_ ?_
        · intro tmps wq hle hfr j9 o ho hty
          have h4 : tmps[4]?.getD undef = .pointer (some ⟨g4, 0, none⟩) := hfr 4 (by kernel_rfl)
          have h5 : tmps[5]?.getD undef = .pointer (some ⟨g5, 0, none⟩) := hfr 5 (by kernel_rfl)
          have h6 : tmps[6]?.getD undef = .pointer (some ⟨g6, 0, none⟩) := hfr 6 (by kernel_rfl)
          obtain ⟨⟨a0, a1, a2, a3⟩, _, _⟩ := box4 (hle.block HB4.out)
          obtain ⟨⟨b0, b1, b2, b3⟩, _, _⟩ := box4 (hle.block HB5.out)
          obtain ⟨⟨c0, c1, c2, c3⟩, _, _⟩ := box4 (hle.block HB6.out)
          clear hfr
          match j9, ho with
          | 0, ho =>
            obtain rfl := (Option.some.inj ho)
            clear hty ho
            refine step_pure (va) (wanted_free rfl) ?_ (Ext.refl _) rfl
            simp [execOp, Act.eval, h4, a0, a1, a2, a3, HVA.out, go_sem]
          | 1, ho =>
            obtain rfl := (Option.some.inj ho)
            clear hty ho
            refine step_pure (vb) (wanted_free rfl) ?_ (Ext.refl _) rfl
            simp [execOp, Act.eval, h5, b0, b1, b2, b3, HVB.out, go_sem]
          | 2, ho =>
            have h26 : tmps[26]?.getD undef = va := hty 0 26 rfl (by obtain rfl := (Option.some.inj ho); rfl)
            have h27 : tmps[27]?.getD undef = vb := hty 1 27 rfl (by obtain rfl := (Option.some.inj ho); rfl)
            obtain rfl := (Option.some.inj ho)
            clear hty ho
            refine step_call 14 #[va, vb] (wanted_free rfl) ?_ ?_
            · simp [execOp, Act.eval, h26, h27, go_sem]
            · exact (rab _).mono fun e w' ⟨h1, h2⟩ => ⟨_, h1, h2, rfl⟩
          | 3, ho =>
            obtain rfl := (Option.some.inj ho)
            clear hty ho
            refine step_pure (vb) (wanted_free rfl) ?_ (Ext.refl _) rfl
            simp [execOp, Act.eval, h5, b0, b1, b2, b3, HVB.out, go_sem]
          | 4, ho =>
            obtain rfl := (Option.some.inj ho)
            clear hty ho
            refine step_pure (vc) (wanted_free rfl) ?_ (Ext.refl _) rfl
            simp [execOp, Act.eval, h6, c0, c1, c2, c3, HVC.out, go_sem]
          | 5, ho =>
            have h29 : tmps[29]?.getD undef = vb := hty 3 29 rfl (by obtain rfl := (Option.some.inj ho); rfl)
            have h30 : tmps[30]?.getD undef = vc := hty 4 30 rfl (by obtain rfl := (Option.some.inj ho); rfl)
            obtain rfl := (Option.some.inj ho)
            clear hty ho
            refine step_call 14 #[vb, vc] (wanted_free rfl) ?_ ?_
            · simp [execOp, Act.eval, h29, h30, go_sem]
            · exact (rbc _).mono fun e w' ⟨h1, h2⟩ => ⟨_, h1, h2, rfl⟩
          | 6, ho =>
            obtain rfl := (Option.some.inj ho)
            clear hty ho
            refine step_pure (va) (wanted_free rfl) ?_ (Ext.refl _) rfl
            simp [execOp, Act.eval, h4, a0, a1, a2, a3, HVA.out, go_sem]
          | 7, ho =>
            obtain rfl := (Option.some.inj ho)
            clear hty ho
            refine step_pure (vc) (wanted_free rfl) ?_ (Ext.refl _) rfl
            simp [execOp, Act.eval, h6, c0, c1, c2, c3, HVC.out, go_sem]
          | 8, ho =>
            have h32 : tmps[32]?.getD undef = va := hty 6 32 rfl (by obtain rfl := (Option.some.inj ho); rfl)
            have h33 : tmps[33]?.getD undef = vc := hty 7 33 rfl (by obtain rfl := (Option.some.inj ho); rfl)
            obtain rfl := (Option.some.inj ho)
            clear hty ho
            refine step_call 14 #[va, vc] (wanted_free rfl) ?_ ?_
            · simp [execOp, Act.eval, h32, h33, go_sem]
            · exact (rac _).mono fun e w' ⟨h1, h2⟩ => ⟨_, h1, h2, rfl⟩
          | 9, ho =>
            have h28 : tmps[28]?.getD undef = .int .i64 X := hty 2 28 rfl (by obtain rfl := (Option.some.inj ho); rfl)
            obtain rfl := (Option.some.inj ho)
            clear hty ho
            refine step_pure (.int .i64 X) (wanted_free rfl) ?_ (Ext.refl _) rfl
            simp [execOp, Act.eval, h28, go_sem]
          | 10, ho =>
            have h31 : tmps[31]?.getD undef = .int .i64 Y := hty 5 31 rfl (by obtain rfl := (Option.some.inj ho); rfl)
            obtain rfl := (Option.some.inj ho)
            clear hty ho
            refine step_pure (.int .i64 Y) (wanted_free rfl) ?_ (Ext.refl _) rfl
            simp [execOp, Act.eval, h31, go_sem]
          | 11, ho =>
            have h34 : tmps[34]?.getD undef = .int .i64 Z := hty 8 34 rfl (by obtain rfl := (Option.some.inj ho); rfl)
            obtain rfl := (Option.some.inj ho)
            clear hty ho
            refine step_pure (.int .i64 Z) (wanted_free rfl) ?_ (Ext.refl _) rfl
            simp [execOp, Act.eval, h34, go_sem]
          | (j9 + 12), ho => exact absurd ho (by simp)

        · intro tmps w5 hle hs5 hfr hty
          have h7 : tmps[7]?.getD undef = .int .i64 X := hty 9 7 rfl
          have h8 : tmps[8]?.getD undef = .int .i64 Y := hty 10 8 rfl
          have h9 : tmps[9]?.getD undef = .int .i64 Z := hty 11 9 rfl
          have hfe := frame_eq [26, 27, 28, 29, 30, 31, 32, 33, 34, 7, 8, 9] hs5 hfr (by kernel_rfl)
          rw [hfe]
          clear hfe hfr hs5 hty
          simp only [List.foldl_cons, List.foldl_nil]
          generalize tmps[26]?.getD undef = x26
          generalize tmps[27]?.getD undef = x27
          generalize tmps[28]?.getD undef = x28
          generalize tmps[29]?.getD undef = x29
          generalize tmps[30]?.getD undef = x30
          generalize tmps[31]?.getD undef = x31
          generalize tmps[32]?.getD undef = x32
          generalize tmps[33]?.getD undef = x33
          generalize tmps[34]?.getD undef = x34
          rw [h7, h8, h9]
          clear h7 h8 h9
          simp only [List.setIfInBounds_toArray, List.set_cons_succ, List.set_cons_zero]
          replace HB4 := hid (hle.block HB4.out)
          replace HB5 := hid (hle.block HB5.out)
          replace HX := hid (HX.out.trans hle)
          clear hle
          rw [HVA.out, HVB.out] at rba
          rw [HVA.out] at raa
          obtain ⟨⟨a0, a1, a2, a3⟩, _, _⟩ := box4 HB4.out
          obtain ⟨⟨b0, b1, b2, b3⟩, _, _⟩ := box4 HB5.out
          have X0 : -1 ≤ X := G1.out.1
          have X1 : X ≤ 1 := G1.out.2
          clear rab rbc rac s1 s2 s3
          go_wp2_with fail
          refine (rba _).mono ?_
          rintro e w6 ⟨rfl, hx⟩
          replace HB4 := hid (hx.block HB4.out)
          replace HX := hid (HX.out.trans hx)
          clear hx a0 a1 a2 a3 b0 b1 b2 b3 rba
          obtain ⟨⟨a0, a1, a2, a3⟩, _, _⟩ := box4 HB4.out
          go_wp2_with fail
          refine (raa _).mono ?_
          rintro e w7 ⟨rfl, hx⟩
          replace HX := hid (HX.out.trans hx)
          clear hx a0 a1 a2 a3 raa HB4
          have hcase : 0 < X ∨ (X ≤ 0 ∧ 0 < Y) ∨ (X ≤ 0 ∧ Y = 0 ∧ Z ≤ 0) ∨ (X ≤ 0 ∧ Y < 0 ∧ Z < 0) := by
            have g4 := G4.out
            by_cases hx0 : 0 < X
            · exact Or.inl hx0
            · by_cases hy0 : 0 < Y
              · exact Or.inr (Or.inl ⟨by omega, hy0⟩)
              · have := g4 (by omega) (by omega)
                omega
          rcases hcase with hc1 | ⟨hc1, hc2⟩ | ⟨hc1, hc2, hc3⟩ | ⟨hc1, hc2, hc3⟩
          all_goals
            have HB1 := hid (show (decide (0 < X) || decide (0 < Y) || decide (Z ≤ 0)) = true by simp; omega)
            have HB2 := hid (show (decide (0 < X) || decide (0 ≤ Y) || decide (Z < 0)) = true by simp; omega)
            go_wp2_with fail
            refine (awake_any _).mono ?_
            rintro e w8 ⟨rfl, hx⟩
            replace HX := hid (HX.out.trans hx)
            clear hx
            go_wp2_with fail
            go_ret
            first
              | exact ⟨rfl, HX.out⟩
              | exact ⟨congrArg (fun b => Ending.returned (Value.bool b)) HB1.out, HX.out⟩
              | exact ⟨congrArg (fun b => Ending.returned (Value.bool b)) HB2.out, HX.out⟩
end Go.Proofs.Ytkblpbpmaoofgaa
