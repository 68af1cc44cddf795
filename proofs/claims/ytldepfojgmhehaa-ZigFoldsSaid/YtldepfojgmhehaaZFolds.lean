/- ZigFolds: the walk. -/
import Derived.Test.YtldepfojgmhehaaZAwk
import Derived.BigQuiet
import Derived.Deep.QuietTactic
import Derived.Deep.CutRange
namespace Go.Proofs.Ytldepfojgmhehaa
open Go Go.RowKit

/-- how far from the middle -/
def nearZ (n : Int) : Int := if n < 0 then -(n + 1) else n
theorem near_neg {n : Int} (h : n < 0) : nearZ n = -(n + 1) := if_pos h
theorem near_pos {n : Int} (h : ¬ n < 0) : nearZ n = n := if_neg h

/-- what is said of two numbers -/
theorem folds_math (a b : Int) (ha0 : -9223372036854775808 ≤ a) (ha1 : a ≤ 9223372036854775807) :
    (decide (nearZ b ≤ nearZ a) = false → foldZ a < foldZ b) ∧ ((nearZ a != nearZ b) = false → decide (a < 0) = false → decide (0 ≤ b) = false → (IntKind.u64.wrap (foldZ a + 1) == foldZ b) = true) ∧ (foldZ a % 2 == 1) = decide (a < 0) := by
  refine ⟨fun h => ?_, fun h1 h2 h3 => ?_, ?_⟩
  · rw [decide_eq_false_iff_not] at h
    unfold nearZ at h
    unfold foldZ
    repeat' split at h
    all_goals (repeat' split)
    all_goals omega
  · rw [decide_eq_false_iff_not] at h2 h3
    rw [bne_eq_false_iff_eq] at h1
    rw [near_pos h2, near_neg (by omega)] at h1
    rw [beq_iff_eq, fold_pos h2, fold_neg (by omega), IntKind.wrap_u64]
    omega
  · rw [Bool.eq_iff_iff, beq_iff_eq, decide_eq_true_iff]
    unfold foldZ
    split <;> omega

/-- what the slots of the region hold -/
def foldG (g : Nat) (a b A B : Int) : Nat → Value → World → Prop
  | 0, v, _ => v = .pointer (some ⟨g, 0, none⟩)
  | 1, v, _ => v = .int .i64 a
  | 2, v, _ => v = .int .u64 A
  | 3, v, _ => v = .pointer (some ⟨g, 1, none⟩)
  | 4, v, _ => v = .int .i64 b
  | 5, v, _ => v = .int .u64 B
  | 6, v, _ => v = .int .u64 A
  | 7, v, _ => v = .int .u64 B
  | _, _, _ => True
theorem foldG_st (g : Nat) (a b A B : Int) : ∀ i9 z9 x9 y9, foldG g a b A B i9 z9 x9 → Ext x9 y9 → foldG g a b A B i9 z9 y9 := by
  intro i9 z9 x9 y9 h e
  unfold foldG at *
  split at h <;> first | exact h | exact Bytes.ext h e

/-- what the slots of the region hold -/
def foldsG (g : Nat) (a b A B u k near far : Int) (X Y1 Y2 Y3 : Bool) : Nat → Value → World → Prop
  | 0, v, _ => v = .int .u64 A
  | 1, v, _ => v = .int .i64 a
  | 2, v, _ => v = .pointer (some ⟨g, 0, none⟩)
  | 3, v, _ => v = .int .i64 a
  | 4, v, _ => v = .bool true
  | 5, v, _ => v = .bool true
  | 6, v, _ => v = .int .u64 B
  | 7, v, _ => v = .int .i64 b
  | 8, v, _ => v = .pointer (some ⟨g, 1, none⟩)
  | 9, v, _ => v = .int .i64 b
  | 10, v, _ => v = .bool true
  | 11, v, _ => v = .bool true
  | 12, v, _ => v = .bool true
  | 13, v, _ => v = .int .u64 u
  | 14, v, _ => v = .int .i64 k
  | 15, v, _ => v = .int .u64 u
  | 16, v, _ => v = .int .u64 u
  | 17, v, _ => v = .bool true
  | 18, v, _ => v = .bool true
  | 19, v, _ => v = .bool true
  | 20, v, _ => v = .int .i64 near
  | 21, v, _ => v = .int .i64 far
  | 22, v, _ => v = .bool X
  | 23, v, _ => v = .bool X
  | 24, v, _ => v = cond X undef (.int .u64 A)
  | 25, v, _ => v = cond X undef (.int .u64 B)
  | 26, v, _ => v = cond X undef (.bool true)
  | 27, v, _ => v = .bool true
  | 28, v, _ => v = .bool true
  | 29, v, _ => v = .bool true
  | 30, v, _ => v = .int .i64 near
  | 31, v, _ => v = .int .i64 far
  | 32, v, _ => v = .bool Y1
  | 33, v, _ => v = .bool Y1
  | 34, v, _ => v = cond Y1 undef (.pointer (some ⟨g, 0, none⟩))
  | 35, v, _ => v = cond Y1 undef (.int .i64 a)
  | 36, v, _ => v = cond Y1 undef (.bool (decide (a < 0)))
  | 37, v, _ => v = .bool Y2
  | 38, v, _ => v = .bool Y2
  | 39, v, _ => v = cond Y2 undef (.pointer (some ⟨g, 1, none⟩))
  | 40, v, _ => v = cond Y2 undef (.int .i64 b)
  | 41, v, _ => v = cond Y2 undef (.bool (decide (0 ≤ b)))
  | 42, v, _ => v = .bool Y3
  | 43, v, _ => v = .bool Y3
  | 44, v, _ => v = cond Y3 undef (.int .u64 A)
  | 45, v, _ => v = cond Y3 undef (.int .u64 (IntKind.u64.wrap (A + 1)))
  | 46, v, _ => v = cond Y3 undef (.int .u64 B)
  | 47, v, _ => v = cond Y3 undef (.bool true)
  | 48, v, _ => v = .bool true
  | 49, v, _ => v = .bool true
  | 50, v, _ => v = .bool true
  | 51, v, _ => v = .int .u64 A
  | 52, v, _ => v = .int .u64 (A % 2)
  | 53, v, _ => v = .bool (decide (a < 0))
  | 54, v, _ => v = .pointer (some ⟨g, 0, none⟩)
  | 55, v, _ => v = .int .i64 a
  | 56, v, _ => v = .bool (decide (a < 0))
  | 57, v, _ => v = .bool true
  | 58, v, _ => v = .bool true
  | 59, v, _ => v = .bool true
  | 60, v, _ => v = .bool true
  | 61, v, _ => v = .bool true
  | 62, v, _ => v = .bool true
  | _, _, _ => True
theorem foldsG_st (g : Nat) (a b A B u k near far : Int) (X Y1 Y2 Y3 : Bool) : ∀ i9 z9 x9 y9, foldsG g a b A B u k near far X Y1 Y2 Y3 i9 z9 x9 → Ext x9 y9 → foldsG g a b A B u k near far X Y1 Y2 Y3 i9 z9 y9 := by
  intro i9 z9 x9 y9 h e
  unfold foldsG at *
  split at h <;> first | exact h | exact Bytes.ext h e

set_option maxRecDepth 100000 in
set_option maxHeartbeats 4000000 in
theorem folds_any (a b u : Int) (w : World) (ha0 : -9223372036854775808 ≤ a) (ha1 : a ≤ 9223372036854775807) (hb0 : -9223372036854775808 ≤ b) (hb1 : b ≤ 9223372036854775807) (hu0 : 0 ≤ u) (hu1 : u ≤ 18446744073709551615) :
    Calls Try.prog 6 #[.agg #[.int .i64 a, .int .i64 b], .int .u64 u] w (Says w (.bool true)) := by
  obtain ⟨A, hAA⟩ : ∃ A, foldZ a = A := ⟨_, rfl⟩
  obtain ⟨B, hBB⟩ : ∃ B, foldZ b = B := ⟨_, rfl⟩
  obtain ⟨k, hkk⟩ : ∃ k, backZ u = k := ⟨_, rfl⟩
  obtain ⟨near, hnn⟩ : ∃ k, nearZ a = k := ⟨_, rfl⟩
  obtain ⟨far, hff⟩ : ∃ k, nearZ b = k := ⟨_, rfl⟩
  have hm := folds_math a b ha0 ha1
  have hbA := fold_bounds ha0 ha1
  have hbB := fold_bounds hb0 hb1
  have hbk := back_bounds hu0 hu1
  have hA2 : Hid (backZ A = a) := by rw [← hAA]; exact back_fold a
  have hB2 : Hid (backZ B = b) := by rw [← hBB]; exact back_fold b
  have hk2 : Hid (foldZ k = u) := by rw [← hkk]; exact fold_back hu0
  rw [hAA] at hbA
  rw [hBB] at hbB
  rw [hkk] at hbk
  rw [hAA, hBB, hnn, hff] at hm
  have HM := hid hm
  have hA := hid hAA
  have hB := hid hBB
  have hk := hid hkk
  have HN := hid hnn
  have HF := hid hff
  obtain ⟨hA0, hA1⟩ := hbA
  obtain ⟨hB0, hB1⟩ := hbB
  obtain ⟨hk0, hk1⟩ := hbk
  clear hm hAA hBB hkk hnn hff
  obtain ⟨g, hg⟩ : ∃ g, g = w.heap.size := ⟨_, rfl⟩
  go_enter Try.func6, Try.ntmps6
  go_wp2_with fail
  rw [← hg]
  have hbox : Hid ((w.alloc (.cells #[.int .i64 a, .int .i64 b] 40)).heap[g]? = some (.cells #[.int .i64 a, .int .i64 b] 40 (0, 0))) := by rw [hg]; exact heap_alloc_new w _
  clear hg
  refine wp_region_slots Ext (foldG g a b A B) (by kernel_rfl) Ext.trans Ext.refl (Ext.drew _) (foldG_st _ _ _ _ _) (by kernel_rfl) ?_ ?_
  · intro tmps wr hle hfr j o ho hty
    have h2 : tmps[2]?.getD undef = .pointer (some ⟨g, 0, none⟩) := hfr 2 (by kernel_rfl)
    have hbx := hid (hle.block hbox.out)
    have hcell0 : wr.cell? ⟨g, 0, none⟩ = some (.int .i64 a) := cell_of_row _ _ 0 _ _ _ hbx.out
    have hcell1 : wr.cell? ⟨g, 1, none⟩ = some (.int .i64 b) := cell_of_row _ _ 1 _ _ _ hbx.out
    clear hfr
    match j, ho with
    | 0, ho =>
      obtain rfl := (Option.some.inj ho)
      clear hty ho
      refine step_pure (.pointer (some ⟨g, 0, none⟩)) (wanted_free rfl) ?_ (Ext.refl _) rfl
      simp [execOp, Act.eval, h2, go_sem]
    | 1, ho =>
      have h9 : tmps[9]?.getD undef = .pointer (some ⟨g, 0, none⟩) := hty 0 9 rfl (by obtain rfl := (Option.some.inj ho); rfl)
      obtain rfl := (Option.some.inj ho)
      clear hty ho
      refine step_pure (.int .i64 a) (wanted_free rfl) ?_ (Ext.refl _) rfl
      simp [execOp, Act.eval, h9, hcell0, go_sem]
    | 2, ho =>
      have h10 : tmps[10]?.getD undef = .int .i64 a := hty 1 10 rfl (by obtain rfl := (Option.some.inj ho); rfl)
      obtain rfl := (Option.some.inj ho)
      clear hty ho
      refine step_call 14 #[.int .i64 a] (wanted_free rfl) ?_ ?_
      · simp [execOp, Act.eval, h10, go_sem]
      · exact (fold_any a _ ha0 ha1).mono fun e w' ⟨h1, h2⟩ => ⟨_, h1, h2, congrArg _ hA.out⟩
    | 3, ho =>
      obtain rfl := (Option.some.inj ho)
      clear hty ho
      refine step_pure (.pointer (some ⟨g, 1, none⟩)) (wanted_free rfl) ?_ (Ext.refl _) rfl
      simp [execOp, Act.eval, h2, go_sem]
    | 4, ho =>
      have h12 : tmps[12]?.getD undef = .pointer (some ⟨g, 1, none⟩) := hty 3 12 rfl (by obtain rfl := (Option.some.inj ho); rfl)
      obtain rfl := (Option.some.inj ho)
      clear hty ho
      refine step_pure (.int .i64 b) (wanted_free rfl) ?_ (Ext.refl _) rfl
      simp [execOp, Act.eval, h12, hcell1, go_sem]
    | 5, ho =>
      have h13 : tmps[13]?.getD undef = .int .i64 b := hty 4 13 rfl (by obtain rfl := (Option.some.inj ho); rfl)
      obtain rfl := (Option.some.inj ho)
      clear hty ho
      refine step_call 14 #[.int .i64 b] (wanted_free rfl) ?_ ?_
      · simp [execOp, Act.eval, h13, go_sem]
      · exact (fold_any b _ hb0 hb1).mono fun e w' ⟨h1, h2⟩ => ⟨_, h1, h2, congrArg _ hB.out⟩
    | 6, ho =>
      have h11 : tmps[11]?.getD undef = .int .u64 A := hty 2 11 rfl (by obtain rfl := (Option.some.inj ho); rfl)
      obtain rfl := (Option.some.inj ho)
      clear hty ho
      refine step_pure (.int .u64 A) (wanted_free rfl) ?_ (Ext.refl _) rfl
      simp [execOp, Act.eval, h11, go_sem]
    | 7, ho =>
      have h14 : tmps[14]?.getD undef = .int .u64 B := hty 5 14 rfl (by obtain rfl := (Option.some.inj ho); rfl)
      obtain rfl := (Option.some.inj ho)
      clear hty ho
      refine step_pure (.int .u64 B) (wanted_free rfl) ?_ (Ext.refl _) rfl
      simp [execOp, Act.eval, h14, go_sem]
    | (j + 8), ho => exact absurd ho (by simp)

  · intro tmps w3 hle hs hfr hty
    have h5 : tmps[5]?.getD undef = .int .u64 A := hty 6 5 rfl
    have h6 : tmps[6]?.getD undef = .int .u64 B := hty 7 6 rfl
    have hfe := frame_eq [9, 10, 11, 12, 13, 14, 5, 6] hs hfr (by kernel_rfl)
    rw [hfe]
    clear hfe hfr hs hty
    simp only [List.foldl_cons, List.foldl_nil]
    generalize tmps[9]?.getD undef = x9
    generalize tmps[10]?.getD undef = x10
    generalize tmps[11]?.getD undef = x11
    generalize tmps[12]?.getD undef = x12
    generalize tmps[13]?.getD undef = x13
    generalize tmps[14]?.getD undef = x14
    rw [h5, h6]
    clear h5 h6
    simp only [List.setIfInBounds_toArray, List.set_cons_succ, List.set_cons_zero]
    have hbx := hid (hle.block hbox.out)
    have HX := hid ((Ext.alloc w _).trans hle)
    clear hle hbox
    have hcell0 : w3.cell? ⟨g, 0, none⟩ = some (.int .i64 a) := cell_of_row _ _ 0 _ _ _ hbx.out
    have hcell1 : w3.cell? ⟨g, 1, none⟩ = some (.int .i64 b) := cell_of_row _ _ 1 _ _ _ hbx.out
    go_wp2_with fail
    go_quiet (fail)
    have hbx4 : Hid ((w3.drewN nq).heap[g]? = some (.cells #[.int .i64 a, .int .i64 b] 40 (0, 0))) := hbx
    have HX4 := hid (HX.out.trans (Ext.drewN _ nq))
    generalize w3.drewN nq = w4 at hbx4 HX4 ⊢
    clear hcell0 hcell1 hbx HX
    go_upto_if 20 with fail
    go_cut [7] from 9 to 90 (fun v wx => v = .int .i64 near ∧ wx = w4)
    case first =>
      go_wp2_with fail
      all_goals go_meet
      case rel => exact ⟨congrArg _ ((near_neg (by assumption)).symm.trans HN.out), rfl⟩
      case rel => exact ⟨congrArg _ ((near_pos (by omega)).symm.trans HN.out), rfl⟩
    case rest =>
      obtain ⟨rfl, rfl⟩ := hcut
      go_upto_if 25 with fail
      go_cut [8] from 9 to 90 (fun v wx => v = .int .i64 far ∧ wx = wc)
      case first =>
        go_wp2_with fail
        all_goals go_meet
        case rel => exact ⟨congrArg _ ((near_neg (by assumption)).symm.trans HF.out), rfl⟩
        case rel => exact ⟨congrArg _ ((near_pos (by omega)).symm.trans HF.out), rfl⟩
      case rest =>
        obtain ⟨rfl, rfl⟩ := hcut
        obtain ⟨X, hX⟩ : ∃ X, decide (far ≤ near) = X := ⟨_, rfl⟩
        obtain ⟨Y1, hY1⟩ : ∃ X, (near != far) = X := ⟨_, rfl⟩
        obtain ⟨Y2, hY2⟩ : ∃ X, X = (Y1 || decide (a < 0)) := ⟨_, rfl⟩
        obtain ⟨Y3, hY3⟩ : ∃ X, X = (Y2 || decide (0 ≤ b)) := ⟨_, rfl⟩
        have hX1 : X = false → A < B := fun h => HM.out.1 (hX.trans h)
        have hY4 : Y3 = false → (IntKind.u64.wrap (A + 1) == B) = true := fun h => by
          rw [h] at hY3
          have h3 := hY3.symm
          rw [Bool.or_eq_false_iff] at h3
          rw [h3.1] at hY2
          have h2 := hY2.symm
          rw [Bool.or_eq_false_iff] at h2
          exact HM.out.2.1 (hY1.trans h2.1) h2.2 h3.2
        have hP := HM.out.2.2
        have KX := hid hX
        have KX1 := hid hX1
        have KY1 := hid hY1
        have KY2 := hid hY2
        have KY3 := hid hY3
        have KY4 := hid hY4
        have KP := hid hP
        clear hX hX1 hY1 hY2 hY3 hY4 hP HM HN HF
        go_wp2_with fail
        refine wp_region_slots Ext (foldsG g a b A B u k near far X Y1 Y2 Y3) (by kernel_rfl) Ext.trans Ext.refl (Ext.drew _) (foldsG_st _ _ _ _ _ _ _ _ _ _ _ _ _) (by kernel_rfl) ?_ ?_
        · intro tmps wr hle hfr j o ho hty
          have h1 : tmps[1]?.getD undef = .int .u64 u := hfr 1 (by kernel_rfl)
          have h2 : tmps[2]?.getD undef = .pointer (some ⟨g, 0, none⟩) := hfr 2 (by kernel_rfl)
          have h5 : tmps[5]?.getD undef = .int .u64 A := hfr 5 (by kernel_rfl)
          have h6 : tmps[6]?.getD undef = .int .u64 B := hfr 6 (by kernel_rfl)
          have h7 : tmps[7]?.getD undef = .int .i64 near := hfr 7 (by kernel_rfl)
          have h8 : tmps[8]?.getD undef = .int .i64 far := hfr 8 (by kernel_rfl)
          have hbx := hid (hle.block hbx4.out)
          have hcell0 : wr.cell? ⟨g, 0, none⟩ = some (.int .i64 a) := cell_of_row _ _ 0 _ _ _ hbx.out
          have hcell1 : wr.cell? ⟨g, 1, none⟩ = some (.int .i64 b) := cell_of_row _ _ 1 _ _ _ hbx.out
          have hX := KX.out
          have hX1 := KX1.out
          have hY1 := KY1.out
          have hY2 := KY2.out
          have hY3 := KY3.out
          have hY4 := KY4.out
          have hP := KP.out
          clear hfr
          match j, ho with
          | 0, ho =>
            obtain rfl := (Option.some.inj ho)
            clear hty ho
            refine step_pure (.int .u64 A) (wanted_free rfl) ?_ (Ext.refl _) rfl
            simp [execOp, Act.eval, h5, go_sem]
          | 1, ho =>
            have h29 : tmps[29]?.getD undef = .int .u64 A := hty 0 29 rfl (by obtain rfl := (Option.some.inj ho); rfl)
            obtain rfl := (Option.some.inj ho)
            clear hty ho
            refine step_call 15 #[.int .u64 A] (wanted_free rfl) ?_ ?_
            · simp [execOp, Act.eval, h29, go_sem]
            · exact (back_any A _ hA0 hA1).mono fun e w' ⟨h1, h2⟩ => ⟨_, h1, h2, congrArg _ hA2.out⟩
          | 2, ho =>
            obtain rfl := (Option.some.inj ho)
            clear hty ho
            refine step_pure (.pointer (some ⟨g, 0, none⟩)) (wanted_free rfl) ?_ (Ext.refl _) rfl
            simp [execOp, Act.eval, h2, go_sem]
          | 3, ho =>
            have h31 : tmps[31]?.getD undef = .pointer (some ⟨g, 0, none⟩) := hty 2 31 rfl (by obtain rfl := (Option.some.inj ho); rfl)
            obtain rfl := (Option.some.inj ho)
            clear hty ho
            refine step_pure (.int .i64 a) (wanted_free rfl) ?_ (Ext.refl _) rfl
            simp [execOp, Act.eval, h31, hcell0, go_sem]
          | 4, ho =>
            have h30 : tmps[30]?.getD undef = .int .i64 a := hty 1 30 rfl (by obtain rfl := (Option.some.inj ho); rfl)
            have h32 : tmps[32]?.getD undef = .int .i64 a := hty 3 32 rfl (by obtain rfl := (Option.some.inj ho); rfl)
            obtain rfl := (Option.some.inj ho)
            clear hty ho
            refine step_pure (.bool true) (wanted_free rfl) ?_ (Ext.refl _) rfl
            simp [execOp, Act.eval, h30, h32, go_sem]
          | 5, ho =>
            have h33 : tmps[33]?.getD undef = .bool true := hty 4 33 rfl (by obtain rfl := (Option.some.inj ho); rfl)
            obtain rfl := (Option.some.inj ho)
            clear hty ho
            refine step_pure (.bool true) (wanted_free rfl) ?_ (Ext.refl _) rfl
            simp [execOp, Act.eval, h33, go_sem]
          | 6, ho =>
            have h34 : tmps[34]?.getD undef = .bool true := hty 5 34 rfl (by obtain rfl := (Option.some.inj ho); rfl)
            obtain rfl := (Option.some.inj ho)
            clear hty ho
            refine step_pure (.int .u64 B) (wanted_guard rfl rfl h34) ?_ (Ext.refl _) rfl
            simp [execOp, Act.eval, h6, go_sem]
          | 7, ho =>
            have h35 : tmps[35]?.getD undef = .int .u64 B := hty 6 35 rfl (by obtain rfl := (Option.some.inj ho); rfl)
            have h34 : tmps[34]?.getD undef = .bool true := hty 5 34 rfl (by obtain rfl := (Option.some.inj ho); rfl)
            obtain rfl := (Option.some.inj ho)
            clear hty ho
            refine step_call 15 #[.int .u64 B] (wanted_guard rfl rfl h34) ?_ ?_
            · simp [execOp, Act.eval, h35, go_sem]
            · exact (back_any B _ hB0 hB1).mono fun e w' ⟨h1, h2⟩ => ⟨_, h1, h2, congrArg _ hB2.out⟩
          | 8, ho =>
            have h34 : tmps[34]?.getD undef = .bool true := hty 5 34 rfl (by obtain rfl := (Option.some.inj ho); rfl)
            obtain rfl := (Option.some.inj ho)
            clear hty ho
            refine step_pure (.pointer (some ⟨g, 1, none⟩)) (wanted_guard rfl rfl h34) ?_ (Ext.refl _) rfl
            simp [execOp, Act.eval, h2, go_sem]
          | 9, ho =>
            have h37 : tmps[37]?.getD undef = .pointer (some ⟨g, 1, none⟩) := hty 8 37 rfl (by obtain rfl := (Option.some.inj ho); rfl)
            have h34 : tmps[34]?.getD undef = .bool true := hty 5 34 rfl (by obtain rfl := (Option.some.inj ho); rfl)
            obtain rfl := (Option.some.inj ho)
            clear hty ho
            refine step_pure (.int .i64 b) (wanted_guard rfl rfl h34) ?_ (Ext.refl _) rfl
            simp [execOp, Act.eval, h37, hcell1, go_sem]
          | 10, ho =>
            have h36 : tmps[36]?.getD undef = .int .i64 b := hty 7 36 rfl (by obtain rfl := (Option.some.inj ho); rfl)
            have h38 : tmps[38]?.getD undef = .int .i64 b := hty 9 38 rfl (by obtain rfl := (Option.some.inj ho); rfl)
            have h34 : tmps[34]?.getD undef = .bool true := hty 5 34 rfl (by obtain rfl := (Option.some.inj ho); rfl)
            obtain rfl := (Option.some.inj ho)
            clear hty ho
            refine step_pure (.bool true) (wanted_guard rfl rfl h34) ?_ (Ext.refl _) rfl
            simp [execOp, Act.eval, h36, h38, go_sem]
          | 11, ho =>
            have h34 : tmps[34]?.getD undef = .bool true := hty 5 34 rfl (by obtain rfl := (Option.some.inj ho); rfl)
            have h39 : tmps[39]?.getD undef = .bool true := hty 10 39 rfl (by obtain rfl := (Option.some.inj ho); rfl)
            obtain rfl := (Option.some.inj ho)
            clear hty ho
            refine step_pure (.bool true) (wanted_free rfl) ?_ (Ext.refl _) rfl
            simp [execOp, Act.eval, h34, h39, go_sem]
          | 12, ho =>
            have h40 : tmps[40]?.getD undef = .bool true := hty 11 40 rfl (by obtain rfl := (Option.some.inj ho); rfl)
            obtain rfl := (Option.some.inj ho)
            clear hty ho
            refine step_pure (.bool true) (wanted_free rfl) ?_ (Ext.refl _) rfl
            simp [execOp, Act.eval, h40, go_sem]
          | 13, ho =>
            have h41 : tmps[41]?.getD undef = .bool true := hty 12 41 rfl (by obtain rfl := (Option.some.inj ho); rfl)
            obtain rfl := (Option.some.inj ho)
            clear hty ho
            refine step_pure (.int .u64 u) (wanted_guard rfl rfl h41) ?_ (Ext.refl _) rfl
            simp [execOp, Act.eval, h1, go_sem]
          | 14, ho =>
            have h42 : tmps[42]?.getD undef = .int .u64 u := hty 13 42 rfl (by obtain rfl := (Option.some.inj ho); rfl)
            have h41 : tmps[41]?.getD undef = .bool true := hty 12 41 rfl (by obtain rfl := (Option.some.inj ho); rfl)
            obtain rfl := (Option.some.inj ho)
            clear hty ho
            refine step_call 15 #[.int .u64 u] (wanted_guard rfl rfl h41) ?_ ?_
            · simp [execOp, Act.eval, h42, go_sem]
            · exact (back_any u _ hu0 hu1).mono fun e w' ⟨h1, h2⟩ => ⟨_, h1, h2, congrArg _ hk.out⟩
          | 15, ho =>
            have h43 : tmps[43]?.getD undef = .int .i64 k := hty 14 43 rfl (by obtain rfl := (Option.some.inj ho); rfl)
            have h41 : tmps[41]?.getD undef = .bool true := hty 12 41 rfl (by obtain rfl := (Option.some.inj ho); rfl)
            obtain rfl := (Option.some.inj ho)
            clear hty ho
            refine step_call 14 #[.int .i64 k] (wanted_guard rfl rfl h41) ?_ ?_
            · simp [execOp, Act.eval, h43, go_sem]
            · exact (fold_any k _ hk0 hk1).mono fun e w' ⟨h1, h2⟩ => ⟨_, h1, h2, congrArg _ hk2.out⟩
          | 16, ho =>
            have h41 : tmps[41]?.getD undef = .bool true := hty 12 41 rfl (by obtain rfl := (Option.some.inj ho); rfl)
            obtain rfl := (Option.some.inj ho)
            clear hty ho
            refine step_pure (.int .u64 u) (wanted_guard rfl rfl h41) ?_ (Ext.refl _) rfl
            simp [execOp, Act.eval, h1, go_sem]
          | 17, ho =>
            have h44 : tmps[44]?.getD undef = .int .u64 u := hty 15 44 rfl (by obtain rfl := (Option.some.inj ho); rfl)
            have h45 : tmps[45]?.getD undef = .int .u64 u := hty 16 45 rfl (by obtain rfl := (Option.some.inj ho); rfl)
            have h41 : tmps[41]?.getD undef = .bool true := hty 12 41 rfl (by obtain rfl := (Option.some.inj ho); rfl)
            obtain rfl := (Option.some.inj ho)
            clear hty ho
            refine step_pure (.bool true) (wanted_guard rfl rfl h41) ?_ (Ext.refl _) rfl
            simp [execOp, Act.eval, h44, h45, go_sem]
          | 18, ho =>
            have h41 : tmps[41]?.getD undef = .bool true := hty 12 41 rfl (by obtain rfl := (Option.some.inj ho); rfl)
            have h46 : tmps[46]?.getD undef = .bool true := hty 17 46 rfl (by obtain rfl := (Option.some.inj ho); rfl)
            obtain rfl := (Option.some.inj ho)
            clear hty ho
            refine step_pure (.bool true) (wanted_free rfl) ?_ (Ext.refl _) rfl
            simp [execOp, Act.eval, h41, h46, go_sem]
          | 19, ho =>
            have h47 : tmps[47]?.getD undef = .bool true := hty 18 47 rfl (by obtain rfl := (Option.some.inj ho); rfl)
            obtain rfl := (Option.some.inj ho)
            clear hty ho
            refine step_pure (.bool true) (wanted_free rfl) ?_ (Ext.refl _) rfl
            simp [execOp, Act.eval, h47, go_sem]
          | 20, ho =>
            have h48 : tmps[48]?.getD undef = .bool true := hty 19 48 rfl (by obtain rfl := (Option.some.inj ho); rfl)
            obtain rfl := (Option.some.inj ho)
            clear hty ho
            refine step_pure (.int .i64 near) (wanted_guard rfl rfl h48) ?_ (Ext.refl _) rfl
            simp [execOp, Act.eval, h7, go_sem]
          | 21, ho =>
            have h48 : tmps[48]?.getD undef = .bool true := hty 19 48 rfl (by obtain rfl := (Option.some.inj ho); rfl)
            obtain rfl := (Option.some.inj ho)
            clear hty ho
            refine step_pure (.int .i64 far) (wanted_guard rfl rfl h48) ?_ (Ext.refl _) rfl
            simp [execOp, Act.eval, h8, go_sem]
          | 22, ho =>
            have h49 : tmps[49]?.getD undef = .int .i64 near := hty 20 49 rfl (by obtain rfl := (Option.some.inj ho); rfl)
            have h50 : tmps[50]?.getD undef = .int .i64 far := hty 21 50 rfl (by obtain rfl := (Option.some.inj ho); rfl)
            have h48 : tmps[48]?.getD undef = .bool true := hty 19 48 rfl (by obtain rfl := (Option.some.inj ho); rfl)
            obtain rfl := (Option.some.inj ho)
            clear hty ho
            refine step_pure (.bool X) (wanted_guard rfl rfl h48) ?_ (Ext.refl _) rfl
            simp [execOp, Act.eval, h49, h50, hX, go_sem]
          | 23, ho =>
            have h51 : tmps[51]?.getD undef = .bool X := hty 22 51 rfl (by obtain rfl := (Option.some.inj ho); rfl)
            have h48 : tmps[48]?.getD undef = .bool true := hty 19 48 rfl (by obtain rfl := (Option.some.inj ho); rfl)
            obtain rfl := (Option.some.inj ho)
            clear hty ho
            refine step_pure (.bool X) (wanted_guard rfl rfl h48) ?_ (Ext.refl _) rfl
            simp [execOp, Act.eval, h51, go_sem]
          | 24, ho =>
            have h52 : tmps[52]?.getD undef = .bool X := hty 23 52 rfl (by obtain rfl := (Option.some.inj ho); rfl)
            obtain rfl := (Option.some.inj ho)
            clear hty ho
            cases X
            case true => exact step_skip (unwanted_guard rfl rfl h52 (by decide)) rfl
            case false =>
              refine step_pure (.int .u64 A) (wanted_guard rfl rfl h52) ?_ (Ext.refl _) rfl
              simp [execOp, Act.eval, h5, go_sem]
          | 25, ho =>
            have h52 : tmps[52]?.getD undef = .bool X := hty 23 52 rfl (by obtain rfl := (Option.some.inj ho); rfl)
            obtain rfl := (Option.some.inj ho)
            clear hty ho
            cases X
            case true => exact step_skip (unwanted_guard rfl rfl h52 (by decide)) rfl
            case false =>
              refine step_pure (.int .u64 B) (wanted_guard rfl rfl h52) ?_ (Ext.refl _) rfl
              simp [execOp, Act.eval, h6, go_sem]
          | 26, ho =>
            have h53 : tmps[53]?.getD undef = cond X undef (.int .u64 A) := hty 24 53 rfl (by obtain rfl := (Option.some.inj ho); rfl)
            have h54 : tmps[54]?.getD undef = cond X undef (.int .u64 B) := hty 25 54 rfl (by obtain rfl := (Option.some.inj ho); rfl)
            have h52 : tmps[52]?.getD undef = .bool X := hty 23 52 rfl (by obtain rfl := (Option.some.inj ho); rfl)
            obtain rfl := (Option.some.inj ho)
            clear hty ho
            cases X
            case true => exact step_skip (unwanted_guard rfl rfl h52 (by decide)) rfl
            case false =>
              refine step_pure (.bool true) (wanted_guard rfl rfl h52) ?_ (Ext.refl _) rfl
              simp [execOp, Act.eval, h53, h54, hX1, go_sem]
          | 27, ho =>
            have h52 : tmps[52]?.getD undef = .bool X := hty 23 52 rfl (by obtain rfl := (Option.some.inj ho); rfl)
            have h55 : tmps[55]?.getD undef = cond X undef (.bool true) := hty 26 55 rfl (by obtain rfl := (Option.some.inj ho); rfl)
            have h48 : tmps[48]?.getD undef = .bool true := hty 19 48 rfl (by obtain rfl := (Option.some.inj ho); rfl)
            obtain rfl := (Option.some.inj ho)
            clear hty ho
            refine step_pure (.bool true) (wanted_guard rfl rfl h48) ?_ (Ext.refl _) rfl
            cases X <;> simp [execOp, Act.eval, h52, h55, go_sem]
          | 28, ho =>
            have h48 : tmps[48]?.getD undef = .bool true := hty 19 48 rfl (by obtain rfl := (Option.some.inj ho); rfl)
            have h56 : tmps[56]?.getD undef = .bool true := hty 27 56 rfl (by obtain rfl := (Option.some.inj ho); rfl)
            obtain rfl := (Option.some.inj ho)
            clear hty ho
            refine step_pure (.bool true) (wanted_free rfl) ?_ (Ext.refl _) rfl
            simp [execOp, Act.eval, h48, h56, go_sem]
          | 29, ho =>
            have h57 : tmps[57]?.getD undef = .bool true := hty 28 57 rfl (by obtain rfl := (Option.some.inj ho); rfl)
            obtain rfl := (Option.some.inj ho)
            clear hty ho
            refine step_pure (.bool true) (wanted_free rfl) ?_ (Ext.refl _) rfl
            simp [execOp, Act.eval, h57, go_sem]
          | 30, ho =>
            have h58 : tmps[58]?.getD undef = .bool true := hty 29 58 rfl (by obtain rfl := (Option.some.inj ho); rfl)
            obtain rfl := (Option.some.inj ho)
            clear hty ho
            refine step_pure (.int .i64 near) (wanted_guard rfl rfl h58) ?_ (Ext.refl _) rfl
            simp [execOp, Act.eval, h7, go_sem]
          | 31, ho =>
            have h58 : tmps[58]?.getD undef = .bool true := hty 29 58 rfl (by obtain rfl := (Option.some.inj ho); rfl)
            obtain rfl := (Option.some.inj ho)
            clear hty ho
            refine step_pure (.int .i64 far) (wanted_guard rfl rfl h58) ?_ (Ext.refl _) rfl
            simp [execOp, Act.eval, h8, go_sem]
          | 32, ho =>
            have h59 : tmps[59]?.getD undef = .int .i64 near := hty 30 59 rfl (by obtain rfl := (Option.some.inj ho); rfl)
            have h60 : tmps[60]?.getD undef = .int .i64 far := hty 31 60 rfl (by obtain rfl := (Option.some.inj ho); rfl)
            have h58 : tmps[58]?.getD undef = .bool true := hty 29 58 rfl (by obtain rfl := (Option.some.inj ho); rfl)
            obtain rfl := (Option.some.inj ho)
            clear hty ho
            refine step_pure (.bool Y1) (wanted_guard rfl rfl h58) ?_ (Ext.refl _) rfl
            simp [execOp, Act.eval, h59, h60, hY1, go_sem]
          | 33, ho =>
            have h61 : tmps[61]?.getD undef = .bool Y1 := hty 32 61 rfl (by obtain rfl := (Option.some.inj ho); rfl)
            have h58 : tmps[58]?.getD undef = .bool true := hty 29 58 rfl (by obtain rfl := (Option.some.inj ho); rfl)
            obtain rfl := (Option.some.inj ho)
            clear hty ho
            refine step_pure (.bool Y1) (wanted_guard rfl rfl h58) ?_ (Ext.refl _) rfl
            simp [execOp, Act.eval, h61, go_sem]
          | 34, ho =>
            have h62 : tmps[62]?.getD undef = .bool Y1 := hty 33 62 rfl (by obtain rfl := (Option.some.inj ho); rfl)
            obtain rfl := (Option.some.inj ho)
            clear hty ho
            cases Y1
            case true => exact step_skip (unwanted_guard rfl rfl h62 (by decide)) rfl
            case false =>
              refine step_pure (.pointer (some ⟨g, 0, none⟩)) (wanted_guard rfl rfl h62) ?_ (Ext.refl _) rfl
              simp [execOp, Act.eval, h2, go_sem]
          | 35, ho =>
            have h63 : tmps[63]?.getD undef = cond Y1 undef (.pointer (some ⟨g, 0, none⟩)) := hty 34 63 rfl (by obtain rfl := (Option.some.inj ho); rfl)
            have h62 : tmps[62]?.getD undef = .bool Y1 := hty 33 62 rfl (by obtain rfl := (Option.some.inj ho); rfl)
            obtain rfl := (Option.some.inj ho)
            clear hty ho
            cases Y1
            case true => exact step_skip (unwanted_guard rfl rfl h62 (by decide)) rfl
            case false =>
              refine step_pure (.int .i64 a) (wanted_guard rfl rfl h62) ?_ (Ext.refl _) rfl
              simp [execOp, Act.eval, h63, hcell0, go_sem]
          | 36, ho =>
            have h64 : tmps[64]?.getD undef = cond Y1 undef (.int .i64 a) := hty 35 64 rfl (by obtain rfl := (Option.some.inj ho); rfl)
            have h62 : tmps[62]?.getD undef = .bool Y1 := hty 33 62 rfl (by obtain rfl := (Option.some.inj ho); rfl)
            obtain rfl := (Option.some.inj ho)
            clear hty ho
            cases Y1
            case true => exact step_skip (unwanted_guard rfl rfl h62 (by decide)) rfl
            case false =>
              refine step_pure (.bool (decide (a < 0))) (wanted_guard rfl rfl h62) ?_ (Ext.refl _) rfl
              simp [execOp, Act.eval, h64, go_sem]
          | 37, ho =>
            have h62 : tmps[62]?.getD undef = .bool Y1 := hty 33 62 rfl (by obtain rfl := (Option.some.inj ho); rfl)
            have h65 : tmps[65]?.getD undef = cond Y1 undef (.bool (decide (a < 0))) := hty 36 65 rfl (by obtain rfl := (Option.some.inj ho); rfl)
            have h58 : tmps[58]?.getD undef = .bool true := hty 29 58 rfl (by obtain rfl := (Option.some.inj ho); rfl)
            obtain rfl := (Option.some.inj ho)
            clear hty ho
            refine step_pure (.bool Y2) (wanted_guard rfl rfl h58) ?_ (Ext.refl _) rfl
            cases Y1 <;> simp [execOp, Act.eval, h62, h65, hY2, go_sem]
          | 38, ho =>
            have h66 : tmps[66]?.getD undef = .bool Y2 := hty 37 66 rfl (by obtain rfl := (Option.some.inj ho); rfl)
            have h58 : tmps[58]?.getD undef = .bool true := hty 29 58 rfl (by obtain rfl := (Option.some.inj ho); rfl)
            obtain rfl := (Option.some.inj ho)
            clear hty ho
            refine step_pure (.bool Y2) (wanted_guard rfl rfl h58) ?_ (Ext.refl _) rfl
            simp [execOp, Act.eval, h66, go_sem]
          | 39, ho =>
            have h67 : tmps[67]?.getD undef = .bool Y2 := hty 38 67 rfl (by obtain rfl := (Option.some.inj ho); rfl)
            obtain rfl := (Option.some.inj ho)
            clear hty ho
            cases Y2
            case true => exact step_skip (unwanted_guard rfl rfl h67 (by decide)) rfl
            case false =>
              refine step_pure (.pointer (some ⟨g, 1, none⟩)) (wanted_guard rfl rfl h67) ?_ (Ext.refl _) rfl
              simp [execOp, Act.eval, h2, go_sem]
          | 40, ho =>
            have h68 : tmps[68]?.getD undef = cond Y2 undef (.pointer (some ⟨g, 1, none⟩)) := hty 39 68 rfl (by obtain rfl := (Option.some.inj ho); rfl)
            have h67 : tmps[67]?.getD undef = .bool Y2 := hty 38 67 rfl (by obtain rfl := (Option.some.inj ho); rfl)
            obtain rfl := (Option.some.inj ho)
            clear hty ho
            cases Y2
            case true => exact step_skip (unwanted_guard rfl rfl h67 (by decide)) rfl
            case false =>
              refine step_pure (.int .i64 b) (wanted_guard rfl rfl h67) ?_ (Ext.refl _) rfl
              simp [execOp, Act.eval, h68, hcell1, go_sem]
          | 41, ho =>
            have h69 : tmps[69]?.getD undef = cond Y2 undef (.int .i64 b) := hty 40 69 rfl (by obtain rfl := (Option.some.inj ho); rfl)
            have h67 : tmps[67]?.getD undef = .bool Y2 := hty 38 67 rfl (by obtain rfl := (Option.some.inj ho); rfl)
            obtain rfl := (Option.some.inj ho)
            clear hty ho
            cases Y2
            case true => exact step_skip (unwanted_guard rfl rfl h67 (by decide)) rfl
            case false =>
              refine step_pure (.bool (decide (0 ≤ b))) (wanted_guard rfl rfl h67) ?_ (Ext.refl _) rfl
              simp [execOp, Act.eval, h69, go_sem]
          | 42, ho =>
            have h67 : tmps[67]?.getD undef = .bool Y2 := hty 38 67 rfl (by obtain rfl := (Option.some.inj ho); rfl)
            have h70 : tmps[70]?.getD undef = cond Y2 undef (.bool (decide (0 ≤ b))) := hty 41 70 rfl (by obtain rfl := (Option.some.inj ho); rfl)
            have h58 : tmps[58]?.getD undef = .bool true := hty 29 58 rfl (by obtain rfl := (Option.some.inj ho); rfl)
            obtain rfl := (Option.some.inj ho)
            clear hty ho
            refine step_pure (.bool Y3) (wanted_guard rfl rfl h58) ?_ (Ext.refl _) rfl
            cases Y2 <;> simp [execOp, Act.eval, h67, h70, hY3, go_sem]
          | 43, ho =>
            have h71 : tmps[71]?.getD undef = .bool Y3 := hty 42 71 rfl (by obtain rfl := (Option.some.inj ho); rfl)
            have h58 : tmps[58]?.getD undef = .bool true := hty 29 58 rfl (by obtain rfl := (Option.some.inj ho); rfl)
            obtain rfl := (Option.some.inj ho)
            clear hty ho
            refine step_pure (.bool Y3) (wanted_guard rfl rfl h58) ?_ (Ext.refl _) rfl
            simp [execOp, Act.eval, h71, go_sem]
          | 44, ho =>
            have h72 : tmps[72]?.getD undef = .bool Y3 := hty 43 72 rfl (by obtain rfl := (Option.some.inj ho); rfl)
            obtain rfl := (Option.some.inj ho)
            clear hty ho
            cases Y3
            case true => exact step_skip (unwanted_guard rfl rfl h72 (by decide)) rfl
            case false =>
              refine step_pure (.int .u64 A) (wanted_guard rfl rfl h72) ?_ (Ext.refl _) rfl
              simp [execOp, Act.eval, h5, go_sem]
          | 45, ho =>
            have h73 : tmps[73]?.getD undef = cond Y3 undef (.int .u64 A) := hty 44 73 rfl (by obtain rfl := (Option.some.inj ho); rfl)
            have h72 : tmps[72]?.getD undef = .bool Y3 := hty 43 72 rfl (by obtain rfl := (Option.some.inj ho); rfl)
            obtain rfl := (Option.some.inj ho)
            clear hty ho
            cases Y3
            case true => exact step_skip (unwanted_guard rfl rfl h72 (by decide)) rfl
            case false =>
              refine step_pure (.int .u64 (IntKind.u64.wrap (A + 1))) (wanted_guard rfl rfl h72) ?_ (Ext.refl _) rfl
              simp [execOp, Act.eval, h73, go_sem]
          | 46, ho =>
            have h72 : tmps[72]?.getD undef = .bool Y3 := hty 43 72 rfl (by obtain rfl := (Option.some.inj ho); rfl)
            obtain rfl := (Option.some.inj ho)
            clear hty ho
            cases Y3
            case true => exact step_skip (unwanted_guard rfl rfl h72 (by decide)) rfl
            case false =>
              refine step_pure (.int .u64 B) (wanted_guard rfl rfl h72) ?_ (Ext.refl _) rfl
              simp [execOp, Act.eval, h6, go_sem]
          | 47, ho =>
            have h74 : tmps[74]?.getD undef = cond Y3 undef (.int .u64 (IntKind.u64.wrap (A + 1))) := hty 45 74 rfl (by obtain rfl := (Option.some.inj ho); rfl)
            have h75 : tmps[75]?.getD undef = cond Y3 undef (.int .u64 B) := hty 46 75 rfl (by obtain rfl := (Option.some.inj ho); rfl)
            have h72 : tmps[72]?.getD undef = .bool Y3 := hty 43 72 rfl (by obtain rfl := (Option.some.inj ho); rfl)
            obtain rfl := (Option.some.inj ho)
            clear hty ho
            cases Y3
            case true => exact step_skip (unwanted_guard rfl rfl h72 (by decide)) rfl
            case false =>
              refine step_pure (.bool true) (wanted_guard rfl rfl h72) ?_ (Ext.refl _) rfl
              simp [execOp, Act.eval, h74, h75, hY4, go_sem]
          | 48, ho =>
            have h72 : tmps[72]?.getD undef = .bool Y3 := hty 43 72 rfl (by obtain rfl := (Option.some.inj ho); rfl)
            have h76 : tmps[76]?.getD undef = cond Y3 undef (.bool true) := hty 47 76 rfl (by obtain rfl := (Option.some.inj ho); rfl)
            have h58 : tmps[58]?.getD undef = .bool true := hty 29 58 rfl (by obtain rfl := (Option.some.inj ho); rfl)
            obtain rfl := (Option.some.inj ho)
            clear hty ho
            refine step_pure (.bool true) (wanted_guard rfl rfl h58) ?_ (Ext.refl _) rfl
            cases Y3 <;> simp [execOp, Act.eval, h72, h76, go_sem]
          | 49, ho =>
            have h58 : tmps[58]?.getD undef = .bool true := hty 29 58 rfl (by obtain rfl := (Option.some.inj ho); rfl)
            have h77 : tmps[77]?.getD undef = .bool true := hty 48 77 rfl (by obtain rfl := (Option.some.inj ho); rfl)
            obtain rfl := (Option.some.inj ho)
            clear hty ho
            refine step_pure (.bool true) (wanted_free rfl) ?_ (Ext.refl _) rfl
            simp [execOp, Act.eval, h58, h77, go_sem]
          | 50, ho =>
            have h78 : tmps[78]?.getD undef = .bool true := hty 49 78 rfl (by obtain rfl := (Option.some.inj ho); rfl)
            obtain rfl := (Option.some.inj ho)
            clear hty ho
            refine step_pure (.bool true) (wanted_free rfl) ?_ (Ext.refl _) rfl
            simp [execOp, Act.eval, h78, go_sem]
          | 51, ho =>
            have h79 : tmps[79]?.getD undef = .bool true := hty 50 79 rfl (by obtain rfl := (Option.some.inj ho); rfl)
            obtain rfl := (Option.some.inj ho)
            clear hty ho
            refine step_pure (.int .u64 A) (wanted_guard rfl rfl h79) ?_ (Ext.refl _) rfl
            simp [execOp, Act.eval, h5, go_sem]
          | 52, ho =>
            have h80 : tmps[80]?.getD undef = .int .u64 A := hty 51 80 rfl (by obtain rfl := (Option.some.inj ho); rfl)
            have h79 : tmps[79]?.getD undef = .bool true := hty 50 79 rfl (by obtain rfl := (Option.some.inj ho); rfl)
            obtain rfl := (Option.some.inj ho)
            clear hty ho
            refine step_pure (.int .u64 (A % 2)) (wanted_guard rfl rfl h79) ?_ (Ext.refl _) rfl
            simp [execOp, Act.eval, h80, Int.tmod_eq_emod_of_nonneg hA0, go_sem]
          | 53, ho =>
            have h81 : tmps[81]?.getD undef = .int .u64 (A % 2) := hty 52 81 rfl (by obtain rfl := (Option.some.inj ho); rfl)
            have h79 : tmps[79]?.getD undef = .bool true := hty 50 79 rfl (by obtain rfl := (Option.some.inj ho); rfl)
            obtain rfl := (Option.some.inj ho)
            clear hty ho
            refine step_pure (.bool (decide (a < 0))) (wanted_guard rfl rfl h79) ?_ (Ext.refl _) rfl
            simp [execOp, Act.eval, h81, hP, go_sem]
          | 54, ho =>
            have h79 : tmps[79]?.getD undef = .bool true := hty 50 79 rfl (by obtain rfl := (Option.some.inj ho); rfl)
            obtain rfl := (Option.some.inj ho)
            clear hty ho
            refine step_pure (.pointer (some ⟨g, 0, none⟩)) (wanted_guard rfl rfl h79) ?_ (Ext.refl _) rfl
            simp [execOp, Act.eval, h2, go_sem]
          | 55, ho =>
            have h83 : tmps[83]?.getD undef = .pointer (some ⟨g, 0, none⟩) := hty 54 83 rfl (by obtain rfl := (Option.some.inj ho); rfl)
            have h79 : tmps[79]?.getD undef = .bool true := hty 50 79 rfl (by obtain rfl := (Option.some.inj ho); rfl)
            obtain rfl := (Option.some.inj ho)
            clear hty ho
            refine step_pure (.int .i64 a) (wanted_guard rfl rfl h79) ?_ (Ext.refl _) rfl
            simp [execOp, Act.eval, h83, hcell0, go_sem]
          | 56, ho =>
            have h84 : tmps[84]?.getD undef = .int .i64 a := hty 55 84 rfl (by obtain rfl := (Option.some.inj ho); rfl)
            have h79 : tmps[79]?.getD undef = .bool true := hty 50 79 rfl (by obtain rfl := (Option.some.inj ho); rfl)
            obtain rfl := (Option.some.inj ho)
            clear hty ho
            refine step_pure (.bool (decide (a < 0))) (wanted_guard rfl rfl h79) ?_ (Ext.refl _) rfl
            simp [execOp, Act.eval, h84, go_sem]
          | 57, ho =>
            have h82 : tmps[82]?.getD undef = .bool (decide (a < 0)) := hty 53 82 rfl (by obtain rfl := (Option.some.inj ho); rfl)
            have h85 : tmps[85]?.getD undef = .bool (decide (a < 0)) := hty 56 85 rfl (by obtain rfl := (Option.some.inj ho); rfl)
            have h79 : tmps[79]?.getD undef = .bool true := hty 50 79 rfl (by obtain rfl := (Option.some.inj ho); rfl)
            obtain rfl := (Option.some.inj ho)
            clear hty ho
            refine step_pure (.bool true) (wanted_guard rfl rfl h79) ?_ (Ext.refl _) rfl
            simp [execOp, Act.eval, h82, h85, go_sem]
          | 58, ho =>
            have h79 : tmps[79]?.getD undef = .bool true := hty 50 79 rfl (by obtain rfl := (Option.some.inj ho); rfl)
            have h86 : tmps[86]?.getD undef = .bool true := hty 57 86 rfl (by obtain rfl := (Option.some.inj ho); rfl)
            obtain rfl := (Option.some.inj ho)
            clear hty ho
            refine step_pure (.bool true) (wanted_free rfl) ?_ (Ext.refl _) rfl
            simp [execOp, Act.eval, h79, h86, go_sem]
          | 59, ho =>
            have h87 : tmps[87]?.getD undef = .bool true := hty 58 87 rfl (by obtain rfl := (Option.some.inj ho); rfl)
            obtain rfl := (Option.some.inj ho)
            clear hty ho
            refine step_pure (.bool true) (wanted_free rfl) ?_ (Ext.refl _) rfl
            simp [execOp, Act.eval, h87, go_sem]
          | 60, ho =>
            have h88 : tmps[88]?.getD undef = .bool true := hty 59 88 rfl (by obtain rfl := (Option.some.inj ho); rfl)
            obtain rfl := (Option.some.inj ho)
            clear hty ho
            refine step_call 7 #[] (wanted_guard rfl rfl h88) ?_ ?_
            · simp [execOp, Act.eval, go_sem]
            · exact (awake_any _).mono fun e w' ⟨h1, h2⟩ => ⟨_, h1, h2, rfl⟩
          | 61, ho =>
            have h88 : tmps[88]?.getD undef = .bool true := hty 59 88 rfl (by obtain rfl := (Option.some.inj ho); rfl)
            have h89 : tmps[89]?.getD undef = .bool true := hty 60 89 rfl (by obtain rfl := (Option.some.inj ho); rfl)
            obtain rfl := (Option.some.inj ho)
            clear hty ho
            refine step_pure (.bool true) (wanted_free rfl) ?_ (Ext.refl _) rfl
            simp [execOp, Act.eval, h88, h89, go_sem]
          | 62, ho =>
            have h90 : tmps[90]?.getD undef = .bool true := hty 61 90 rfl (by obtain rfl := (Option.some.inj ho); rfl)
            obtain rfl := (Option.some.inj ho)
            clear hty ho
            refine step_pure (.bool true) (wanted_free rfl) ?_ (Ext.refl _) rfl
            simp [execOp, Act.eval, h90, go_sem]
          | (j + 63), ho => exact absurd ho (by simp)
        · intro tmps w5 hle hs hfr hty
          have h4 : tmps[4]?.getD undef = .bool true := hty 62 4 rfl
          have hfe := frame_eq [29, 30, 31, 32, 33, 34, 35, 36, 37, 38, 39, 40, 41, 42, 43, 44, 45, 46, 47, 48, 49, 50, 51, 52, 53, 54, 55, 56, 57, 58, 59, 60, 61, 62, 63, 64, 65, 66, 67, 68, 69, 70, 71, 72, 73, 74, 75, 76, 77, 78, 79, 80, 81, 82, 83, 84, 85, 86, 87, 88, 89, 90, 4] hs hfr (by kernel_rfl)
          rw [hfe]
          clear hfe hfr hs hty
          simp only [List.foldl_cons, List.foldl_nil]
          generalize tmps[29]?.getD undef = x29
          generalize tmps[30]?.getD undef = x30
          generalize tmps[31]?.getD undef = x31
          generalize tmps[32]?.getD undef = x32
          generalize tmps[33]?.getD undef = x33
          generalize tmps[34]?.getD undef = x34
          generalize tmps[35]?.getD undef = x35
          generalize tmps[36]?.getD undef = x36
          generalize tmps[37]?.getD undef = x37
          generalize tmps[38]?.getD undef = x38
          generalize tmps[39]?.getD undef = x39
          generalize tmps[40]?.getD undef = x40
          generalize tmps[41]?.getD undef = x41
          generalize tmps[42]?.getD undef = x42
          generalize tmps[43]?.getD undef = x43
          generalize tmps[44]?.getD undef = x44
          generalize tmps[45]?.getD undef = x45
          generalize tmps[46]?.getD undef = x46
          generalize tmps[47]?.getD undef = x47
          generalize tmps[48]?.getD undef = x48
          generalize tmps[49]?.getD undef = x49
          generalize tmps[50]?.getD undef = x50
          generalize tmps[51]?.getD undef = x51
          generalize tmps[52]?.getD undef = x52
          generalize tmps[53]?.getD undef = x53
          generalize tmps[54]?.getD undef = x54
          generalize tmps[55]?.getD undef = x55
          generalize tmps[56]?.getD undef = x56
          generalize tmps[57]?.getD undef = x57
          generalize tmps[58]?.getD undef = x58
          generalize tmps[59]?.getD undef = x59
          generalize tmps[60]?.getD undef = x60
          generalize tmps[61]?.getD undef = x61
          generalize tmps[62]?.getD undef = x62
          generalize tmps[63]?.getD undef = x63
          generalize tmps[64]?.getD undef = x64
          generalize tmps[65]?.getD undef = x65
          generalize tmps[66]?.getD undef = x66
          generalize tmps[67]?.getD undef = x67
          generalize tmps[68]?.getD undef = x68
          generalize tmps[69]?.getD undef = x69
          generalize tmps[70]?.getD undef = x70
          generalize tmps[71]?.getD undef = x71
          generalize tmps[72]?.getD undef = x72
          generalize tmps[73]?.getD undef = x73
          generalize tmps[74]?.getD undef = x74
          generalize tmps[75]?.getD undef = x75
          generalize tmps[76]?.getD undef = x76
          generalize tmps[77]?.getD undef = x77
          generalize tmps[78]?.getD undef = x78
          generalize tmps[79]?.getD undef = x79
          generalize tmps[80]?.getD undef = x80
          generalize tmps[81]?.getD undef = x81
          generalize tmps[82]?.getD undef = x82
          generalize tmps[83]?.getD undef = x83
          generalize tmps[84]?.getD undef = x84
          generalize tmps[85]?.getD undef = x85
          generalize tmps[86]?.getD undef = x86
          generalize tmps[87]?.getD undef = x87
          generalize tmps[88]?.getD undef = x88
          generalize tmps[89]?.getD undef = x89
          generalize tmps[90]?.getD undef = x90
          rw [h4]
          clear h4
          simp only [List.setIfInBounds_toArray, List.set_cons_succ, List.set_cons_zero]
          have HX5 := hid (HX4.out.trans hle)
          clear hle
          go_wp2_with fail
          go_ret
          exact ⟨rfl, HX5.out⟩
end Go.Proofs.Ytldepfojgmhehaa
