/- Several texts in one: EP1, EP2. Conditions: those of each. -/
import Derived.BigQuiet
import Derived.Test.YtnldgmpfinlikaaGreatGER1
import Derived.Test.YtnldgmpfinlikaaGreatGER7
import Derived.Test.YtnldgmpfinlikaaGreatGRR5
import Derived.Test.YtnldgmpfinlikaaGreatGVV1
import Derived.Test.YtnldgmpfinlikaaGreatBase
/- The landed program's isUpTo, inRange, ID and what stands in order, by their contracts. Conditions: none. -/
namespace Go.Proofs.YtnldgmpfinlikaaGreat
open Go Go.RowKit

def idv (e : EZ) : Value := .agg #[.int .i64 e.m, .int .i64 e.o, .int .i64 e.q]

set_option maxHeartbeats 400000 in
theorem eupto_just (n m : Int) (r : Bool) (w : World) (h : r = true ↔ (0 ≤ n ∧ n ≤ m)) : Calls Tryz.prog 64 #[.int .i64 n, .int .i64 m] w (Just w (.bool r)) := by
  have hw : n < 0 ∨ (0 ≤ n ∧ n ≤ m) ∨ (0 ≤ n ∧ m < n) := by omega
  cases r
  · have h2 : ¬ (0 ≤ n ∧ n ≤ m) := fun e => by cases h.2 e
    rcases hw with h1 | ⟨h1, h3⟩ | ⟨h1, h3⟩
    · go_enter Tryz.func64, Tryz.ntmps64
      go_wp2_with fail
      go_ret
      exact Just.mk_bool (by first | rfl | (simp; omega))
    · omega
    · go_enter Tryz.func64, Tryz.ntmps64
      go_wp2_with fail
      go_ret
      exact Just.mk_bool (by first | rfl | (simp; omega))
  · have h2 := h.1 rfl
    rcases hw with h1 | ⟨h1, h3⟩ | ⟨h1, h3⟩
    · omega
    · go_enter Tryz.func64, Tryz.ntmps64
      go_wp2_with fail
      go_ret
      exact Just.mk_bool (by first | rfl | (simp; omega))
    · omega

theorem bound_three (e : EZ) (a b c : Bool) (ha : a = true ↔ (0 ≤ e.m ∧ e.m ≤ 1099511627776)) (hb : b = true ↔ (0 ≤ e.o ∧ e.o ≤ 15)) (hc : c = true ↔ (0 ≤ e.q ∧ e.q ≤ 1099511627776)) : decide (boundE e) = !(a && (b && c)) := by
  have h : (a && (b && c)) = true ↔ ¬boundE e := by
    rw [Bool.and_eq_true, Bool.and_eq_true, ha, hb, hc]
    unfold boundE
    omega
  rw [Bool.eq_iff_iff, decide_eq_true_iff]
  cases g : (a && (b && c))
  · rw [g] at h
    simp only [Bool.false_eq_true, false_iff, Decidable.not_not] at h
    simp [h]
  · rw [g] at h
    simp only [true_iff] at h
    simp [h]

set_option maxRecDepth 100000 in
set_option maxHeartbeats 1000000 in
theorem einrange_any (e : EZ) (w : World) : Calls Tryz.prog 39 #[idv e] w (Says w (.bool (!(decide (boundE e))))) := by
  obtain ⟨a, ha⟩ : ∃ a : Bool, a = decide (0 ≤ e.m ∧ e.m ≤ 1099511627776) := ⟨_, rfl⟩
  obtain ⟨b, hb⟩ : ∃ a : Bool, a = decide (0 ≤ e.o ∧ e.o ≤ 15) := ⟨_, rfl⟩
  obtain ⟨c, hc⟩ : ∃ a : Bool, a = decide (0 ≤ e.q ∧ e.q ≤ 1099511627776) := ⟨_, rfl⟩
  have ha' : a = true ↔ (0 ≤ e.m ∧ e.m ≤ 1099511627776) := by rw [ha, decide_eq_true_iff]
  have hb' : b = true ↔ (0 ≤ e.o ∧ e.o ≤ 15) := by rw [hb, decide_eq_true_iff]
  have hc' : c = true ↔ (0 ≤ e.q ∧ e.q ≤ 1099511627776) := by rw [hc, decide_eq_true_iff]
  have HR := hid (bound_three e a b c ha' hb' hc')
  have ka := fun W => eupto_just e.m 1099511627776 a W ha'
  have kb := fun W => eupto_just e.o 15 b W hb'
  have kc := fun W => eupto_just e.q 1099511627776 c W hc'
  generalize decide (boundE e) = BD at *
  clear ha hb hc ha' hb' hc'
  obtain ⟨em, eo, eq, en, ev⟩ := e
  dsimp only at *
  show Calls _ _ #[.agg #[.int .i64 em, .int .i64 eo, .int .i64 eq]] _ _
  have HX := hid (Ext.alloc w (Obj.cells #[.int .i64 em, .int .i64 eo, .int .i64 eq] 75 (0, 0)))
  have HB := hid (heap_alloc_new w (Obj.cells #[.int .i64 em, .int .i64 eo, .int .i64 eq] 75 (0, 0)))
  obtain ⟨⟨b0, b1, b2⟩, _, _⟩ := box3 HB.out
  cases a
  · go_enter Tryz.func39, Tryz.ntmps39
    go_wp2_with (refine (ka _).mono ?_; rintro e w1 ⟨rfl, rfl⟩)
    go_ret
    exact ⟨by rw [HR.out]; rfl, HX.out⟩
  · cases b
    · go_enter Tryz.func39, Tryz.ntmps39
      go_wp2_with (first | ((with_reducible show Calls _ _ #[.int .i64 em, _] _ _); refine (ka _).mono ?_; rintro e w1 ⟨rfl, rfl⟩) | ((with_reducible show Calls _ _ #[.int .i64 eo, _] _ _); refine (kb _).mono ?_; rintro e w1 ⟨rfl, rfl⟩))
      go_ret
      exact ⟨by rw [HR.out]; rfl, HX.out⟩
    · go_enter Tryz.func39, Tryz.ntmps39
      go_wp2_with (first | ((with_reducible show Calls _ _ #[.int .i64 em, _] _ _); refine (ka _).mono ?_; rintro e w1 ⟨rfl, rfl⟩) | ((with_reducible show Calls _ _ #[.int .i64 eo, _] _ _); refine (kb _).mono ?_; rintro e w1 ⟨rfl, rfl⟩) | ((with_reducible show Calls _ _ #[.int .i64 eq, _] _ _); refine (kc _).mono ?_; rintro e w1 ⟨rfl, rfl⟩))
      go_ret
      exact ⟨by rw [HR.out]; cases c <;> rfl, HX.out⟩

set_option maxRecDepth 100000 in
set_option maxHeartbeats 1000000 in
theorem eid_any (e : EZ) (r : Value) (w : World) : Calls Tryz.prog 24 #[evv e r] w (Says w (idv e)) := by
  obtain ⟨em, eo, eq, en, ev⟩ := e
  show Calls _ _ #[.agg #[.int .i64 em, .int .i64 eo, .int .i64 eq, .string en, r]] _ (Says w (.agg #[.int .i64 em, .int .i64 eo, .int .i64 eq]))
  have HX := hid ((Ext.alloc w (Obj.cells #[.int .i64 em, .int .i64 eo, .int .i64 eq, .string en, r] 34 (0, 0))).then_alloc (Obj.cells #[.int .i64 0, .int .i64 0, .int .i64 0] 75 (0, 0)))
  have HB := hid ((Ext.alloc (w.alloc (Obj.cells #[.int .i64 em, .int .i64 eo, .int .i64 eq, .string en, r] 34 (0, 0))) (Obj.cells #[.int .i64 0, .int .i64 0, .int .i64 0] 75 (0, 0))).block (heap_alloc_new w (Obj.cells #[.int .i64 em, .int .i64 eo, .int .i64 eq, .string en, r] 34 (0, 0))))
  have HC := hid (heap_alloc2_new w (Obj.cells #[.int .i64 em, .int .i64 eo, .int .i64 eq, .string en, r] 34 (0, 0)) (Obj.cells #[.int .i64 0, .int .i64 0, .int .i64 0] 75 (0, 0)))
  obtain ⟨⟨b0, b1, b2, b3, b4⟩, _, _⟩ := box5 HB.out
  obtain ⟨_, ⟨m0, m1, m2⟩, z0⟩ := box3 HC.out
  go_enter Tryz.func24, Tryz.ntmps24
  go_wp2_with fail
  refine bodyPost_ret (ret_cell1 rfl _ _ (w.heap.size + 1) 75 _ (0, 0) _ rfl (heap_alloc2_new w _ _) Tryz.underlying75 rfl (by kernel_rfl)) rfl ?_
  exact ⟨rfl, (Ext.alloc _ _).then_alloc _⟩
end Go.Proofs.YtnldgmpfinlikaaGreat

/- The landed program's order and Less of what stands in order, by their contracts. Conditions: none. (Written by tools/mkep2.py.) -/
namespace Go.Proofs.YtnldgmpfinlikaaGreat
open Go Go.RowKit

/-- what stands ahead (-1), at the same place (0), behind (1) -/
def ordE (a b : EZ) : Int := if cmpI a.m b.m ≠ 0 then cmpI a.m b.m else if cmpI a.o b.o ≠ 0 then cmpI a.o b.o else cmpI a.q b.q
theorem ordE_less (a b : EZ) : ordE a b < 0 ↔ lessE a b = true := by
  rw [lessE_iff]
  unfold ordE cmpI
  (repeat' split) <;> omega
theorem ordE_less_dec (a b : EZ) : decide (ordE a b < 0) = lessE a b := by
  rw [Bool.eq_iff_iff, decide_eq_true_iff]
  exact ordE_less a b

set_option maxRecDepth 100000 in
set_option maxHeartbeats 800000 in
theorem or3_just (a b c r : Int) (HR : Hid (r = if a ≠ 0 then a else if b ≠ 0 then b else c)) (g : Nat) (w : World) (hg : w.heap[g]? = some (.cells #[.int .i64 a, .int .i64 b, .int .i64 c] 3 (0, 0))) :
    Calls Tryz.prog 72 #[.slice (some ⟨g, 0, none⟩) 3 3] w (Just w (.int .i64 r)) := by
  have hc0 : w.cell? ⟨g, 0, none⟩ = some (.int .i64 a) := by simp [World.cell?, hg]
  have hc1 : w.cell? ⟨g, 1, none⟩ = some (.int .i64 b) := by simp [World.cell?, hg]
  have hc2 : w.cell? ⟨g, 2, none⟩ = some (.int .i64 c) := by simp [World.cell?, hg]
  clear hg
  go_enter Tryz.func72, Tryz.ntmps72
  go_wp2_with fail
  go_loopw [8] (fun i wr => ∃ k : Nat, k ≤ 3 ∧ i = .int .i64 (k : Int) ∧ Hid (k = 0 ∨ (a = 0 ∧ k = 1) ∨ (a = 0 ∧ b = 0 ∧ k = 2) ∨ (a = 0 ∧ b = 0 ∧ c = 0 ∧ k = 3)) ∧ wr = w)
    (fun i _ => 3 - (intOf i).toNat)
  case atStart => exact ⟨0, by omega, rfl, hid (Or.inl rfl), rfl⟩
  case round =>
    obtain ⟨k, hk, rfl, hcase, rfl⟩ := hrel
    rcases hcase.out with h | ⟨h, h2⟩ | ⟨h, h2, h3⟩ | ⟨h, h2, h3, h4⟩
    · subst h
      clear hcase
      by_cases ha : a = 0
      · subst ha
        go_wp2_with fail
        go_roundw
        case rel => exact ⟨1, by omega, by go_num, hid (Or.inr (Or.inl (by simp))), trivial⟩
        case measure => simp [intOf]
      · have hb : (a != 0) = true := bne_iff_ne.2 ha
        have HA := hid ha
        clear ha
        go_wp2_with fail
        go_ret
        exact Just.mk_int (by rw [HR.out, if_pos HA.out])
    · subst h2
      subst h
      clear hcase
      by_cases hb : b = 0
      · subst hb
        go_wp2_with fail
        go_roundw
        case rel => exact ⟨2, by omega, by go_num, hid (Or.inr (Or.inr (Or.inl (by simp)))), trivial⟩
        case measure => simp [intOf]
      · have hb' : (b != 0) = true := bne_iff_ne.2 hb
        have HB := hid hb
        clear hb
        go_wp2_with fail
        go_ret
        exact Just.mk_int (by rw [HR.out, if_neg (by decide), if_pos HB.out])
    · subst h3
      subst h
      subst h2
      clear hcase
      by_cases hb : c = 0
      · subst hb
        go_wp2_with fail
        go_roundw
        case rel => exact ⟨3, by omega, by go_num, hid (Or.inr (Or.inr (Or.inr (by simp)))), trivial⟩
        case measure => simp [intOf]
      · have hb' : (c != 0) = true := bne_iff_ne.2 hb
        clear hb
        go_wp2_with fail
        go_ret
        exact Just.mk_int (by rw [HR.out, if_neg (by decide), if_neg (by decide)])
    · subst h4
      subst h
      subst h2
      subst h3
      clear hcase
      go_wp2_with fail
      go_ret
      exact Just.mk_int (by rw [HR.out, if_neg (by decide), if_neg (by decide)])

def ThreeAt (w : World) (v : Value) (a b c : Int) : Prop := ∃ g, v = .slice (some ⟨g, 0, none⟩) 3 3 ∧ w.heap[g]? = some (.cells #[.int .i64 a, .int .i64 b, .int .i64 c] 3 (0, 0))
theorem ThreeAt.ext {w w' : World} {v : Value} {a b c : Int} (h : ThreeAt w v a b c) (e : Ext w w') : ThreeAt w' v a b c := by
  obtain ⟨g, h1, h2⟩ := h
  exact ⟨g, h1, e.block h2⟩

/-- what the slots of the region hold -/
def eordG (ga gb : Nat) (a b : EZ) : Nat → Value → World → Prop
  | 0, v, _ => v = .pointer (some ⟨ga, 0, none⟩)
  | 1, v, _ => v = .int .i64 a.m
  | 2, v, _ => v = .pointer (some ⟨gb, 0, none⟩)
  | 3, v, _ => v = .int .i64 b.m
  | 4, v, _ => v = .int .i64 (cmpI a.m b.m)
  | 5, v, _ => v = .pointer (some ⟨ga, 1, none⟩)
  | 6, v, _ => v = .int .i64 a.o
  | 7, v, _ => v = .pointer (some ⟨gb, 1, none⟩)
  | 8, v, _ => v = .int .i64 b.o
  | 9, v, _ => v = .int .i64 (cmpI a.o b.o)
  | 10, v, _ => v = .pointer (some ⟨ga, 2, none⟩)
  | 11, v, _ => v = .int .i64 a.q
  | 12, v, _ => v = .pointer (some ⟨gb, 2, none⟩)
  | 13, v, _ => v = .int .i64 b.q
  | 14, v, _ => v = .int .i64 (cmpI a.q b.q)
  | 15, v, w => ThreeAt w v (cmpI a.m b.m) (cmpI a.o b.o) (cmpI a.q b.q)
  | 16, v, _ => v = .int .i64 (ordE a b)
  | 17, v, _ => v = .int .i64 (ordE a b)
  | _, _, _ => True
theorem eordG_st (ga gb : Nat) (a b : EZ) : ∀ i9 z9 x9 y9, eordG ga gb a b i9 z9 x9 → Ext x9 y9 → eordG ga gb a b i9 z9 y9 := by
  intro i9 z9 x9 y9 h e
  unfold eordG at *
  split at h <;> first | exact h | trivial | exact ThreeAt.ext h e | exact fun h9 => ThreeAt.ext (h h9) e

set_option maxRecDepth 100000 in
set_option maxHeartbeats 2000000 in
theorem eorder_any (a b : EZ) (w : World) : Calls Tryz.prog 49 #[idv a, idv b] w (Says w (.int .i64 (ordE a b))) := by
  show Calls _ _ #[.agg #[.int .i64 a.m, .int .i64 a.o, .int .i64 a.q], .agg #[.int .i64 b.m, .int .i64 b.o, .int .i64 b.q]] _ _
  obtain ⟨W2, hW2⟩ : ∃ W2, W2 = (w.alloc (Obj.cells #[.int .i64 a.m, .int .i64 a.o, .int .i64 a.q] 75 (0, 0))).alloc (Obj.cells #[.int .i64 b.m, .int .i64 b.o, .int .i64 b.q] 75 (0, 0)) := ⟨_, rfl⟩
  have HX := hid (show Ext w W2 by rw [hW2]; exact (Ext.alloc _ _).then_alloc _)
  have HA := hid (show W2.heap[w.heap.size]? = some (Obj.cells #[.int .i64 a.m, .int .i64 a.o, .int .i64 a.q] 75 (0, 0)) by rw [hW2]; exact heap_alloc2_old w _ _)
  have HB := hid (show W2.heap[w.heap.size + 1]? = some (Obj.cells #[.int .i64 b.m, .int .i64 b.o, .int .i64 b.q] 75 (0, 0)) by rw [hW2]; exact heap_alloc2_new w _ _)
  obtain ⟨⟨p0, p1, p2⟩, _, _⟩ := box3 HA.out
  obtain ⟨⟨q0, q1, q2⟩, _, _⟩ := box3 HB.out
  go_enter Tryz.func49, Tryz.ntmps49
  go_wp2_with fail
  rw [← hW2]
  clear hW2
  obtain ⟨ga, hga⟩ : ∃ g, g = w.heap.size := ⟨_, rfl⟩
  rw [← hga] at p0 p1 p2 q0 q1 q2 ⊢
  obtain ⟨gb, hgb⟩ : ∃ g, g = ga + 1 := ⟨_, rfl⟩
  rw [← hgb] at q0 q1 q2 ⊢
  clear hga hgb HA HB
  refine wp_region_slots Ext (eordG ga gb a b) (by kernel_rfl) Ext.trans Ext.refl (Ext.drew _) (eordG_st _ _ _ _) (by kernel_rfl) ?_ ?_
  · intro tmps wr hle hfr j o9 ho hty
    have h2 : tmps[2]?.getD undef = .pointer (some ⟨ga, 0, none⟩) := hfr 2 (by kernel_rfl)
    have h3 : tmps[3]?.getD undef = .pointer (some ⟨gb, 0, none⟩) := hfr 3 (by kernel_rfl)
    have p0 := hle.cell p0
    have p1 := hle.cell p1
    have p2 := hle.cell p2
    have q0 := hle.cell q0
    have q1 := hle.cell q1
    have q2 := hle.cell q2
    clear hfr
    match j, ho with
    | 0, ho =>
      obtain rfl := (Option.some.inj ho)
      clear hty ho
      refine step_pure (.pointer (some ⟨ga, 0, none⟩)) (wanted_free rfl) ?_ (Ext.refl _) rfl
      simp [execOp, Act.eval, h2, go_sem]
    | 1, ho =>
      have h5 : tmps[5]?.getD undef = .pointer (some ⟨ga, 0, none⟩) := hty 0 5 rfl (by obtain rfl := (Option.some.inj ho); rfl)
      obtain rfl := (Option.some.inj ho)
      clear hty ho
      refine step_pure (.int .i64 a.m) (wanted_free rfl) ?_ (Ext.refl _) rfl
      simp [execOp, Act.eval, h5, p0, go_sem]
    | 2, ho =>
      obtain rfl := (Option.some.inj ho)
      clear hty ho
      refine step_pure (.pointer (some ⟨gb, 0, none⟩)) (wanted_free rfl) ?_ (Ext.refl _) rfl
      simp [execOp, Act.eval, h3, go_sem]
    | 3, ho =>
      have h7 : tmps[7]?.getD undef = .pointer (some ⟨gb, 0, none⟩) := hty 2 7 rfl (by obtain rfl := (Option.some.inj ho); rfl)
      obtain rfl := (Option.some.inj ho)
      clear hty ho
      refine step_pure (.int .i64 b.m) (wanted_free rfl) ?_ (Ext.refl _) rfl
      simp [execOp, Act.eval, h7, q0, go_sem]
    | 4, ho =>
      have h6 : tmps[6]?.getD undef = .int .i64 a.m := hty 1 6 rfl (by obtain rfl := (Option.some.inj ho); rfl)
      have h8 : tmps[8]?.getD undef = .int .i64 b.m := hty 3 8 rfl (by obtain rfl := (Option.some.inj ho); rfl)
      obtain rfl := (Option.some.inj ho)
      clear hty ho
      refine step_call 73 #[.int .i64 a.m, .int .i64 b.m] (wanted_free rfl) ?_ ?_
      · simp [execOp, Act.eval, h6, h8, go_sem]
      · exact (cmpi_just a.m b.m _).mono fun e w' ⟨h1, h2⟩ => ⟨_, h1, h2 ▸ Ext.refl _, rfl⟩
    | 5, ho =>
      obtain rfl := (Option.some.inj ho)
      clear hty ho
      refine step_pure (.pointer (some ⟨ga, 1, none⟩)) (wanted_free rfl) ?_ (Ext.refl _) rfl
      simp [execOp, Act.eval, h2, go_sem]
    | 6, ho =>
      have h10 : tmps[10]?.getD undef = .pointer (some ⟨ga, 1, none⟩) := hty 5 10 rfl (by obtain rfl := (Option.some.inj ho); rfl)
      obtain rfl := (Option.some.inj ho)
      clear hty ho
      refine step_pure (.int .i64 a.o) (wanted_free rfl) ?_ (Ext.refl _) rfl
      simp [execOp, Act.eval, h10, p1, go_sem]
    | 7, ho =>
      obtain rfl := (Option.some.inj ho)
      clear hty ho
      refine step_pure (.pointer (some ⟨gb, 1, none⟩)) (wanted_free rfl) ?_ (Ext.refl _) rfl
      simp [execOp, Act.eval, h3, go_sem]
    | 8, ho =>
      have h12 : tmps[12]?.getD undef = .pointer (some ⟨gb, 1, none⟩) := hty 7 12 rfl (by obtain rfl := (Option.some.inj ho); rfl)
      obtain rfl := (Option.some.inj ho)
      clear hty ho
      refine step_pure (.int .i64 b.o) (wanted_free rfl) ?_ (Ext.refl _) rfl
      simp [execOp, Act.eval, h12, q1, go_sem]
    | 9, ho =>
      have h11 : tmps[11]?.getD undef = .int .i64 a.o := hty 6 11 rfl (by obtain rfl := (Option.some.inj ho); rfl)
      have h13 : tmps[13]?.getD undef = .int .i64 b.o := hty 8 13 rfl (by obtain rfl := (Option.some.inj ho); rfl)
      obtain rfl := (Option.some.inj ho)
      clear hty ho
      refine step_call 73 #[.int .i64 a.o, .int .i64 b.o] (wanted_free rfl) ?_ ?_
      · simp [execOp, Act.eval, h11, h13, go_sem]
      · exact (cmpi_just a.o b.o _).mono fun e w' ⟨h1, h2⟩ => ⟨_, h1, h2 ▸ Ext.refl _, rfl⟩
    | 10, ho =>
      obtain rfl := (Option.some.inj ho)
      clear hty ho
      refine step_pure (.pointer (some ⟨ga, 2, none⟩)) (wanted_free rfl) ?_ (Ext.refl _) rfl
      simp [execOp, Act.eval, h2, go_sem]
    | 11, ho =>
      have h15 : tmps[15]?.getD undef = .pointer (some ⟨ga, 2, none⟩) := hty 10 15 rfl (by obtain rfl := (Option.some.inj ho); rfl)
      obtain rfl := (Option.some.inj ho)
      clear hty ho
      refine step_pure (.int .i64 a.q) (wanted_free rfl) ?_ (Ext.refl _) rfl
      simp [execOp, Act.eval, h15, p2, go_sem]
    | 12, ho =>
      obtain rfl := (Option.some.inj ho)
      clear hty ho
      refine step_pure (.pointer (some ⟨gb, 2, none⟩)) (wanted_free rfl) ?_ (Ext.refl _) rfl
      simp [execOp, Act.eval, h3, go_sem]
    | 13, ho =>
      have h17 : tmps[17]?.getD undef = .pointer (some ⟨gb, 2, none⟩) := hty 12 17 rfl (by obtain rfl := (Option.some.inj ho); rfl)
      obtain rfl := (Option.some.inj ho)
      clear hty ho
      refine step_pure (.int .i64 b.q) (wanted_free rfl) ?_ (Ext.refl _) rfl
      simp [execOp, Act.eval, h17, q2, go_sem]
    | 14, ho =>
      have h16 : tmps[16]?.getD undef = .int .i64 a.q := hty 11 16 rfl (by obtain rfl := (Option.some.inj ho); rfl)
      have h18 : tmps[18]?.getD undef = .int .i64 b.q := hty 13 18 rfl (by obtain rfl := (Option.some.inj ho); rfl)
      obtain rfl := (Option.some.inj ho)
      clear hty ho
      refine step_call 73 #[.int .i64 a.q, .int .i64 b.q] (wanted_free rfl) ?_ ?_
      · simp [execOp, Act.eval, h16, h18, go_sem]
      · exact (cmpi_just a.q b.q _).mono fun e w' ⟨h1, h2⟩ => ⟨_, h1, h2 ▸ Ext.refl _, rfl⟩
    | 15, ho =>
      have h9 : tmps[9]?.getD undef = .int .i64 (cmpI a.m b.m) := hty 4 9 rfl (by obtain rfl := (Option.some.inj ho); rfl)
      have h14 : tmps[14]?.getD undef = .int .i64 (cmpI a.o b.o) := hty 9 14 rfl (by obtain rfl := (Option.some.inj ho); rfl)
      have h19 : tmps[19]?.getD undef = .int .i64 (cmpI a.q b.q) := hty 14 19 rfl (by obtain rfl := (Option.some.inj ho); rfl)
      obtain rfl := (Option.some.inj ho)
      clear hty ho
      refine step_make (.slice (some ⟨wr.heap.size, 0, none⟩) 3 3) (wr.alloc (Obj.cells #[.int .i64 (cmpI a.m b.m), .int .i64 (cmpI a.o b.o), .int .i64 (cmpI a.q b.q)] 3 (0, 0))) (wanted_free rfl) ?_ (Ext.alloc _ _) ?_
      · simp [execOp, Act.eval, h9, h14, h19, go_sem]
      · exact ⟨_, rfl, heap_alloc_new _ _⟩
    | 16, ho =>
      have h20 : ThreeAt wr (tmps[20]?.getD undef) (cmpI a.m b.m) (cmpI a.o b.o) (cmpI a.q b.q) := hty 15 20 rfl (by obtain rfl := (Option.some.inj ho); rfl)
      obtain rfl := (Option.some.inj ho)
      clear hty ho
      obtain ⟨gg, e20, hg20⟩ := h20
      refine step_call 72 #[.slice (some ⟨gg, 0, none⟩) 3 3] (wanted_free rfl) ?_ ?_
      · simp [execOp, Act.eval, e20, go_sem]
      · exact (or3_just _ _ _ (ordE a b) (hid rfl) gg _ hg20).mono fun e w' ⟨h1, h2⟩ => ⟨_, h1, h2 ▸ Ext.refl _, rfl⟩
    | 17, ho =>
      have h21 : tmps[21]?.getD undef = .int .i64 (ordE a b) := hty 16 21 rfl (by obtain rfl := (Option.some.inj ho); rfl)
      obtain rfl := (Option.some.inj ho)
      clear hty ho
      refine step_pure (.int .i64 (ordE a b)) (wanted_free rfl) ?_ (Ext.refl _) rfl
      simp [execOp, Act.eval, h21, go_sem]
    | (j + 18), ho => exact absurd ho (by simp)
  · intro tmps w7 hle hs hfr hty
    have h0 : tmps[4]?.getD undef = .int .i64 (ordE a b) := hty 17 4 rfl
    have hfe := frame_eq [4, 5, 6, 7, 8, 9, 10, 11, 12, 13, 14, 15, 16, 17, 18, 19, 20, 21] hs hfr (by kernel_rfl)
    rw [hfe]
    clear hfe hfr hs hty
    simp only [List.foldl_cons, List.foldl_nil]
    rw [h0]
    clear h0
    simp only [List.setIfInBounds_toArray, List.set_cons_succ, List.set_cons_zero]
    go_wp2_with fail
    go_ret
    exact ⟨rfl, HX.out.trans hle⟩

set_option maxRecDepth 100000 in
set_option maxHeartbeats 1000000 in
theorem eless_any (a b : EZ) (w : World) : Calls Tryz.prog 50 #[idv a, idv b] w (Says w (.bool (lessE a b))) := by
  have ho := ordE_less_dec a b
  have ko := fun W => eorder_any a b W
  generalize lessE a b = R at *
  generalize ordE a b = O at *
  have HO := hid ho
  clear ho
  unfold idv at *
  generalize Value.int .i64 a.m = am at *
  generalize Value.int .i64 a.o = ao at *
  generalize Value.int .i64 a.q = aq at *
  generalize Value.int .i64 b.m = bm at *
  generalize Value.int .i64 b.o = bo at *
  generalize Value.int .i64 b.q = bq at *
  have HA := hid (heap_alloc2_old w (Obj.cells #[am, ao, aq] 75 (0, 0)) (Obj.cells #[bm, bo, bq] 75 (0, 0)))
  have HB := hid (heap_alloc2_new w (Obj.cells #[am, ao, aq] 75 (0, 0)) (Obj.cells #[bm, bo, bq] 75 (0, 0)))
  have HX := hid ((Ext.alloc w (Obj.cells #[am, ao, aq] 75 (0, 0))).then_alloc (Obj.cells #[bm, bo, bq] 75 (0, 0)))
  obtain ⟨⟨p0, p1, p2⟩, _, _⟩ := box3 HA.out
  obtain ⟨⟨q0, q1, q2⟩, _, _⟩ := box3 HB.out
  go_enter Tryz.func50, Tryz.ntmps50
  go_wp2_with fail
  refine (ko _).mono ?_
  rintro e w1 ⟨rfl, hx⟩
  go_wp2_with fail
  go_ret
  exact ⟨congrArg (fun x => Ending.returned (Value.bool x)) HO.out, HX.out.trans hx⟩
end Go.Proofs.YtnldgmpfinlikaaGreat

