/- The landed program's Same and Sorted of events, by their contracts. Conditions: none. (Written by tools/mkep6.py.) -/
import Derived.Test.YtnldgmpfinlikaaGEP1
import Derived.Test.YtnldgmpfinlikaaGER2
import Derived.Test.YtnldgmpfinlikaaER4
namespace Go.Proofs.Ytnldgmpfinlikaa
open Go Go.RowKit

theorem run_ne_val (k : Nat) (n : Int) (b : Nat) (t : ByteArray) (l : Nat) (m : Int) (c : Nat) (u : ByteArray) (w : World) :
    (binOp .neq 68 (.agg #[.int .u8 (k : Int), .int .i64 n, .int .u64 (b : Int), .string t]) (.agg #[.int .u8 (l : Int), .int .i64 m, .int .u64 (c : Int), .string u])).run Try.prog w = .ok (.bool (!decide (k = l ∧ n = m ∧ b = c ∧ t = u))) w := by
  simp [go_sem]
  by_cases h1 : k = l
  · by_cases h2 : n = m
    · by_cases h3 : b = c
      · by_cases h4 : t = u
        · have h4' := (list_ba t u).2 h4
          simp [h1, h2, h3, h4]
        · have h4' : ¬ t.toList = u.toList := fun e => h4 ((list_ba t u).1 e)
          simp [h1, h2, h3, h4, h4']
      · have h3' : ¬ ((b : Int) = (c : Int)) := by omega
        simp [h1, h2, h3, h3']
    · simp [h1, h2]
  · have h1' : ¬ ((k : Int) = (l : Int)) := by omega
    simp [h1, h1']
theorem sameV_len {V U : List VZ} (h : ¬ V.length = U.length) : sameVE V U = false := by
  rw [← Bool.not_eq_true, sameV_iff]
  exact fun e => h (by rw [e])
theorem sameV_end {V U : List VZ} {n : Nat} (h : n = V.length) (h2 : n = U.length) : sameVE (V.drop n) (U.drop n) = true := by
  rw [List.drop_eq_nil_of_le (by omega), List.drop_eq_nil_of_le (by omega), sameV_iff]

set_option maxRecDepth 100000 in
set_option maxHeartbeats 4000000 in
theorem eequalv_any (V U : List VZ) (v u : Value) (w : World) (hf : ValsAt w v V) (hg : ValsAt w u U) : Calls Try.prog 34 #[v, u] w (Says w (.bool (sameVE V U))) := by
  have HF := hid hf
  have HG := hid hg
  obtain ⟨A, c, rfl, _, q1, _⟩ := hf
  obtain ⟨A2, c2, rfl, _, q2, _⟩ := hg
  have hml : (V.length : Int) ≤ 9223372036854775807 := by unfold maxLen at q1; omega
  have hml2 : (U.length : Int) ≤ 9223372036854775807 := by unfold maxLen at q2; omega
  by_cases hl : V.length = U.length
  · have HO := hid (show sameVE V U = sameVE (V.drop 0) (U.drop 0) from rfl)
    generalize sameVE V U = R at *
    have hl' : ((V.length : Int) != (U.length : Int)) = false := bne_eq_false_iff_eq.2 (by omega)
    have HL := hid hl
    clear hl
    go_enter Try.func34, Try.ntmps34
    go_wp2_with fail
    go_loopw [13] (fun x wr => ∃ i : Nat, i ≤ V.length ∧ x = .int .i64 (i : Int) ∧ Hid (R = sameVE (V.drop i) (U.drop i)) ∧ Ext w wr)
      (fun x _ => V.length - (intOf x).toNat)
    case atStart => exact ⟨0, by omega, rfl, hid HO.out, Ext.refl _⟩
    case round =>
      obtain ⟨i, hi, rfl, ho, hext⟩ := hrel
      have HE := hid hext
      clear hext
      by_cases hlt : i < V.length
      · have hltG : i < U.length := by have := HL.out; omega
        obtain ⟨g, o, c', e1, d0, d1, d2, d3⟩ := (HF.out.ext HE.out).open_ hlt
        obtain ⟨rfl, rfl⟩ : A = some ⟨g, o, none⟩ ∧ c = c' := by simpa using e1
        obtain ⟨g2, o2, c'', e2, a0, a1, a2, a3⟩ := (HG.out.ext HE.out).open_ hltG
        obtain ⟨rfl, rfl⟩ : A2 = some ⟨g2, o2, none⟩ ∧ c2 = c'' := by simpa using e2
        have HJ := hid (sameV_at hlt hltG)
        generalize hT : V[i] = T at *
        generalize hU : U[i] = X at *
        obtain ⟨k5, n5, b5, t5⟩ := T
        obtain ⟨k6, n6, b6, t6⟩ := X
        dsimp only at *
        have hne := fun W => run_ne_val k5 n5 b5 t5 k6 n6 b6 t6 W
        generalize decide (k5 = k6 ∧ n5 = n6 ∧ b5 = b6 ∧ t5 = t6) = Z at *
        clear e1 e2 hT hU
        cases Z
        · have HR2 := hid (ho.out.trans (by rw [HJ.out, Bool.false_and]) : R = false)
          rw [Bool.not_false] at hne
          go_wp2_with fail
          go_quiet (fail)
          go_wp2_with fail
          go_ret
          exact ⟨by rw [HR2.out]; rfl, HE.out.trans (Ext.drewN _ _)⟩
        · have HR2 := hid (ho.out.trans (by rw [HJ.out, Bool.true_and]) : R = sameVE (V.drop (i + 1)) (U.drop (i + 1)))
          rw [Bool.not_true] at hne
          go_wp2_with fail
          go_quiet (fail)
          go_wp2_with fail
          go_roundw
          case rel => exact ⟨i + 1, by omega, by go_num, HR2, HE.out.trans (Ext.drewN _ _)⟩
          case measure => simp only [intOf]; omega
      · have hi' : i = V.length := by omega
        subst hi'
        go_wp2_with fail
        go_ret
        exact ⟨by rw [ho.out, sameV_end rfl HL.out]; rfl, HE.out⟩
  · rw [sameV_len hl]
    have hl' : ((V.length : Int) != (U.length : Int)) = true := bne_iff_ne.2 (by omega)
    clear hl
    go_enter Try.func34, Try.ntmps34
    go_wp2_with fail
    go_ret
    exact ⟨rfl, Ext.refl _⟩

theorem run_eq_id (a b : EZ) (w : World) : (binOp .eql 34 (idv a) (idv b)).run Try.prog w = .ok (.bool (decide (a.m = b.m ∧ a.o = b.o ∧ a.q = b.q))) w := by
  unfold idv
  simp [go_sem]
  by_cases h1 : a.m = b.m
  · by_cases h2 : a.o = b.o
    · by_cases h3 : a.q = b.q
      · simp [h1, h2, h3]
      · simp [h1, h2, h3]
    · simp [h1, h2]
  · simp [h1]
theorem guard_id (x y : Operand) (a b : EZ) (w : World) : (eqGuard .eql 34 x y (idv a) (idv b)).run Try.prog w = .ok () w := run_eqGuard_agg w .eql 34 x y _ _ (by kernel_rfl)
theorem same_parts (a b : EZ) : sameEv a b = (decide (a.m = b.m ∧ a.o = b.o ∧ a.q = b.q) && (decide (a.n = b.n) && sameVE a.v b.v)) := by
  rw [Bool.eq_iff_iff, sameEv_iff, Bool.and_eq_true, Bool.and_eq_true, decide_eq_true_iff, decide_eq_true_iff, sameV_iff]
  constructor
  · rintro rfl
    exact ⟨⟨rfl, rfl, rfl⟩, rfl, rfl⟩
  · obtain ⟨am, ao, aq, an, av⟩ := a
    obtain ⟨bm, bo, bq, bn, bv⟩ := b
    rintro ⟨⟨rfl, rfl, rfl⟩, rfl, rfl⟩
    rfl

/-- what the slots of the region hold -/
def esameAG (_ga _gb : Nat) (a b : EZ) (ra rb : Value) (_V : Bool) : Nat → Value → World → Prop
  | 0, v, _ => v = evv a ra
  | 1, v, _ => v = idv a
  | 2, v, _ => v = evv b rb
  | 3, v, _ => v = idv b
  | 4, v, _ => v = .bool false
  | 5, v, _ => v = .bool false
  | 6, v, _ => v = undef
  | 7, v, _ => v = undef
  | 8, v, _ => v = undef
  | 9, v, _ => v = undef
  | 10, v, _ => v = undef
  | 11, v, _ => v = .bool false
  | 12, v, _ => v = .bool false
  | 13, v, _ => v = undef
  | 14, v, _ => v = undef
  | 15, v, _ => v = undef
  | 16, v, _ => v = undef
  | 17, v, _ => v = undef
  | 18, v, _ => v = .bool false
  | 19, v, _ => v = .bool false
  | _, _, _ => True
theorem esameAG_st (ga gb : Nat) (a b : EZ) (ra rb : Value) (V : Bool) : ∀ i9 z9 x9 y9, esameAG ga gb a b ra rb V i9 z9 x9 → Ext x9 y9 → esameAG ga gb a b ra rb V i9 z9 y9 := by
  intro i9 z9 x9 y9 h e
  unfold esameAG at *
  split at h <;> first | exact h | trivial

/-- what the slots of the region hold -/
def esameBG (ga gb : Nat) (a b : EZ) (ra rb : Value) (_V : Bool) : Nat → Value → World → Prop
  | 0, v, _ => v = evv a ra
  | 1, v, _ => v = idv a
  | 2, v, _ => v = evv b rb
  | 3, v, _ => v = idv b
  | 4, v, _ => v = .bool true
  | 5, v, _ => v = .bool true
  | 6, v, _ => v = .pointer (some ⟨ga, 3, none⟩)
  | 7, v, _ => v = .string a.n
  | 8, v, _ => v = .pointer (some ⟨gb, 3, none⟩)
  | 9, v, _ => v = .string b.n
  | 10, v, _ => v = .bool false
  | 11, v, _ => v = .bool false
  | 12, v, _ => v = .bool false
  | 13, v, _ => v = undef
  | 14, v, _ => v = undef
  | 15, v, _ => v = undef
  | 16, v, _ => v = undef
  | 17, v, _ => v = undef
  | 18, v, _ => v = .bool false
  | 19, v, _ => v = .bool false
  | _, _, _ => True
theorem esameBG_st (ga gb : Nat) (a b : EZ) (ra rb : Value) (V : Bool) : ∀ i9 z9 x9 y9, esameBG ga gb a b ra rb V i9 z9 x9 → Ext x9 y9 → esameBG ga gb a b ra rb V i9 z9 y9 := by
  intro i9 z9 x9 y9 h e
  unfold esameBG at *
  split at h <;> first | exact h | trivial

/-- what the slots of the region hold -/
def esameCG (ga gb : Nat) (a b : EZ) (ra rb : Value) (V : Bool) : Nat → Value → World → Prop
  | 0, v, _ => v = evv a ra
  | 1, v, _ => v = idv a
  | 2, v, _ => v = evv b rb
  | 3, v, _ => v = idv b
  | 4, v, _ => v = .bool true
  | 5, v, _ => v = .bool true
  | 6, v, _ => v = .pointer (some ⟨ga, 3, none⟩)
  | 7, v, _ => v = .string a.n
  | 8, v, _ => v = .pointer (some ⟨gb, 3, none⟩)
  | 9, v, _ => v = .string b.n
  | 10, v, _ => v = .bool true
  | 11, v, _ => v = .bool true
  | 12, v, _ => v = .bool true
  | 13, v, _ => v = .pointer (some ⟨ga, 4, none⟩)
  | 14, v, _ => v = ra
  | 15, v, _ => v = .pointer (some ⟨gb, 4, none⟩)
  | 16, v, _ => v = rb
  | 17, v, _ => v = .bool V
  | 18, v, _ => v = .bool V
  | 19, v, _ => v = .bool V
  | _, _, _ => True
theorem esameCG_st (ga gb : Nat) (a b : EZ) (ra rb : Value) (V : Bool) : ∀ i9 z9 x9 y9, esameCG ga gb a b ra rb V i9 z9 x9 → Ext x9 y9 → esameCG ga gb a b ra rb V i9 z9 y9 := by
  intro i9 z9 x9 y9 h e
  unfold esameCG at *
  split at h <;> first | exact h | trivial

set_option maxRecDepth 100000 in
set_option maxHeartbeats 3000000 in
theorem esame_in (a b : EZ) (ra rb : Value) (w : World) (V : Bool) (Z1 Z2 : Bool) (hz1 : Z1 = decide (a.m = b.m ∧ a.o = b.o ∧ a.q = b.q)) (hz2 : Z2 = decide (a.n = b.n))
    (kk : ∀ W, Ext w W → Calls Try.prog 34 #[ra, rb] W (Says W (.bool V))) : Calls Try.prog 17 #[evv a ra, evv b rb] w (Says w (.bool (Z1 && (Z2 && V)))) := by
  show Calls _ _ #[.agg #[.int .i64 a.m, .int .i64 a.o, .int .i64 a.q, .string a.n, ra], .agg #[.int .i64 b.m, .int .i64 b.o, .int .i64 b.q, .string b.n, rb]] _ _
  have hid1 := fun W => run_eq_id a b W
  rw [← hz1] at hid1
  have hnm : (a.n.toList == b.n.toList) = Z2 := by
    rw [hz2, Bool.eq_iff_iff, beq_iff_eq, decide_eq_true_iff]
    exact list_ba _ _
  clear hz1 hz2
  obtain ⟨W2, hW2⟩ : ∃ W2, W2 = (w.alloc (Obj.cells #[.int .i64 a.m, .int .i64 a.o, .int .i64 a.q, .string a.n, ra] 37 (0, 0))).alloc (Obj.cells #[.int .i64 b.m, .int .i64 b.o, .int .i64 b.q, .string b.n, rb] 37 (0, 0)) := ⟨_, rfl⟩
  have HX := hid (show Ext w W2 by rw [hW2]; exact (Ext.alloc _ _).then_alloc _)
  have HA := hid (show W2.heap[w.heap.size]? = some (Obj.cells #[.int .i64 a.m, .int .i64 a.o, .int .i64 a.q, .string a.n, ra] 37 (0, 0)) by rw [hW2]; exact heap_alloc2_old w _ _)
  have HB := hid (show W2.heap[w.heap.size + 1]? = some (Obj.cells #[.int .i64 b.m, .int .i64 b.o, .int .i64 b.q, .string b.n, rb] 37 (0, 0)) by rw [hW2]; exact heap_alloc2_new w _ _)
  replace kk := fun W (h : Ext W2 W) => kk W (HX.out.trans h)
  obtain ⟨⟨p0, p1, p2, p3, p4⟩, _, _⟩ := box5 HA.out
  obtain ⟨⟨q0, q1, q2, q3, q4⟩, _, _⟩ := box5 HB.out
  go_enter Try.func17, Try.ntmps17
  go_wp2_with fail
  rw [← hW2]
  clear hW2
  obtain ⟨ga, hga⟩ : ∃ g, g = w.heap.size := ⟨_, rfl⟩
  rw [← hga] at p0 p1 p2 p3 p4 q0 q1 q2 q3 q4 ⊢
  obtain ⟨gb, hgb⟩ : ∃ g, g = ga + 1 := ⟨_, rfl⟩
  rw [← hgb] at q0 q1 q2 q3 q4 ⊢
  clear hga hgb HA HB
  cases Z1
  case false =>
    refine wp_region_slots Ext (esameAG ga gb a b ra rb false) (by kernel_rfl) Ext.trans Ext.refl (Ext.drew _) (esameAG_st _ _ _ _ _ _ _) (by kernel_rfl) ?_ ?_
    · intro tmps wr hle hfr j o9 ho hty
      have h2 : tmps[2]?.getD undef = .pointer (some ⟨ga, 0, none⟩) := hfr 2 (by kernel_rfl)
      have h3 : tmps[3]?.getD undef = .pointer (some ⟨gb, 0, none⟩) := hfr 3 (by kernel_rfl)
      have p0 := hle.cell p0
      have p1 := hle.cell p1
      have p2 := hle.cell p2
      have p3 := hle.cell p3
      have p4 := hle.cell p4
      have q0 := hle.cell q0
      have q1 := hle.cell q1
      have q2 := hle.cell q2
      have q3 := hle.cell q3
      have q4 := hle.cell q4
      clear hfr
      match j, ho with
      | 0, ho =>
        obtain rfl := (Option.some.inj ho)
        clear hty ho
        refine step_pure (evv a ra) (wanted_free rfl) ?_ (Ext.refl _) rfl
        simp [execOp, Act.eval, h2, evv, p0, p1, p2, p3, p4, go_sem]
      | 1, ho =>
        have h5 : tmps[5]?.getD undef = evv a ra := hty 0 5 rfl (by obtain rfl := (Option.some.inj ho); rfl)
        obtain rfl := (Option.some.inj ho)
        clear hty ho
        refine step_call 14 #[evv a ra] (wanted_free rfl) ?_ ?_
        · simp [execOp, Act.eval, h5, go_sem]
        · exact (eid_any a ra _).mono fun e w' ⟨h1, h2⟩ => ⟨_, h1, h2, rfl⟩
      | 2, ho =>
        obtain rfl := (Option.some.inj ho)
        clear hty ho
        refine step_pure (evv b rb) (wanted_free rfl) ?_ (Ext.refl _) rfl
        simp [execOp, Act.eval, h3, evv, q0, q1, q2, q3, q4, go_sem]
      | 3, ho =>
        have h7 : tmps[7]?.getD undef = evv b rb := hty 2 7 rfl (by obtain rfl := (Option.some.inj ho); rfl)
        obtain rfl := (Option.some.inj ho)
        clear hty ho
        refine step_call 14 #[evv b rb] (wanted_free rfl) ?_ ?_
        · simp [execOp, Act.eval, h7, go_sem]
        · exact (eid_any b rb _).mono fun e w' ⟨h1, h2⟩ => ⟨_, h1, h2, rfl⟩
      | 4, ho =>
        have h6 : tmps[6]?.getD undef = idv a := hty 1 6 rfl (by obtain rfl := (Option.some.inj ho); rfl)
        have h8 : tmps[8]?.getD undef = idv b := hty 3 8 rfl (by obtain rfl := (Option.some.inj ho); rfl)
        obtain rfl := (Option.some.inj ho)
        clear hty ho
        refine step_pure (.bool false) (wanted_free rfl) ?_ (Ext.refl _) rfl
        simp [execOp, Act.eval, h6, h8, guard_id, hid1, go_sem]
      | 5, ho =>
        have h9 : tmps[9]?.getD undef = .bool false := hty 4 9 rfl (by obtain rfl := (Option.some.inj ho); rfl)
        obtain rfl := (Option.some.inj ho)
        clear hty ho
        refine step_pure (.bool false) (wanted_free rfl) ?_ (Ext.refl _) rfl
        simp [execOp, Act.eval, h9, go_sem]
      | 6, ho =>
        have h10 : tmps[10]?.getD undef = .bool false := hty 5 10 rfl (by obtain rfl := (Option.some.inj ho); rfl)
        obtain rfl := (Option.some.inj ho)
        clear hty ho
        exact step_skip (unwanted_guard rfl rfl h10 (by decide)) rfl
      | 7, ho =>
        have h11 : tmps[11]?.getD undef = undef := hty 6 11 rfl (by obtain rfl := (Option.some.inj ho); rfl)
        have h10 : tmps[10]?.getD undef = .bool false := hty 5 10 rfl (by obtain rfl := (Option.some.inj ho); rfl)
        obtain rfl := (Option.some.inj ho)
        clear hty ho
        exact step_skip (unwanted_guard rfl rfl h10 (by decide)) rfl
      | 8, ho =>
        have h10 : tmps[10]?.getD undef = .bool false := hty 5 10 rfl (by obtain rfl := (Option.some.inj ho); rfl)
        obtain rfl := (Option.some.inj ho)
        clear hty ho
        exact step_skip (unwanted_guard rfl rfl h10 (by decide)) rfl
      | 9, ho =>
        have h13 : tmps[13]?.getD undef = undef := hty 8 13 rfl (by obtain rfl := (Option.some.inj ho); rfl)
        have h10 : tmps[10]?.getD undef = .bool false := hty 5 10 rfl (by obtain rfl := (Option.some.inj ho); rfl)
        obtain rfl := (Option.some.inj ho)
        clear hty ho
        exact step_skip (unwanted_guard rfl rfl h10 (by decide)) rfl
      | 10, ho =>
        have h12 : tmps[12]?.getD undef = undef := hty 7 12 rfl (by obtain rfl := (Option.some.inj ho); rfl)
        have h14 : tmps[14]?.getD undef = undef := hty 9 14 rfl (by obtain rfl := (Option.some.inj ho); rfl)
        have h10 : tmps[10]?.getD undef = .bool false := hty 5 10 rfl (by obtain rfl := (Option.some.inj ho); rfl)
        obtain rfl := (Option.some.inj ho)
        clear hty ho
        exact step_skip (unwanted_guard rfl rfl h10 (by decide)) rfl
      | 11, ho =>
        have h10 : tmps[10]?.getD undef = .bool false := hty 5 10 rfl (by obtain rfl := (Option.some.inj ho); rfl)
        have h15 : tmps[15]?.getD undef = undef := hty 10 15 rfl (by obtain rfl := (Option.some.inj ho); rfl)
        obtain rfl := (Option.some.inj ho)
        clear hty ho
        refine step_pure (.bool false) (wanted_free rfl) ?_ (Ext.refl _) rfl
        simp [execOp, Act.eval, h10, h15, go_sem]
      | 12, ho =>
        have h16 : tmps[16]?.getD undef = .bool false := hty 11 16 rfl (by obtain rfl := (Option.some.inj ho); rfl)
        obtain rfl := (Option.some.inj ho)
        clear hty ho
        refine step_pure (.bool false) (wanted_free rfl) ?_ (Ext.refl _) rfl
        simp [execOp, Act.eval, h16, go_sem]
      | 13, ho =>
        have h17 : tmps[17]?.getD undef = .bool false := hty 12 17 rfl (by obtain rfl := (Option.some.inj ho); rfl)
        obtain rfl := (Option.some.inj ho)
        clear hty ho
        exact step_skip (unwanted_guard rfl rfl h17 (by decide)) rfl
      | 14, ho =>
        have h18 : tmps[18]?.getD undef = undef := hty 13 18 rfl (by obtain rfl := (Option.some.inj ho); rfl)
        have h17 : tmps[17]?.getD undef = .bool false := hty 12 17 rfl (by obtain rfl := (Option.some.inj ho); rfl)
        obtain rfl := (Option.some.inj ho)
        clear hty ho
        exact step_skip (unwanted_guard rfl rfl h17 (by decide)) rfl
      | 15, ho =>
        have h17 : tmps[17]?.getD undef = .bool false := hty 12 17 rfl (by obtain rfl := (Option.some.inj ho); rfl)
        obtain rfl := (Option.some.inj ho)
        clear hty ho
        exact step_skip (unwanted_guard rfl rfl h17 (by decide)) rfl
      | 16, ho =>
        have h20 : tmps[20]?.getD undef = undef := hty 15 20 rfl (by obtain rfl := (Option.some.inj ho); rfl)
        have h17 : tmps[17]?.getD undef = .bool false := hty 12 17 rfl (by obtain rfl := (Option.some.inj ho); rfl)
        obtain rfl := (Option.some.inj ho)
        clear hty ho
        exact step_skip (unwanted_guard rfl rfl h17 (by decide)) rfl
      | 17, ho =>
        have h19 : tmps[19]?.getD undef = undef := hty 14 19 rfl (by obtain rfl := (Option.some.inj ho); rfl)
        have h21 : tmps[21]?.getD undef = undef := hty 16 21 rfl (by obtain rfl := (Option.some.inj ho); rfl)
        have h17 : tmps[17]?.getD undef = .bool false := hty 12 17 rfl (by obtain rfl := (Option.some.inj ho); rfl)
        obtain rfl := (Option.some.inj ho)
        clear hty ho
        exact step_skip (unwanted_guard rfl rfl h17 (by decide)) rfl
      | 18, ho =>
        have h17 : tmps[17]?.getD undef = .bool false := hty 12 17 rfl (by obtain rfl := (Option.some.inj ho); rfl)
        have h22 : tmps[22]?.getD undef = undef := hty 17 22 rfl (by obtain rfl := (Option.some.inj ho); rfl)
        obtain rfl := (Option.some.inj ho)
        clear hty ho
        refine step_pure (.bool false) (wanted_free rfl) ?_ (Ext.refl _) rfl
        simp [execOp, Act.eval, h17, h22, go_sem]
      | 19, ho =>
        have h23 : tmps[23]?.getD undef = .bool false := hty 18 23 rfl (by obtain rfl := (Option.some.inj ho); rfl)
        obtain rfl := (Option.some.inj ho)
        clear hty ho
        refine step_pure (.bool false) (wanted_free rfl) ?_ (Ext.refl _) rfl
        simp [execOp, Act.eval, h23, go_sem]
      | (j + 20), ho => exact absurd ho (by simp)
    · intro tmps w7 hle hs hfr hty
      have h0 : tmps[4]?.getD undef = .bool false := hty 19 4 rfl
      have hfe := frame_eq [4, 5, 6, 7, 8, 9, 10, 11, 12, 13, 14, 15, 16, 17, 18, 19, 20, 21, 22, 23] hs hfr (by kernel_rfl)
      rw [hfe]
      clear hfe hfr hs hty
      simp only [List.foldl_cons, List.foldl_nil]
      rw [h0]
      clear h0
      simp only [List.setIfInBounds_toArray, List.set_cons_succ, List.set_cons_zero]
      go_wp2_with fail
      go_ret
      exact ⟨rfl, HX.out.trans hle⟩
  cases Z2
  case false =>
    refine wp_region_slots Ext (esameBG ga gb a b ra rb false) (by kernel_rfl) Ext.trans Ext.refl (Ext.drew _) (esameBG_st _ _ _ _ _ _ _) (by kernel_rfl) ?_ ?_
    · intro tmps wr hle hfr j o9 ho hty
      have h2 : tmps[2]?.getD undef = .pointer (some ⟨ga, 0, none⟩) := hfr 2 (by kernel_rfl)
      have h3 : tmps[3]?.getD undef = .pointer (some ⟨gb, 0, none⟩) := hfr 3 (by kernel_rfl)
      have p0 := hle.cell p0
      have p1 := hle.cell p1
      have p2 := hle.cell p2
      have p3 := hle.cell p3
      have p4 := hle.cell p4
      have q0 := hle.cell q0
      have q1 := hle.cell q1
      have q2 := hle.cell q2
      have q3 := hle.cell q3
      have q4 := hle.cell q4
      clear hfr
      match j, ho with
      | 0, ho =>
        obtain rfl := (Option.some.inj ho)
        clear hty ho
        refine step_pure (evv a ra) (wanted_free rfl) ?_ (Ext.refl _) rfl
        simp [execOp, Act.eval, h2, evv, p0, p1, p2, p3, p4, go_sem]
      | 1, ho =>
        have h5 : tmps[5]?.getD undef = evv a ra := hty 0 5 rfl (by obtain rfl := (Option.some.inj ho); rfl)
        obtain rfl := (Option.some.inj ho)
        clear hty ho
        refine step_call 14 #[evv a ra] (wanted_free rfl) ?_ ?_
        · simp [execOp, Act.eval, h5, go_sem]
        · exact (eid_any a ra _).mono fun e w' ⟨h1, h2⟩ => ⟨_, h1, h2, rfl⟩
      | 2, ho =>
        obtain rfl := (Option.some.inj ho)
        clear hty ho
        refine step_pure (evv b rb) (wanted_free rfl) ?_ (Ext.refl _) rfl
        simp [execOp, Act.eval, h3, evv, q0, q1, q2, q3, q4, go_sem]
      | 3, ho =>
        have h7 : tmps[7]?.getD undef = evv b rb := hty 2 7 rfl (by obtain rfl := (Option.some.inj ho); rfl)
        obtain rfl := (Option.some.inj ho)
        clear hty ho
        refine step_call 14 #[evv b rb] (wanted_free rfl) ?_ ?_
        · simp [execOp, Act.eval, h7, go_sem]
        · exact (eid_any b rb _).mono fun e w' ⟨h1, h2⟩ => ⟨_, h1, h2, rfl⟩
      | 4, ho =>
        have h6 : tmps[6]?.getD undef = idv a := hty 1 6 rfl (by obtain rfl := (Option.some.inj ho); rfl)
        have h8 : tmps[8]?.getD undef = idv b := hty 3 8 rfl (by obtain rfl := (Option.some.inj ho); rfl)
        obtain rfl := (Option.some.inj ho)
        clear hty ho
        refine step_pure (.bool true) (wanted_free rfl) ?_ (Ext.refl _) rfl
        simp [execOp, Act.eval, h6, h8, guard_id, hid1, go_sem]
      | 5, ho =>
        have h9 : tmps[9]?.getD undef = .bool true := hty 4 9 rfl (by obtain rfl := (Option.some.inj ho); rfl)
        obtain rfl := (Option.some.inj ho)
        clear hty ho
        refine step_pure (.bool true) (wanted_free rfl) ?_ (Ext.refl _) rfl
        simp [execOp, Act.eval, h9, go_sem]
      | 6, ho =>
        have h10 : tmps[10]?.getD undef = .bool true := hty 5 10 rfl (by obtain rfl := (Option.some.inj ho); rfl)
        obtain rfl := (Option.some.inj ho)
        clear hty ho
        refine step_pure (.pointer (some ⟨ga, 3, none⟩)) (wanted_guard rfl rfl h10) ?_ (Ext.refl _) rfl
        simp [execOp, Act.eval, h2, go_sem]
      | 7, ho =>
        have h11 : tmps[11]?.getD undef = .pointer (some ⟨ga, 3, none⟩) := hty 6 11 rfl (by obtain rfl := (Option.some.inj ho); rfl)
        have h10 : tmps[10]?.getD undef = .bool true := hty 5 10 rfl (by obtain rfl := (Option.some.inj ho); rfl)
        obtain rfl := (Option.some.inj ho)
        clear hty ho
        refine step_pure (.string a.n) (wanted_guard rfl rfl h10) ?_ (Ext.refl _) rfl
        simp [execOp, Act.eval, h11, p3, go_sem]
      | 8, ho =>
        have h10 : tmps[10]?.getD undef = .bool true := hty 5 10 rfl (by obtain rfl := (Option.some.inj ho); rfl)
        obtain rfl := (Option.some.inj ho)
        clear hty ho
        refine step_pure (.pointer (some ⟨gb, 3, none⟩)) (wanted_guard rfl rfl h10) ?_ (Ext.refl _) rfl
        simp [execOp, Act.eval, h3, go_sem]
      | 9, ho =>
        have h13 : tmps[13]?.getD undef = .pointer (some ⟨gb, 3, none⟩) := hty 8 13 rfl (by obtain rfl := (Option.some.inj ho); rfl)
        have h10 : tmps[10]?.getD undef = .bool true := hty 5 10 rfl (by obtain rfl := (Option.some.inj ho); rfl)
        obtain rfl := (Option.some.inj ho)
        clear hty ho
        refine step_pure (.string b.n) (wanted_guard rfl rfl h10) ?_ (Ext.refl _) rfl
        simp [execOp, Act.eval, h13, q3, go_sem]
      | 10, ho =>
        have h12 : tmps[12]?.getD undef = .string a.n := hty 7 12 rfl (by obtain rfl := (Option.some.inj ho); rfl)
        have h14 : tmps[14]?.getD undef = .string b.n := hty 9 14 rfl (by obtain rfl := (Option.some.inj ho); rfl)
        have h10 : tmps[10]?.getD undef = .bool true := hty 5 10 rfl (by obtain rfl := (Option.some.inj ho); rfl)
        obtain rfl := (Option.some.inj ho)
        clear hty ho
        refine step_pure (.bool false) (wanted_guard rfl rfl h10) ?_ (Ext.refl _) rfl
        simp [execOp, Act.eval, h12, h14, hnm, go_sem]
      | 11, ho =>
        have h10 : tmps[10]?.getD undef = .bool true := hty 5 10 rfl (by obtain rfl := (Option.some.inj ho); rfl)
        have h15 : tmps[15]?.getD undef = .bool false := hty 10 15 rfl (by obtain rfl := (Option.some.inj ho); rfl)
        obtain rfl := (Option.some.inj ho)
        clear hty ho
        refine step_pure (.bool false) (wanted_free rfl) ?_ (Ext.refl _) rfl
        simp [execOp, Act.eval, h10, h15, go_sem]
      | 12, ho =>
        have h16 : tmps[16]?.getD undef = .bool false := hty 11 16 rfl (by obtain rfl := (Option.some.inj ho); rfl)
        obtain rfl := (Option.some.inj ho)
        clear hty ho
        refine step_pure (.bool false) (wanted_free rfl) ?_ (Ext.refl _) rfl
        simp [execOp, Act.eval, h16, go_sem]
      | 13, ho =>
        have h17 : tmps[17]?.getD undef = .bool false := hty 12 17 rfl (by obtain rfl := (Option.some.inj ho); rfl)
        obtain rfl := (Option.some.inj ho)
        clear hty ho
        exact step_skip (unwanted_guard rfl rfl h17 (by decide)) rfl
      | 14, ho =>
        have h18 : tmps[18]?.getD undef = undef := hty 13 18 rfl (by obtain rfl := (Option.some.inj ho); rfl)
        have h17 : tmps[17]?.getD undef = .bool false := hty 12 17 rfl (by obtain rfl := (Option.some.inj ho); rfl)
        obtain rfl := (Option.some.inj ho)
        clear hty ho
        exact step_skip (unwanted_guard rfl rfl h17 (by decide)) rfl
      | 15, ho =>
        have h17 : tmps[17]?.getD undef = .bool false := hty 12 17 rfl (by obtain rfl := (Option.some.inj ho); rfl)
        obtain rfl := (Option.some.inj ho)
        clear hty ho
        exact step_skip (unwanted_guard rfl rfl h17 (by decide)) rfl
      | 16, ho =>
        have h20 : tmps[20]?.getD undef = undef := hty 15 20 rfl (by obtain rfl := (Option.some.inj ho); rfl)
        have h17 : tmps[17]?.getD undef = .bool false := hty 12 17 rfl (by obtain rfl := (Option.some.inj ho); rfl)
        obtain rfl := (Option.some.inj ho)
        clear hty ho
        exact step_skip (unwanted_guard rfl rfl h17 (by decide)) rfl
      | 17, ho =>
        have h19 : tmps[19]?.getD undef = undef := hty 14 19 rfl (by obtain rfl := (Option.some.inj ho); rfl)
        have h21 : tmps[21]?.getD undef = undef := hty 16 21 rfl (by obtain rfl := (Option.some.inj ho); rfl)
        have h17 : tmps[17]?.getD undef = .bool false := hty 12 17 rfl (by obtain rfl := (Option.some.inj ho); rfl)
        obtain rfl := (Option.some.inj ho)
        clear hty ho
        exact step_skip (unwanted_guard rfl rfl h17 (by decide)) rfl
      | 18, ho =>
        have h17 : tmps[17]?.getD undef = .bool false := hty 12 17 rfl (by obtain rfl := (Option.some.inj ho); rfl)
        have h22 : tmps[22]?.getD undef = undef := hty 17 22 rfl (by obtain rfl := (Option.some.inj ho); rfl)
        obtain rfl := (Option.some.inj ho)
        clear hty ho
        refine step_pure (.bool false) (wanted_free rfl) ?_ (Ext.refl _) rfl
        simp [execOp, Act.eval, h17, h22, go_sem]
      | 19, ho =>
        have h23 : tmps[23]?.getD undef = .bool false := hty 18 23 rfl (by obtain rfl := (Option.some.inj ho); rfl)
        obtain rfl := (Option.some.inj ho)
        clear hty ho
        refine step_pure (.bool false) (wanted_free rfl) ?_ (Ext.refl _) rfl
        simp [execOp, Act.eval, h23, go_sem]
      | (j + 20), ho => exact absurd ho (by simp)
    · intro tmps w7 hle hs hfr hty
      have h0 : tmps[4]?.getD undef = .bool false := hty 19 4 rfl
      have hfe := frame_eq [4, 5, 6, 7, 8, 9, 10, 11, 12, 13, 14, 15, 16, 17, 18, 19, 20, 21, 22, 23] hs hfr (by kernel_rfl)
      rw [hfe]
      clear hfe hfr hs hty
      simp only [List.foldl_cons, List.foldl_nil]
      rw [h0]
      clear h0
      simp only [List.setIfInBounds_toArray, List.set_cons_succ, List.set_cons_zero]
      go_wp2_with fail
      go_ret
      exact ⟨rfl, HX.out.trans hle⟩
  refine wp_region_slots Ext (esameCG ga gb a b ra rb V) (by kernel_rfl) Ext.trans Ext.refl (Ext.drew _) (esameCG_st _ _ _ _ _ _ _) (by kernel_rfl) ?_ ?_
  · intro tmps wr hle hfr j o9 ho hty
    have h2 : tmps[2]?.getD undef = .pointer (some ⟨ga, 0, none⟩) := hfr 2 (by kernel_rfl)
    have h3 : tmps[3]?.getD undef = .pointer (some ⟨gb, 0, none⟩) := hfr 3 (by kernel_rfl)
    have p0 := hle.cell p0
    have p1 := hle.cell p1
    have p2 := hle.cell p2
    have p3 := hle.cell p3
    have p4 := hle.cell p4
    have q0 := hle.cell q0
    have q1 := hle.cell q1
    have q2 := hle.cell q2
    have q3 := hle.cell q3
    have q4 := hle.cell q4
    clear hfr
    match j, ho with
    | 0, ho =>
      obtain rfl := (Option.some.inj ho)
      clear hty ho
      refine step_pure (evv a ra) (wanted_free rfl) ?_ (Ext.refl _) rfl
      simp [execOp, Act.eval, h2, evv, p0, p1, p2, p3, p4, go_sem]
    | 1, ho =>
      have h5 : tmps[5]?.getD undef = evv a ra := hty 0 5 rfl (by obtain rfl := (Option.some.inj ho); rfl)
      obtain rfl := (Option.some.inj ho)
      clear hty ho
      refine step_call 14 #[evv a ra] (wanted_free rfl) ?_ ?_
      · simp [execOp, Act.eval, h5, go_sem]
      · exact (eid_any a ra _).mono fun e w' ⟨h1, h2⟩ => ⟨_, h1, h2, rfl⟩
    | 2, ho =>
      obtain rfl := (Option.some.inj ho)
      clear hty ho
      refine step_pure (evv b rb) (wanted_free rfl) ?_ (Ext.refl _) rfl
      simp [execOp, Act.eval, h3, evv, q0, q1, q2, q3, q4, go_sem]
    | 3, ho =>
      have h7 : tmps[7]?.getD undef = evv b rb := hty 2 7 rfl (by obtain rfl := (Option.some.inj ho); rfl)
      obtain rfl := (Option.some.inj ho)
      clear hty ho
      refine step_call 14 #[evv b rb] (wanted_free rfl) ?_ ?_
      · simp [execOp, Act.eval, h7, go_sem]
      · exact (eid_any b rb _).mono fun e w' ⟨h1, h2⟩ => ⟨_, h1, h2, rfl⟩
    | 4, ho =>
      have h6 : tmps[6]?.getD undef = idv a := hty 1 6 rfl (by obtain rfl := (Option.some.inj ho); rfl)
      have h8 : tmps[8]?.getD undef = idv b := hty 3 8 rfl (by obtain rfl := (Option.some.inj ho); rfl)
      obtain rfl := (Option.some.inj ho)
      clear hty ho
      refine step_pure (.bool true) (wanted_free rfl) ?_ (Ext.refl _) rfl
      simp [execOp, Act.eval, h6, h8, guard_id, hid1, go_sem]
    | 5, ho =>
      have h9 : tmps[9]?.getD undef = .bool true := hty 4 9 rfl (by obtain rfl := (Option.some.inj ho); rfl)
      obtain rfl := (Option.some.inj ho)
      clear hty ho
      refine step_pure (.bool true) (wanted_free rfl) ?_ (Ext.refl _) rfl
      simp [execOp, Act.eval, h9, go_sem]
    | 6, ho =>
      have h10 : tmps[10]?.getD undef = .bool true := hty 5 10 rfl (by obtain rfl := (Option.some.inj ho); rfl)
      obtain rfl := (Option.some.inj ho)
      clear hty ho
      refine step_pure (.pointer (some ⟨ga, 3, none⟩)) (wanted_guard rfl rfl h10) ?_ (Ext.refl _) rfl
      simp [execOp, Act.eval, h2, go_sem]
    | 7, ho =>
      have h11 : tmps[11]?.getD undef = .pointer (some ⟨ga, 3, none⟩) := hty 6 11 rfl (by obtain rfl := (Option.some.inj ho); rfl)
      have h10 : tmps[10]?.getD undef = .bool true := hty 5 10 rfl (by obtain rfl := (Option.some.inj ho); rfl)
      obtain rfl := (Option.some.inj ho)
      clear hty ho
      refine step_pure (.string a.n) (wanted_guard rfl rfl h10) ?_ (Ext.refl _) rfl
      simp [execOp, Act.eval, h11, p3, go_sem]
    | 8, ho =>
      have h10 : tmps[10]?.getD undef = .bool true := hty 5 10 rfl (by obtain rfl := (Option.some.inj ho); rfl)
      obtain rfl := (Option.some.inj ho)
      clear hty ho
      refine step_pure (.pointer (some ⟨gb, 3, none⟩)) (wanted_guard rfl rfl h10) ?_ (Ext.refl _) rfl
      simp [execOp, Act.eval, h3, go_sem]
    | 9, ho =>
      have h13 : tmps[13]?.getD undef = .pointer (some ⟨gb, 3, none⟩) := hty 8 13 rfl (by obtain rfl := (Option.some.inj ho); rfl)
      have h10 : tmps[10]?.getD undef = .bool true := hty 5 10 rfl (by obtain rfl := (Option.some.inj ho); rfl)
      obtain rfl := (Option.some.inj ho)
      clear hty ho
      refine step_pure (.string b.n) (wanted_guard rfl rfl h10) ?_ (Ext.refl _) rfl
      simp [execOp, Act.eval, h13, q3, go_sem]
    | 10, ho =>
      have h12 : tmps[12]?.getD undef = .string a.n := hty 7 12 rfl (by obtain rfl := (Option.some.inj ho); rfl)
      have h14 : tmps[14]?.getD undef = .string b.n := hty 9 14 rfl (by obtain rfl := (Option.some.inj ho); rfl)
      have h10 : tmps[10]?.getD undef = .bool true := hty 5 10 rfl (by obtain rfl := (Option.some.inj ho); rfl)
      obtain rfl := (Option.some.inj ho)
      clear hty ho
      refine step_pure (.bool true) (wanted_guard rfl rfl h10) ?_ (Ext.refl _) rfl
      simp [execOp, Act.eval, h12, h14, hnm, go_sem]
    | 11, ho =>
      have h10 : tmps[10]?.getD undef = .bool true := hty 5 10 rfl (by obtain rfl := (Option.some.inj ho); rfl)
      have h15 : tmps[15]?.getD undef = .bool true := hty 10 15 rfl (by obtain rfl := (Option.some.inj ho); rfl)
      obtain rfl := (Option.some.inj ho)
      clear hty ho
      refine step_pure (.bool true) (wanted_free rfl) ?_ (Ext.refl _) rfl
      simp [execOp, Act.eval, h10, h15, go_sem]
    | 12, ho =>
      have h16 : tmps[16]?.getD undef = .bool true := hty 11 16 rfl (by obtain rfl := (Option.some.inj ho); rfl)
      obtain rfl := (Option.some.inj ho)
      clear hty ho
      refine step_pure (.bool true) (wanted_free rfl) ?_ (Ext.refl _) rfl
      simp [execOp, Act.eval, h16, go_sem]
    | 13, ho =>
      have h17 : tmps[17]?.getD undef = .bool true := hty 12 17 rfl (by obtain rfl := (Option.some.inj ho); rfl)
      obtain rfl := (Option.some.inj ho)
      clear hty ho
      refine step_pure (.pointer (some ⟨ga, 4, none⟩)) (wanted_guard rfl rfl h17) ?_ (Ext.refl _) rfl
      simp [execOp, Act.eval, h2, go_sem]
    | 14, ho =>
      have h18 : tmps[18]?.getD undef = .pointer (some ⟨ga, 4, none⟩) := hty 13 18 rfl (by obtain rfl := (Option.some.inj ho); rfl)
      have h17 : tmps[17]?.getD undef = .bool true := hty 12 17 rfl (by obtain rfl := (Option.some.inj ho); rfl)
      obtain rfl := (Option.some.inj ho)
      clear hty ho
      refine step_pure (ra) (wanted_guard rfl rfl h17) ?_ (Ext.refl _) rfl
      simp [execOp, Act.eval, h18, p4, go_sem]
    | 15, ho =>
      have h17 : tmps[17]?.getD undef = .bool true := hty 12 17 rfl (by obtain rfl := (Option.some.inj ho); rfl)
      obtain rfl := (Option.some.inj ho)
      clear hty ho
      refine step_pure (.pointer (some ⟨gb, 4, none⟩)) (wanted_guard rfl rfl h17) ?_ (Ext.refl _) rfl
      simp [execOp, Act.eval, h3, go_sem]
    | 16, ho =>
      have h20 : tmps[20]?.getD undef = .pointer (some ⟨gb, 4, none⟩) := hty 15 20 rfl (by obtain rfl := (Option.some.inj ho); rfl)
      have h17 : tmps[17]?.getD undef = .bool true := hty 12 17 rfl (by obtain rfl := (Option.some.inj ho); rfl)
      obtain rfl := (Option.some.inj ho)
      clear hty ho
      refine step_pure (rb) (wanted_guard rfl rfl h17) ?_ (Ext.refl _) rfl
      simp [execOp, Act.eval, h20, q4, go_sem]
    | 17, ho =>
      have h19 : tmps[19]?.getD undef = ra := hty 14 19 rfl (by obtain rfl := (Option.some.inj ho); rfl)
      have h21 : tmps[21]?.getD undef = rb := hty 16 21 rfl (by obtain rfl := (Option.some.inj ho); rfl)
      have h17 : tmps[17]?.getD undef = .bool true := hty 12 17 rfl (by obtain rfl := (Option.some.inj ho); rfl)
      obtain rfl := (Option.some.inj ho)
      clear hty ho
      refine step_call 34 #[ra, rb] (wanted_guard rfl rfl h17) ?_ ?_
      · simp [execOp, Act.eval, h19, h21, go_sem]
      · exact (kk _ hle).mono fun e w' ⟨h1, h2⟩ => ⟨_, h1, h2, rfl⟩
    | 18, ho =>
      have h17 : tmps[17]?.getD undef = .bool true := hty 12 17 rfl (by obtain rfl := (Option.some.inj ho); rfl)
      have h22 : tmps[22]?.getD undef = .bool V := hty 17 22 rfl (by obtain rfl := (Option.some.inj ho); rfl)
      obtain rfl := (Option.some.inj ho)
      clear hty ho
      refine step_pure (.bool V) (wanted_free rfl) ?_ (Ext.refl _) rfl
      simp [execOp, Act.eval, h17, h22, go_sem]
    | 19, ho =>
      have h23 : tmps[23]?.getD undef = .bool V := hty 18 23 rfl (by obtain rfl := (Option.some.inj ho); rfl)
      obtain rfl := (Option.some.inj ho)
      clear hty ho
      refine step_pure (.bool V) (wanted_free rfl) ?_ (Ext.refl _) rfl
      simp [execOp, Act.eval, h23, go_sem]
    | (j + 20), ho => exact absurd ho (by simp)
  · intro tmps w7 hle hs hfr hty
    have h0 : tmps[4]?.getD undef = .bool V := hty 19 4 rfl
    have hfe := frame_eq [4, 5, 6, 7, 8, 9, 10, 11, 12, 13, 14, 15, 16, 17, 18, 19, 20, 21, 22, 23] hs hfr (by kernel_rfl)
    rw [hfe]
    clear hfe hfr hs hty
    simp only [List.foldl_cons, List.foldl_nil]
    rw [h0]
    clear h0
    simp only [List.setIfInBounds_toArray, List.set_cons_succ, List.set_cons_zero]
    go_wp2_with fail
    go_ret
    exact ⟨rfl, HX.out.trans hle⟩

theorem esame_any (a b : EZ) (ra rb : Value) (w : World) (ha : ValsAt w ra a.v) (hb : ValsAt w rb b.v) : Calls Try.prog 17 #[evv a ra, evv b rb] w (Says w (.bool (sameEv a b))) := by
  rw [same_parts]
  exact esame_in a b ra rb w _ _ _ rfl rfl fun W h => eequalv_any a.v b.v ra rb W (ha.ext h) (hb.ext h)

/-- what the slots of the region hold -/
def esrtdG (g o n9 c j : Nat) (a b : EZ) (ra rb : Value) : Nat → Value → World → Prop
  | 0, v, _ => v = .slice (some ⟨g, o, none⟩) n9 c
  | 1, v, _ => v = .int .i64 ((j : Int) + 1)
  | 2, v, _ => v = .int .i64 (j : Int)
  | 3, v, _ => v = .pointer (some ⟨g, o + j * 5, none⟩)
  | 4, v, _ => v = evv a ra
  | 5, v, _ => v = idv a
  | 6, v, _ => v = .slice (some ⟨g, o, none⟩) n9 c
  | 7, v, _ => v = .int .i64 ((j : Int) + 1)
  | 8, v, _ => v = .pointer (some ⟨g, o + (j + 1) * 5, none⟩)
  | 9, v, _ => v = evv b rb
  | 10, v, _ => v = idv b
  | 11, v, _ => v = .bool (lessE a b)
  | 12, v, _ => v = .bool (!lessE a b)
  | _, _, _ => True
theorem esrtdG_st (g o n9 c j : Nat) (a b : EZ) (ra rb : Value) : ∀ i9 z9 x9 y9, esrtdG g o n9 c j a b ra rb i9 z9 x9 → Ext x9 y9 → esrtdG g o n9 c j a b ra rb i9 z9 y9 := by
  intro i9 z9 x9 y9 h e
  unfold esrtdG at *
  split at h <;> first | exact h | trivial

set_option maxRecDepth 100000 in
set_option maxHeartbeats 4000000 in
theorem esorted_any (L : List EZ) (v : Value) (w : World) (hv : EventsAt w v L) : Calls Try.prog 12 #[v] w (Says w (.bool (sortedE L))) := by
  have HV := hid hv
  obtain ⟨A, c, rfl, _, q1⟩ := hv.shape
  clear hv
  have hml : (L.length : Int) ≤ 9223372036854775807 := by unfold maxLen at q1; omega
  have HO := hid (show sortedE L = sortedE (L.drop 0) from rfl)
  generalize sortedE L = R at *
  go_enter Try.func12, Try.ntmps12
  go_wp2_with fail
  go_loopw [3] (fun x wr => ∃ j : Nat, j ≤ L.length ∧ x = .int .i64 ((j : Int) + 1) ∧ Hid (R = sortedE (L.drop j)) ∧ Ext w wr)
    (fun x _ => L.length + 1 - (intOf x).toNat)
  case atStart => exact ⟨0, by omega, rfl, hid HO.out, Ext.refl _⟩
  case round =>
    obtain ⟨j, hj, rfl, ho, hext⟩ := hrel
    have HE := hid hext
    clear hext
    by_cases hlt : j + 1 < L.length
    · have hlt' : (j : Int) + 1 < (L.length : Int) := by omega
      have hltj : j < L.length := by omega
      obtain ⟨g, o, c', ra, e1, _, _, p0, p1, p2, p3, p4, hva⟩ := (HV.out.ext HE.out).open_ hltj
      obtain ⟨rfl, rfl⟩ : A = some ⟨g, o, none⟩ ∧ c = c' := by simpa using e1
      obtain ⟨g', o', c'', rb, e2, _, _, q0, q1, q2, q3, q4, hvb⟩ := (HV.out.ext HE.out).open_ hlt
      obtain ⟨⟨rfl, rfl⟩, rfl⟩ : (g = g' ∧ o = o') ∧ c = c'' := by simpa using e2
      have HAT := hid (sortedE_at hlt)
      generalize hT : L[j] = a at *
      generalize hS : L[j + 1] = b at *
      clear e1 e2 hT hS hva hvb
      go_wp2_with fail
      refine wp_region_slots Ext (esrtdG g o L.length c j a b ra rb) (by kernel_rfl) Ext.trans Ext.refl (Ext.drew _) (esrtdG_st _ _ _ _ _ _ _ _ _) (by kernel_rfl) ?_ ?_
      · intro tmps wr hle hfr jj o9 ho hty
        have h0 : tmps[0]?.getD undef = .slice (some ⟨g, o, none⟩) L.length c := hfr 0 (by kernel_rfl)
        have h3 : tmps[3]?.getD undef = .int .i64 ((j : Int) + 1) := hfr 3 (by kernel_rfl)
        have p0 := hle.cell p0
        have p1 := hle.cell p1
        have p2 := hle.cell p2
        have p3 := hle.cell p3
        have p4 := hle.cell p4
        have q0 := hle.cell q0
        have q1 := hle.cell q1
        have q2 := hle.cell q2
        have q3 := hle.cell q3
        have q4 := hle.cell q4
        have hby : (j : Int) + 1 < (L.length : Int) := by omega
        have hbx : (j : Int) < (L.length : Int) := by omega
        have hneg : ¬ (j : Int) + 1 < 0 := by omega
        have hcast : ((j : Int) + 1).toNat = j + 1 := by omega
        have hsub : (j : Int) + 1 - 1 = (j : Int) := by omega
        have hsub2 : IntKind.i64.wrap (j : Int) = (j : Int) := iwrap _ (by omega) (by omega)
        clear hfr
        match jj, ho with
        | 0, ho =>
          obtain rfl := (Option.some.inj ho)
          clear hty ho
          refine step_pure (.slice (some ⟨g, o, none⟩) L.length c) (wanted_free rfl) ?_ (Ext.refl _) rfl
          simp [execOp, Act.eval, h0, go_sem]
        | 1, ho =>
          obtain rfl := (Option.some.inj ho)
          clear hty ho
          refine step_pure (.int .i64 ((j : Int) + 1)) (wanted_free rfl) ?_ (Ext.refl _) rfl
          simp [execOp, Act.eval, h3, go_sem]
        | 2, ho =>
          have h11 : tmps[11]?.getD undef = .int .i64 ((j : Int) + 1) := hty 1 11 rfl (by obtain rfl := (Option.some.inj ho); rfl)
          obtain rfl := (Option.some.inj ho)
          clear hty ho
          refine step_pure (.int .i64 (j : Int)) (wanted_free rfl) ?_ (Ext.refl _) rfl
          simp [execOp, Act.eval, h11, hsub, hsub2, go_sem]
        | 3, ho =>
          have h10 : tmps[10]?.getD undef = .slice (some ⟨g, o, none⟩) L.length c := hty 0 10 rfl (by obtain rfl := (Option.some.inj ho); rfl)
          have h12 : tmps[12]?.getD undef = .int .i64 (j : Int) := hty 2 12 rfl (by obtain rfl := (Option.some.inj ho); rfl)
          obtain rfl := (Option.some.inj ho)
          clear hty ho
          refine step_pure (.pointer (some ⟨g, o + j * 5, none⟩)) (wanted_free rfl) ?_ (Ext.refl _) rfl
          simp [execOp, Act.eval, h10, h12, hbx, go_sem]
        | 4, ho =>
          have h13 : tmps[13]?.getD undef = .pointer (some ⟨g, o + j * 5, none⟩) := hty 3 13 rfl (by obtain rfl := (Option.some.inj ho); rfl)
          obtain rfl := (Option.some.inj ho)
          clear hty ho
          refine step_pure (evv a ra) (wanted_free rfl) ?_ (Ext.refl _) rfl
          simp [execOp, Act.eval, h13, evv, p0, p1, p2, p3, p4, go_sem]
        | 5, ho =>
          have h14 : tmps[14]?.getD undef = evv a ra := hty 4 14 rfl (by obtain rfl := (Option.some.inj ho); rfl)
          obtain rfl := (Option.some.inj ho)
          clear hty ho
          refine step_call 14 #[evv a ra] (wanted_free rfl) ?_ ?_
          · simp [execOp, Act.eval, h14, go_sem]
          · exact (eid_any a ra _).mono fun e w' ⟨h1, h2⟩ => ⟨_, h1, h2, rfl⟩
        | 6, ho =>
          obtain rfl := (Option.some.inj ho)
          clear hty ho
          refine step_pure (.slice (some ⟨g, o, none⟩) L.length c) (wanted_free rfl) ?_ (Ext.refl _) rfl
          simp [execOp, Act.eval, h0, go_sem]
        | 7, ho =>
          obtain rfl := (Option.some.inj ho)
          clear hty ho
          refine step_pure (.int .i64 ((j : Int) + 1)) (wanted_free rfl) ?_ (Ext.refl _) rfl
          simp [execOp, Act.eval, h3, go_sem]
        | 8, ho =>
          have h16 : tmps[16]?.getD undef = .slice (some ⟨g, o, none⟩) L.length c := hty 6 16 rfl (by obtain rfl := (Option.some.inj ho); rfl)
          have h17 : tmps[17]?.getD undef = .int .i64 ((j : Int) + 1) := hty 7 17 rfl (by obtain rfl := (Option.some.inj ho); rfl)
          obtain rfl := (Option.some.inj ho)
          clear hty ho
          refine step_pure (.pointer (some ⟨g, o + (j + 1) * 5, none⟩)) (wanted_free rfl) ?_ (Ext.refl _) rfl
          simp [execOp, Act.eval, h16, h17, hby, hneg, hcast, go_sem]
        | 9, ho =>
          have h18 : tmps[18]?.getD undef = .pointer (some ⟨g, o + (j + 1) * 5, none⟩) := hty 8 18 rfl (by obtain rfl := (Option.some.inj ho); rfl)
          obtain rfl := (Option.some.inj ho)
          clear hty ho
          refine step_pure (evv b rb) (wanted_free rfl) ?_ (Ext.refl _) rfl
          simp [execOp, Act.eval, h18, evv, q0, q1, q2, q3, q4, go_sem]
        | 10, ho =>
          have h19 : tmps[19]?.getD undef = evv b rb := hty 9 19 rfl (by obtain rfl := (Option.some.inj ho); rfl)
          obtain rfl := (Option.some.inj ho)
          clear hty ho
          refine step_call 14 #[evv b rb] (wanted_free rfl) ?_ ?_
          · simp [execOp, Act.eval, h19, go_sem]
          · exact (eid_any b rb _).mono fun e w' ⟨h1, h2⟩ => ⟨_, h1, h2, rfl⟩
        | 11, ho =>
          have h15 : tmps[15]?.getD undef = idv a := hty 5 15 rfl (by obtain rfl := (Option.some.inj ho); rfl)
          have h20 : tmps[20]?.getD undef = idv b := hty 10 20 rfl (by obtain rfl := (Option.some.inj ho); rfl)
          obtain rfl := (Option.some.inj ho)
          clear hty ho
          refine step_call 15 #[idv a, idv b] (wanted_free rfl) ?_ ?_
          · simp [execOp, Act.eval, h15, h20, go_sem]
          · exact (eless_any a b _).mono fun e w' ⟨h1, h2⟩ => ⟨_, h1, h2, rfl⟩
        | 12, ho =>
          have h21 : tmps[21]?.getD undef = .bool (lessE a b) := hty 11 21 rfl (by obtain rfl := (Option.some.inj ho); rfl)
          obtain rfl := (Option.some.inj ho)
          clear hty ho
          refine step_pure (.bool (!lessE a b)) (wanted_free rfl) ?_ (Ext.refl _) rfl
          simp [execOp, Act.eval, h21, go_sem]
        | (jj + 13), ho => exact absurd ho (by simp)
      · intro tmps w7 hle hs hfr hty
        have h0 : tmps[22]?.getD undef = .bool (!lessE a b) := hty 12 22 rfl
        have hfe := frame_eq [10, 11, 12, 13, 14, 15, 16, 17, 18, 19, 20, 21, 22] hs hfr (by kernel_rfl)
        rw [hfe]
        clear hfe hfr hs hty
        simp only [List.foldl_cons, List.foldl_nil]
        rw [h0]
        clear h0
        simp only [List.setIfInBounds_toArray, List.set_cons_succ, List.set_cons_zero]
        have HE7 := hid (HE.out.trans hle)
        clear hle p0 p1 p2 p3 p4 q0 q1 q2 q3 q4
        generalize lessE a b = Z at *
        cases Z
        · have HR := hid (ho.out.trans (by rw [HAT.out, Bool.false_and]) : R = false)
          go_wp2_with fail
          go_ret
          exact ⟨by rw [HR.out]; rfl, HE7.out⟩
        · have HR := hid (ho.out.trans (by rw [HAT.out, Bool.true_and]) : R = sortedE (L.drop (j + 1)))
          go_wp2_with fail
          go_roundw
          case rel => exact ⟨j + 1, by omega, by go_num, HR, HE7.out⟩
          case measure => simp only [intOf]; omega
    · have hlt' : ¬ (j : Int) + 1 < (L.length : Int) := by omega
      have HR := hid (ho.out.trans (sortedE_end (by omega)))
      go_wp2_with fail
      go_ret
      exact ⟨by rw [HR.out]; rfl, HE.out⟩
end Go.Proofs.Ytnldgmpfinlikaa
