/- Several texts in one: ER2, ER3. Conditions: those of each. -/
import Derived.Test.YtnldgmpfinlikaaER1
import Derived.Test.YtnldgmpfinlikaaBase
/- The document's Value, Same, SameAll, Sorted of events, and its place, by their contracts. Conditions: numbers within their kinds. -/
namespace Go.Proofs.Ytnldgmpfinlikaa
open Go Go.RowKit

def sameVE : List VZ → List VZ → Bool
  | [], [] => true
  | x :: r, y :: s => decide (x.k = y.k ∧ x.n = y.n ∧ x.b = y.b ∧ x.t = y.t) && sameVE r s
  | _, _ => false
def sameEv (a b : EZ) : Bool := decide (a.m = b.m ∧ a.o = b.o ∧ a.q = b.q ∧ a.n = b.n ∧ a.v.length = b.v.length) && sameVE a.v b.v
def sameEL : List EZ → List EZ → Bool
  | [], [] => true
  | a :: r, b :: s => sameEv a b && sameEL r s
  | _, _ => false
theorem sameV_iff : ∀ (V U : List VZ), sameVE V U = true ↔ V = U
  | [], [] => ⟨fun _ => rfl, fun _ => rfl⟩
  | [], _ :: _ => ⟨fun h => (by cases h), fun h => (by cases h)⟩
  | _ :: _, [] => ⟨fun h => (by cases h), fun h => (by cases h)⟩
  | x :: r, y :: s => by
    obtain ⟨xk, xn, xb, xt⟩ := x
    obtain ⟨yk, yn, yb, yt⟩ := y
    have ih := sameV_iff r s
    show (decide (xk = yk ∧ xn = yn ∧ xb = yb ∧ xt = yt) && sameVE r s) = true ↔ _
    rw [Bool.and_eq_true, decide_eq_true_iff, ih]
    constructor
    · rintro ⟨⟨rfl, rfl, rfl, rfl⟩, rfl⟩; rfl
    · intro h; cases h; exact ⟨⟨rfl, rfl, rfl, rfl⟩, rfl⟩
theorem sameEv_iff (a b : EZ) : sameEv a b = true ↔ a = b := by
  obtain ⟨am, ao, aq, an, av⟩ := a
  obtain ⟨bm, bo, bq, bn, bv⟩ := b
  show (decide (am = bm ∧ ao = bo ∧ aq = bq ∧ an = bn ∧ av.length = bv.length) && sameVE av bv) = true ↔ _
  rw [Bool.and_eq_true, decide_eq_true_iff, sameV_iff]
  constructor
  · rintro ⟨⟨rfl, rfl, rfl, rfl, _⟩, rfl⟩; rfl
  · intro h; cases h; exact ⟨⟨rfl, rfl, rfl, rfl, rfl⟩, rfl⟩
theorem sameEL_iff : ∀ (L M : List EZ), sameEL L M = true ↔ L = M
  | [], [] => ⟨fun _ => rfl, fun _ => rfl⟩
  | [], _ :: _ => ⟨fun h => (by cases h), fun h => (by cases h)⟩
  | _ :: _, [] => ⟨fun h => (by cases h), fun h => (by cases h)⟩
  | x :: r, y :: s => by
    have ih := sameEL_iff r s
    show (sameEv x y && sameEL r s) = true ↔ _
    rw [Bool.and_eq_true, sameEv_iff, ih]
    constructor
    · rintro ⟨rfl, rfl⟩; rfl
    · intro h; cases h; exact ⟨rfl, rfl⟩
theorem sameV_at {V U : List VZ} {i : Nat} (h : i < V.length) (hu : i < U.length) : sameVE (V.drop i) (U.drop i) = (decide (V[i].k = U[i].k ∧ V[i].n = U[i].n ∧ V[i].b = U[i].b ∧ V[i].t = U[i].t) && sameVE (V.drop (i + 1)) (U.drop (i + 1))) := by
  rw [List.drop_eq_getElem_cons h, List.drop_eq_getElem_cons hu]
  rfl
theorem sameEL_at {V U : List EZ} {i : Nat} (h : i < V.length) (hu : i < U.length) : sameEL (V.drop i) (U.drop i) = (sameEv V[i] U[i] && sameEL (V.drop (i + 1)) (U.drop (i + 1))) := by
  rw [List.drop_eq_getElem_cons h, List.drop_eq_getElem_cons hu]
  rfl
theorem sameEL_len {F G : List EZ} (h : F.length ≠ G.length) : sameEL F G = false := by
  rw [← Bool.not_eq_true, sameEL_iff]
  rintro rfl
  exact h rfl
theorem run_ne_rval (k : Nat) (n : Int) (b : Nat) (t : ByteArray) (l : Nat) (m : Int) (c : Nat) (u : ByteArray) (w : World) :
    (binOp .neq 62 (.agg #[.int .u8 (k : Int), .int .i64 n, .int .u64 (b : Int), .string t]) (.agg #[.int .u8 (l : Int), .int .i64 m, .int .u64 (c : Int), .string u])).run Try.prog w = .ok (.bool (!decide (k = l ∧ n = m ∧ b = c ∧ t = u))) w := by
  simp [go_sem]
  by_cases h4 : t = u
  · have h4' := (list_ba t u).2 h4
    by_cases h1 : k = l
    · by_cases h2 : n = m
      · by_cases h3 : b = c
        · simp [h1, h2, h3, h4]
        · have h3' : ¬ (b : Int) = (c : Int) := by omega
          simp [h1, h2, h3, h4, h3']
      · simp [h1, h2, h4]
    · have h1' : ¬ (k : Int) = (l : Int) := by omega
      simp [h1, h4, h1']
  · have h4' : ¬ t.toList = u.toList := fun h => h4 ((list_ba t u).1 h)
    simp [h4, h4']

set_option maxRecDepth 100000 in
set_option maxHeartbeats 4000000 in
theorem rsame7_any (a b : EZ) (ra rb : Value) (w : World) (ha : ValsAt w ra a.v) (hb : ValsAt w rb b.v) : Calls Try.prog 18 #[evv a ra, evv b rb] w (Says w (.bool (sameEv a b))) := by
  obtain ⟨am, ao, aq, an, V⟩ := a
  obtain ⟨bm, bo, bq, bn, U⟩ := b
  dsimp only at *
  have hl : sameEv ⟨am, ao, aq, an, V⟩ ⟨bm, bo, bq, bn, U⟩ = (decide (am = bm ∧ ao = bo ∧ aq = bq ∧ an = bn ∧ V.length = U.length) && sameVE (V.drop 0) (U.drop 0)) := rfl
  generalize sameEv ⟨am, ao, aq, an, V⟩ ⟨bm, bo, bq, bn, U⟩ = R at *
  have HV := hid ha
  have HU := hid hb
  obtain ⟨A, c, rfl, _, q1, _⟩ := ha
  obtain ⟨A2, c2, rfl, _, q2, _⟩ := hb
  have hml : (V.length : Int) ≤ 9223372036854775807 := by unfold maxLen at q1; omega
  have hml2 : (U.length : Int) ≤ 9223372036854775807 := by unfold maxLen at q2; omega
  show Calls _ _ #[.agg #[.int .i64 am, .int .i64 ao, .int .i64 aq, .string an, .slice A V.length c], .agg #[.int .i64 bm, .int .i64 bo, .int .i64 bq, .string bn, .slice A2 U.length c2]] _ _
  have HX := hid ((Ext.alloc w (Obj.cells #[.int .i64 am, .int .i64 ao, .int .i64 aq, .string an, .slice A V.length c] 43 (0, 0))).then_alloc (Obj.cells #[.int .i64 bm, .int .i64 bo, .int .i64 bq, .string bn, .slice A2 U.length c2] 43 (0, 0)))
  have HB2 := hid (heap_alloc2_new w (Obj.cells #[.int .i64 am, .int .i64 ao, .int .i64 aq, .string an, .slice A V.length c] 43 (0, 0)) (Obj.cells #[.int .i64 bm, .int .i64 bo, .int .i64 bq, .string bn, .slice A2 U.length c2] 43 (0, 0)))
  have HB1 := hid (heap_alloc2_old w (Obj.cells #[.int .i64 am, .int .i64 ao, .int .i64 aq, .string an, .slice A V.length c] 43 (0, 0)) (Obj.cells #[.int .i64 bm, .int .i64 bo, .int .i64 bq, .string bn, .slice A2 U.length c2] 43 (0, 0)))
  obtain ⟨⟨a0, a1, a2, a3, a4⟩, _, _⟩ := box5 HB1.out
  obtain ⟨⟨b0, b1, b2, b3, b4⟩, _, _⟩ := box5 HB2.out
  have HL := hid hl
  clear hl
  have stop : ∀ (_ : ¬ (am = bm ∧ ao = bo ∧ aq = bq ∧ an = bn ∧ V.length = U.length)), R = false := fun h => by rw [HL.out, decide_eq_false h, Bool.false_and]
  rcases order3 am bm with ⟨h1, h2, _⟩ | ⟨h1, h2, _⟩
  · have HR := hid (stop (fun h => h1 h.1))
    clear h1 stop
    go_enter Try.func18, Try.ntmps18
    go_wp2_with fail
    go_ret
    exact ⟨by rw [HR.out]; rfl, HX.out⟩
  · rcases order3 ao bo with ⟨k1, k2, _⟩ | ⟨k1, k2, _⟩
    · have HR := hid (stop (fun h => k1 h.2.1))
      clear h1 k1 stop
      go_enter Try.func18, Try.ntmps18
      go_wp2_with fail
      go_ret
      exact ⟨by rw [HR.out]; rfl, HX.out⟩
    · rcases order3 aq bq with ⟨l1, l2, _⟩ | ⟨l1, l2, _⟩
      · have HR := hid (stop (fun h => l1 h.2.2.1))
        clear h1 k1 l1 stop
        go_enter Try.func18, Try.ntmps18
        go_wp2_with fail
        go_ret
        exact ⟨by rw [HR.out]; rfl, HX.out⟩
      · by_cases hn : an = bn
        · have hnb : (an.toList == bn.toList) = true := beq_iff_eq.2 (by rw [hn])
          have hnb2 : (!(an.toList == bn.toList)) = false := by rw [hnb]; rfl
          by_cases hlen : V.length = U.length
          · have hl' : ((V.length : Int) != (U.length : Int)) = false := bne_eq_false_iff_eq.2 (by omega)
            have HR := hid (HL.out.trans (by rw [decide_eq_true ⟨h1, k1, l1, hn, hlen⟩, Bool.true_and]) : R = sameVE (V.drop 0) (U.drop 0))
            have HLEN := hid hlen
            clear h1 k1 l1 hn hlen stop
            go_enter Try.func18, Try.ntmps18
            go_wp2_with fail
            obtain ⟨W0, hW0⟩ : ∃ W0, W0 = (w.alloc (Obj.cells #[.int .i64 am, .int .i64 ao, .int .i64 aq, .string an, .slice A V.length c] 43 (0, 0))).alloc (Obj.cells #[.int .i64 bm, .int .i64 bo, .int .i64 bq, .string bn, .slice A2 U.length c2] 43 (0, 0)) := ⟨_, rfl⟩
            rw [← hW0] at HX a4 b4 ⊢
            clear hW0 a0 a1 a2 a3 b0 b1 b2 b3 HB1 HB2
            go_loopw [5] (fun x wr => ∃ i : Nat, i ≤ V.length ∧ x = .int .i64 (i : Int) ∧ Hid (R = sameVE (V.drop i) (U.drop i)) ∧ Ext W0 wr)
              (fun x _ => V.length - (intOf x).toNat)
            case atStart => exact ⟨0, by omega, rfl, hid HR.out, Ext.refl _⟩
            case round =>
              obtain ⟨i, hi, rfl, ho, hext⟩ := hrel
              have HE := hid hext
              have a4t : wr.cell? ⟨w.heap.size, 4, none⟩ = some (.slice A V.length c) := hext.cell a4
              have b4t : wr.cell? ⟨w.heap.size + 1, 4, none⟩ = some (.slice A2 U.length c2) := hext.cell b4
              clear hext
              by_cases hlt : i < V.length
              · have hltU : i < U.length := by have := HLEN.out; omega
                obtain ⟨g, o, c', e1, v0, v1, v2, v3⟩ := ((HV.out.ext HX.out).ext HE.out).open_ hlt
                obtain ⟨rfl, rfl⟩ : A = some ⟨g, o, none⟩ ∧ c = c' := by simpa using e1
                obtain ⟨g2, o2, c'', e2, u0, u1, u2, u3⟩ := ((HU.out.ext HX.out).ext HE.out).open_ hltU
                obtain ⟨rfl, rfl⟩ : A2 = some ⟨g2, o2, none⟩ ∧ c2 = c'' := by simpa using e2
                have HJ := hid (sameV_at hlt hltU)
                generalize hT : V[i] = T at *
                generalize hS : U[i] = S at *
                obtain ⟨k5, n5, b5, t5⟩ := T
                obtain ⟨k6, n6, b6, t6⟩ := S
                dsimp only at *
                have hne := fun W => run_ne_rval k5 n5 b5 t5 k6 n6 b6 t6 W
                generalize decide (k5 = k6 ∧ n5 = n6 ∧ b5 = b6 ∧ t5 = t6) = Z at *
                clear e1 e2 hT hS
                cases Z
                · have HR2 := hid (ho.out.trans (by rw [HJ.out, Bool.false_and]) : R = false)
                  rw [Bool.not_false] at hne
                  go_wp2_with fail
                  go_quiet (fail)
                  go_wp2_with fail
                  go_ret
                  exact ⟨by rw [HR2.out]; rfl, (HX.out.trans HE.out).trans (Ext.drewN _ _)⟩
                · have HR2 := hid (ho.out.trans (by rw [HJ.out, Bool.true_and]) : R = sameVE (V.drop (i + 1)) (U.drop (i + 1)))
                  rw [Bool.not_true] at hne
                  go_wp2_with fail
                  go_quiet (fail)
                  go_wp2_with fail
                  go_roundw
                  case rel => exact ⟨i + 1, by omega, by go_num, HR2, HE.out.trans (Ext.drewN _ _)⟩
                  case measure => simp only [intOf]; omega
              · have hi' : i = V.length := by omega
                subst hi'
                go_wp2_with fail
                go_ret
                exact ⟨by rw [ho.out, List.drop_length, HLEN.out, List.drop_length]; rfl, HX.out.trans HE.out⟩
          · have HR := hid (stop (fun h => hlen h.2.2.2.2))
            have hl' : ((V.length : Int) != (U.length : Int)) = true := bne_iff_ne.2 (by omega)
            clear h1 k1 l1 hn hlen stop
            go_enter Try.func18, Try.ntmps18
            go_wp2_with fail
            go_ret
            exact ⟨by rw [HR.out]; rfl, HX.out⟩
        · have HR := hid (stop (fun h => hn h.2.2.2.1))
          have hnb : (an.toList == bn.toList) = false := beq_eq_false_iff_ne.2 (fun e => hn ((list_ba an bn).1 e))
          have hnb2 : (!(an.toList == bn.toList)) = true := by rw [hnb]; rfl
          clear h1 k1 l1 hn stop
          go_enter Try.func18, Try.ntmps18
          go_wp2_with fail
          go_ret
          exact ⟨by rw [HR.out]; rfl, HX.out⟩
end Go.Proofs.Ytnldgmpfinlikaa

/- The document's Value, SameAll, Sorted, place of events, by their contracts. Conditions: numbers within their kinds. (Written by tools/mker3.py.) -/
namespace Go.Proofs.Ytnldgmpfinlikaa
open Go Go.RowKit

def esameG (g o n9 c9 g2 o2 n8 c8 i : Nat) (a b : EZ) (ra rb : Value) : Nat → Value → World → Prop
  | 0, v, _ => v = .slice (some ⟨g, o, none⟩) n9 c9
  | 1, v, _ => v = .int .i64 (i : Int)
  | 2, v, _ => v = .pointer (some ⟨g, o + i * 5, none⟩)
  | 3, v, _ => v = evv a ra
  | 4, v, _ => v = .slice (some ⟨g2, o2, none⟩) n8 c8
  | 5, v, _ => v = .int .i64 (i : Int)
  | 6, v, _ => v = .pointer (some ⟨g2, o2 + i * 5, none⟩)
  | 7, v, _ => v = evv b rb
  | _, _, _ => True
theorem esameG_st (g o n9 c9 g2 o2 n8 c8 i : Nat) (a b : EZ) (ra rb : Value) : ∀ i9 z9 x9 y9, esameG g o n9 c9 g2 o2 n8 c8 i a b ra rb i9 z9 x9 → Ext x9 y9 → esameG g o n9 c9 g2 o2 n8 c8 i a b ra rb i9 z9 y9 := by
  intro i9 z9 x9 y9 h e
  unfold esameG at *
  split at h <;> first | exact h | exact h.ext e | trivial

set_option maxRecDepth 100000 in
set_option maxHeartbeats 8000000 in
theorem rsameall7_any (L M : List EZ) (v u : Value) (w : World) (hv : EventsAt w v L) (hu : EventsAt w u M) : Calls Try.prog 9 #[v, u] w (Says w (.bool (sameEL L M))) := by
  have HV := hid hv
  have HU := hid hu
  obtain ⟨A, c, rfl, _, q1⟩ := hv.shape
  obtain ⟨A2, c2, rfl, _, q2⟩ := hu.shape
  clear hv hu
  have hml : (L.length : Int) ≤ 9223372036854775807 := by unfold maxLen at q1; omega
  have hml2 : (M.length : Int) ≤ 9223372036854775807 := by unfold maxLen at q2; omega
  by_cases hl : L.length = M.length
  · have HO := hid (show sameEL L M = sameEL (L.drop 0) (M.drop 0) from rfl)
    generalize sameEL L M = R at *
    have hl' : ((L.length : Int) != (M.length : Int)) = false := bne_eq_false_iff_eq.2 (by omega)
    have HL := hid hl
    clear hl
    go_enter Try.func9, Try.ntmps9
    go_wp2_with fail
    go_loopw [5] (fun x wr => ∃ i : Nat, i ≤ L.length ∧ x = .int .i64 (i : Int) ∧ Hid (R = sameEL (L.drop i) (M.drop i)) ∧ Ext w wr)
      (fun x _ => L.length - (intOf x).toNat)
    case atStart => exact ⟨0, by omega, rfl, hid HO.out, Ext.refl _⟩
    case round =>
      obtain ⟨i, hi, rfl, ho, hext⟩ := hrel
      have HE := hid hext
      clear hext
      by_cases hlt : i < L.length
      · have hltM : i < M.length := by have := HL.out; omega
        obtain ⟨g, o, c', ra, e1, _, _, d0, d1, d2, d3, d4, hva⟩ := (HV.out.ext HE.out).open_ hlt
        obtain ⟨rfl, rfl⟩ : A = some ⟨g, o, none⟩ ∧ c = c' := by simpa using e1
        obtain ⟨g2, o2, c'', rb, e2, _, _, k0, k1, k2, k3, k4, hvb⟩ := (HU.out.ext HE.out).open_ hltM
        obtain ⟨rfl, rfl⟩ : A2 = some ⟨g2, o2, none⟩ ∧ c2 = c'' := by simpa using e2
        have HAT := hid (sameEL_at hlt hltM)
        have HVA := hid hva
        have HVB := hid hvb
        generalize hT : L[i] = a at *
        generalize hS : M[i] = b at *
        clear e1 e2 hT hS hva hvb
        go_wp2_with fail
        refine wp_region_tail 8 Ext (esameG g o L.length c g2 o2 M.length c2 i a b ra rb) (by kernel_rfl) Ext.trans Ext.refl (Ext.drew _) (esameG_st _ _ _ _ _ _ _ _ _ _ _ _ _) (by kernel_rfl) (by kernel_rfl) ?_ ?_
        · intro tmps df wq hle hfr jj oo hjj hoo hty
          have h0 : tmps[0]?.getD undef = .slice (some ⟨g, o, none⟩) L.length c := hfr 0 (by kernel_rfl)
          have h1 : tmps[1]?.getD undef = .slice (some ⟨g2, o2, none⟩) M.length c2 := hfr 1 (by kernel_rfl)
          have h5 : tmps[5]?.getD undef = .int .i64 (i : Int) := hfr 5 (by kernel_rfl)
          have d0 := hle.cell d0
          have d1 := hle.cell d1
          have d2 := hle.cell d2
          have d3 := hle.cell d3
          have d4 := hle.cell d4
          have k0 := hle.cell k0
          have k1 := hle.cell k1
          have k2 := hle.cell k2
          have k3 := hle.cell k3
          have k4 := hle.cell k4
          have hbx : (i : Int) < (L.length : Int) := by omega
          have hby : (i : Int) < (M.length : Int) := by omega
          clear hfr
          match jj, hoo, hjj with
          | 0, hoo, _ =>
            obtain rfl := (Option.some.inj hoo)
            clear hty hoo
            refine step_pure (.slice (some ⟨g, o, none⟩) L.length c) (wanted_free rfl) ?_ (Ext.refl _) rfl
            simp [execOp, Act.eval, h0, go_sem]
          | 1, hoo, _ =>
            obtain rfl := (Option.some.inj hoo)
            clear hty hoo
            refine step_pure (.int .i64 (i : Int)) (wanted_free rfl) ?_ (Ext.refl _) rfl
            simp [execOp, Act.eval, h5, go_sem]
          | 2, hoo, _ =>
            have h17 : tmps[17]?.getD undef = .slice (some ⟨g, o, none⟩) L.length c := hty 0 17 (by kernel_rfl) (by obtain rfl := (Option.some.inj hoo); rfl)
            have h18 : tmps[18]?.getD undef = .int .i64 (i : Int) := hty 1 18 (by kernel_rfl) (by obtain rfl := (Option.some.inj hoo); rfl)
            obtain rfl := (Option.some.inj hoo)
            clear hty hoo
            refine step_pure (.pointer (some ⟨g, o + i * 5, none⟩)) (wanted_free rfl) ?_ (Ext.refl _) rfl
            simp [execOp, Act.eval, h17, h18, hbx, go_sem]
          | 3, hoo, _ =>
            have h19 : tmps[19]?.getD undef = .pointer (some ⟨g, o + i * 5, none⟩) := hty 2 19 (by kernel_rfl) (by obtain rfl := (Option.some.inj hoo); rfl)
            obtain rfl := (Option.some.inj hoo)
            clear hty hoo
            refine step_pure (evv a ra) (wanted_free rfl) ?_ (Ext.refl _) rfl
            simp [execOp, Act.eval, h19, evv, d0, d1, d2, d3, d4, go_sem]
          | 4, hoo, _ =>
            obtain rfl := (Option.some.inj hoo)
            clear hty hoo
            refine step_pure (.slice (some ⟨g2, o2, none⟩) M.length c2) (wanted_free rfl) ?_ (Ext.refl _) rfl
            simp [execOp, Act.eval, h1, go_sem]
          | 5, hoo, _ =>
            obtain rfl := (Option.some.inj hoo)
            clear hty hoo
            refine step_pure (.int .i64 (i : Int)) (wanted_free rfl) ?_ (Ext.refl _) rfl
            simp [execOp, Act.eval, h5, go_sem]
          | 6, hoo, _ =>
            have h21 : tmps[21]?.getD undef = .slice (some ⟨g2, o2, none⟩) M.length c2 := hty 4 21 (by kernel_rfl) (by obtain rfl := (Option.some.inj hoo); rfl)
            have h22 : tmps[22]?.getD undef = .int .i64 (i : Int) := hty 5 22 (by kernel_rfl) (by obtain rfl := (Option.some.inj hoo); rfl)
            obtain rfl := (Option.some.inj hoo)
            clear hty hoo
            refine step_pure (.pointer (some ⟨g2, o2 + i * 5, none⟩)) (wanted_free rfl) ?_ (Ext.refl _) rfl
            simp [execOp, Act.eval, h21, h22, hby, go_sem]
          | 7, hoo, _ =>
            have h23 : tmps[23]?.getD undef = .pointer (some ⟨g2, o2 + i * 5, none⟩) := hty 6 23 (by kernel_rfl) (by obtain rfl := (Option.some.inj hoo); rfl)
            obtain rfl := (Option.some.inj hoo)
            clear hty hoo
            refine step_pure (evv b rb) (wanted_free rfl) ?_ (Ext.refl _) rfl
            simp [execOp, Act.eval, h23, evv, k0, k1, k2, k3, k4, go_sem]
          | (jj + 8), _, hjj => omega
        · intro tmps w7 hle hs hfr hty
          have h20 : tmps[20]?.getD undef = evv a ra := hty 3 20 (by kernel_rfl)
          have h24 : tmps[24]?.getD undef = evv b rb := hty 7 24 (by kernel_rfl)
          have hfe := nframe_eq [17, 18, 19, 20, 21, 22, 23, 24] hs hfr (by kernel_rfl)
          rw [hfe]
          clear hfe hfr hs hty
          simp only [List.foldl_cons, List.foldl_nil]
          rw [h20, h24]
          generalize tmps[17]?.getD undef = x17
          generalize tmps[18]?.getD undef = x18
          generalize tmps[19]?.getD undef = x19
          generalize tmps[21]?.getD undef = x21
          generalize tmps[22]?.getD undef = x22
          generalize tmps[23]?.getD undef = x23
          clear h20 h24
          simp only [List.drop_succ_cons, List.drop_zero, List.setIfInBounds_toArray, List.set_cons_succ, List.set_cons_zero]
          have kk := rsame7_any a b ra rb w7 (HVA.out.ext hle) (HVB.out.ext hle)
          have HE7 := hid (HE.out.trans hle)
          generalize sameEv a b = Z at *
          clear hle
          cases Z
          · have HR := hid (ho.out.trans (by rw [HAT.out, Bool.false_and]) : R = false)
            go_wp2_with (go_at_call 18; refine kk.mono ?_; rintro e8 w8 ⟨rfl, hx8⟩)
            go_ret
            exact ⟨by rw [HR.out]; rfl, HE7.out.trans hx8⟩
          · have HR := hid (ho.out.trans (by rw [HAT.out, Bool.true_and]) : R = sameEL (L.drop (i + 1)) (M.drop (i + 1)))
            go_wp2_with (go_at_call 18; refine kk.mono ?_; rintro e8 w8 ⟨rfl, hx8⟩)
            go_roundw
            case rel => exact ⟨i + 1, by omega, by go_num, HR, HE7.out.trans hx8⟩
            case measure => simp only [intOf]; omega
      · have hi' : i = L.length := by omega
        subst hi'
        go_wp2_with fail
        go_ret
        exact ⟨by rw [ho.out, List.drop_length, HL.out, List.drop_length]; rfl, HE.out⟩
  · rw [sameEL_len hl]
    have hl' : ((L.length : Int) != (M.length : Int)) = true := bne_iff_ne.2 (by omega)
    clear hl
    go_enter Try.func9, Try.ntmps9
    go_wp2_with fail
    go_ret
    exact ⟨rfl, Ext.refl _⟩
end Go.Proofs.Ytnldgmpfinlikaa

