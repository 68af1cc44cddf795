/- The document's Value, Same, SameAll, Sorted of events, and its place, by their contracts. Conditions: numbers within their kinds. -/
import Derived.Test.YtnldgmpfinlikaaGreatER1
import Derived.Test.YtnldgmpfinlikaaGreatBase
namespace Go.Proofs.YtnldgmpfinlikaaGreat
open Go Go.RowKit

def sameVE : List VZ → List VZ → Bool
  | [], [] => true
  | x :: r, y :: s => decide (x.k = y.k ∧ x.n = y.n ∧ x.b = y.b ∧ x.t = y.t) && sameVE r s
  | _, _ => false
def sameEv (a b : EZ) : Bool := decide (a.m = b.m ∧ a.o = b.o ∧ a.q = b.q ∧ a.n = b.n ∧ a.v.length = b.v.length) && sameVE a.v b.v
theorem sameV_iff : ∀ (V U : List VZ), sameVE V U = true ↔ V = U
  | [], [] => ⟨fun _ => rfl, fun _ => rfl⟩
  | [], _ :: _ => ⟨fun h => (by cases h), fun h => (by cases h)⟩
  | _ :: _, [] => ⟨fun h => (by cases h), fun h => (by cases h)⟩
  | x :: r, y :: s => by
    obtain ⟨xk, xn, xb, xt⟩ := x
    obtain ⟨yk, yn, yb, yt⟩ := y
    have ih := sameV_iff r s
    show (decide (xk = yk ∧ xn = yn ∧ xb = yb ∧ xt = yt) && sameVE r s) = true ↔ _
    rw [Bool.and_eq_true, decide_eq_true_iff, ih]
    constructor
    · rintro ⟨⟨rfl, rfl, rfl, rfl⟩, rfl⟩; rfl
    · intro h; cases h; exact ⟨⟨rfl, rfl, rfl, rfl⟩, rfl⟩
theorem sameEv_iff (a b : EZ) : sameEv a b = true ↔ a = b := by
  obtain ⟨am, ao, aq, an, av⟩ := a
  obtain ⟨bm, bo, bq, bn, bv⟩ := b
  show (decide (am = bm ∧ ao = bo ∧ aq = bq ∧ an = bn ∧ av.length = bv.length) && sameVE av bv) = true ↔ _
  rw [Bool.and_eq_true, decide_eq_true_iff, sameV_iff]
  constructor
  · rintro ⟨⟨rfl, rfl, rfl, rfl, _⟩, rfl⟩; rfl
  · intro h; cases h; exact ⟨⟨rfl, rfl, rfl, rfl, rfl⟩, rfl⟩
theorem sameV_at {V U : List VZ} {i : Nat} (h : i < V.length) (hu : i < U.length) : sameVE (V.drop i) (U.drop i) = (decide (V[i].k = U[i].k ∧ V[i].n = U[i].n ∧ V[i].b = U[i].b ∧ V[i].t = U[i].t) && sameVE (V.drop (i + 1)) (U.drop (i + 1))) := by
  rw [List.drop_eq_getElem_cons h, List.drop_eq_getElem_cons hu]
  rfl
theorem run_ne_rval (k : Nat) (n : Int) (b : Nat) (t : ByteArray) (l : Nat) (m : Int) (c : Nat) (u : ByteArray) (w : World) :
    (binOp .neq 47 (.agg #[.int .u8 (k : Int), .int .i64 n, .int .u64 (b : Int), .string t]) (.agg #[.int .u8 (l : Int), .int .i64 m, .int .u64 (c : Int), .string u])).run Tryz.prog w = .ok (.bool (!decide (k = l ∧ n = m ∧ b = c ∧ t = u))) w := by
  simp [go_sem]
  by_cases h4 : t = u
  · have h4' := (list_ba t u).2 h4
    by_cases h1 : k = l
    · by_cases h2 : n = m
      · by_cases h3 : b = c
        · simp [h1, h2, h3, h4]
        · have h3' : ¬ (b : Int) = (c : Int) := by omega
          simp [h1, h2, h3, h4, h3']
      · simp [h1, h2, h4]
    · have h1' : ¬ (k : Int) = (l : Int) := by omega
      simp [h1, h4, h1']
  · have h4' : ¬ t.toList = u.toList := fun h => h4 ((list_ba t u).1 h)
    simp [h4, h4']

set_option maxRecDepth 100000 in
set_option maxHeartbeats 4000000 in
theorem rsame7_any (a b : EZ) (ra rb : Value) (w : World) (ha : ValsAt w ra a.v) (hb : ValsAt w rb b.v) : Calls Tryz.prog 18 #[evv a ra, evv b rb] w (Says w (.bool (sameEv a b))) := by
  obtain ⟨am, ao, aq, an, V⟩ := a
  obtain ⟨bm, bo, bq, bn, U⟩ := b
  dsimp only at *
  have hl : sameEv ⟨am, ao, aq, an, V⟩ ⟨bm, bo, bq, bn, U⟩ = (decide (am = bm ∧ ao = bo ∧ aq = bq ∧ an = bn ∧ V.length = U.length) && sameVE (V.drop 0) (U.drop 0)) := rfl
  generalize sameEv ⟨am, ao, aq, an, V⟩ ⟨bm, bo, bq, bn, U⟩ = R at *
  have HV := hid ha
  have HU := hid hb
  obtain ⟨A, c, rfl, _, q1, _⟩ := ha
  obtain ⟨A2, c2, rfl, _, q2, _⟩ := hb
  have hml : (V.length : Int) ≤ 9223372036854775807 := by unfold maxLen at q1; omega
  have hml2 : (U.length : Int) ≤ 9223372036854775807 := by unfold maxLen at q2; omega
  show Calls _ _ #[.agg #[.int .i64 am, .int .i64 ao, .int .i64 aq, .string an, .slice A V.length c], .agg #[.int .i64 bm, .int .i64 bo, .int .i64 bq, .string bn, .slice A2 U.length c2]] _ _
  have HX := hid ((Ext.alloc w (Obj.cells #[.int .i64 am, .int .i64 ao, .int .i64 aq, .string an, .slice A V.length c] 25 (0, 0))).then_alloc (Obj.cells #[.int .i64 bm, .int .i64 bo, .int .i64 bq, .string bn, .slice A2 U.length c2] 25 (0, 0)))
  have HB2 := hid (heap_alloc2_new w (Obj.cells #[.int .i64 am, .int .i64 ao, .int .i64 aq, .string an, .slice A V.length c] 25 (0, 0)) (Obj.cells #[.int .i64 bm, .int .i64 bo, .int .i64 bq, .string bn, .slice A2 U.length c2] 25 (0, 0)))
  have HB1 := hid (heap_alloc2_old w (Obj.cells #[.int .i64 am, .int .i64 ao, .int .i64 aq, .string an, .slice A V.length c] 25 (0, 0)) (Obj.cells #[.int .i64 bm, .int .i64 bo, .int .i64 bq, .string bn, .slice A2 U.length c2] 25 (0, 0)))
  obtain ⟨⟨a0, a1, a2, a3, a4⟩, _, _⟩ := box5 HB1.out
  obtain ⟨⟨b0, b1, b2, b3, b4⟩, _, _⟩ := box5 HB2.out
  have HL := hid hl
  clear hl
  have stop : ∀ (_ : ¬ (am = bm ∧ ao = bo ∧ aq = bq ∧ an = bn ∧ V.length = U.length)), R = false := fun h => by rw [HL.out, decide_eq_false h, Bool.false_and]
  rcases order3 am bm with ⟨h1, h2, _⟩ | ⟨h1, h2, _⟩
  · have HR := hid (stop (fun h => h1 h.1))
    clear h1 stop
    go_enter Tryz.func18, Tryz.ntmps18
    go_wp2_with fail
    go_ret
    exact ⟨by rw [HR.out]; rfl, HX.out⟩
  · rcases order3 ao bo with ⟨k1, k2, _⟩ | ⟨k1, k2, _⟩
    · have HR := hid (stop (fun h => k1 h.2.1))
      clear h1 k1 stop
      go_enter Tryz.func18, Tryz.ntmps18
      go_wp2_with fail
      go_ret
      exact ⟨by rw [HR.out]; rfl, HX.out⟩
    · rcases order3 aq bq with ⟨l1, l2, _⟩ | ⟨l1, l2, _⟩
      · have HR := hid (stop (fun h => l1 h.2.2.1))
        clear h1 k1 l1 stop
        go_enter Tryz.func18, Tryz.ntmps18
        go_wp2_with fail
        go_ret
        exact ⟨by rw [HR.out]; rfl, HX.out⟩
      · by_cases hn : an = bn
        · have hnb : (an.toList == bn.toList) = true := beq_iff_eq.2 (by rw [hn])
          have hnb2 : (!(an.toList == bn.toList)) = false := by rw [hnb]; rfl
          by_cases hlen : V.length = U.length
          · have hl' : ((V.length : Int) != (U.length : Int)) = false := bne_eq_false_iff_eq.2 (by omega)
            have HR := hid (HL.out.trans (by rw [decide_eq_true ⟨h1, k1, l1, hn, hlen⟩, Bool.true_and]) : R = sameVE (V.drop 0) (U.drop 0))
            have HLEN := hid hlen
            clear h1 k1 l1 hn hlen stop
            go_enter Tryz.func18, Tryz.ntmps18
            go_wp2_with fail
            obtain ⟨W0, hW0⟩ : ∃ W0, W0 = (w.alloc (Obj.cells #[.int .i64 am, .int .i64 ao, .int .i64 aq, .string an, .slice A V.length c] 25 (0, 0))).alloc (Obj.cells #[.int .i64 bm, .int .i64 bo, .int .i64 bq, .string bn, .slice A2 U.length c2] 25 (0, 0)) := ⟨_, rfl⟩
            rw [← hW0] at HX a4 b4 ⊢
            clear hW0 a0 a1 a2 a3 b0 b1 b2 b3 HB1 HB2
            go_loopw [5] (fun x wr => ∃ i : Nat, i ≤ V.length ∧ x = .int .i64 (i : Int) ∧ Hid (R = sameVE (V.drop i) (U.drop i)) ∧ Ext W0 wr)
              (fun x _ => V.length - (intOf x).toNat)
            case atStart => exact ⟨0, by omega, rfl, hid HR.out, Ext.refl _⟩
            case round =>
              obtain ⟨i, hi, rfl, ho, hext⟩ := hrel
              have HE := hid hext
              have a4t : wr.cell? ⟨w.heap.size, 4, none⟩ = some (.slice A V.length c) := hext.cell a4
              have b4t : wr.cell? ⟨w.heap.size + 1, 4, none⟩ = some (.slice A2 U.length c2) := hext.cell b4
              clear hext
              by_cases hlt : i < V.length
              · have hltU : i < U.length := by have := HLEN.out; omega
                obtain ⟨g, o, c', e1, v0, v1, v2, v3⟩ := ((HV.out.ext HX.out).ext HE.out).open_ hlt
                obtain ⟨rfl, rfl⟩ : A = some ⟨g, o, none⟩ ∧ c = c' := by simpa using e1
                obtain ⟨g2, o2, c'', e2, u0, u1, u2, u3⟩ := ((HU.out.ext HX.out).ext HE.out).open_ hltU
                obtain ⟨rfl, rfl⟩ : A2 = some ⟨g2, o2, none⟩ ∧ c2 = c'' := by simpa using e2
                have HJ := hid (sameV_at hlt hltU)
                generalize hT : V[i] = T at *
                generalize hS : U[i] = S at *
                obtain ⟨k5, n5, b5, t5⟩ := T
                obtain ⟨k6, n6, b6, t6⟩ := S
                dsimp only at *
                have hne := fun W => run_ne_rval k5 n5 b5 t5 k6 n6 b6 t6 W
                generalize decide (k5 = k6 ∧ n5 = n6 ∧ b5 = b6 ∧ t5 = t6) = Z at *
                clear e1 e2 hT hS
                cases Z
                · have HR2 := hid (ho.out.trans (by rw [HJ.out, Bool.false_and]) : R = false)
                  rw [Bool.not_false] at hne
                  go_wp2_with fail
                  go_quiet (fail)
                  go_wp2_with fail
                  go_ret
                  exact ⟨by rw [HR2.out]; rfl, (HX.out.trans HE.out).trans (Ext.drewN _ _)⟩
                · have HR2 := hid (ho.out.trans (by rw [HJ.out, Bool.true_and]) : R = sameVE (V.drop (i + 1)) (U.drop (i + 1)))
                  rw [Bool.not_true] at hne
                  go_wp2_with fail
                  go_quiet (fail)
                  go_wp2_with fail
                  go_roundw
                  case rel => exact ⟨i + 1, by omega, by go_num, HR2, HE.out.trans (Ext.drewN _ _)⟩
                  case measure => simp only [intOf]; omega
              · have hi' : i = V.length := by omega
                subst hi'
                go_wp2_with fail
                go_ret
                exact ⟨by rw [ho.out, List.drop_length, HLEN.out, List.drop_length]; rfl, HX.out.trans HE.out⟩
          · have HR := hid (stop (fun h => hlen h.2.2.2.2))
            have hl' : ((V.length : Int) != (U.length : Int)) = true := bne_iff_ne.2 (by omega)
            clear h1 k1 l1 hn hlen stop
            go_enter Tryz.func18, Tryz.ntmps18
            go_wp2_with fail
            go_ret
            exact ⟨by rw [HR.out]; rfl, HX.out⟩
        · have HR := hid (stop (fun h => hn h.2.2.2.1))
          have hnb : (an.toList == bn.toList) = false := beq_eq_false_iff_ne.2 (fun e => hn ((list_ba an bn).1 e))
          have hnb2 : (!(an.toList == bn.toList)) = true := by rw [hnb]; rfl
          clear h1 k1 l1 hn stop
          go_enter Tryz.func18, Tryz.ntmps18
          go_wp2_with fail
          go_ret
          exact ⟨by rw [HR.out]; rfl, HX.out⟩
end Go.Proofs.YtnldgmpfinlikaaGreat
