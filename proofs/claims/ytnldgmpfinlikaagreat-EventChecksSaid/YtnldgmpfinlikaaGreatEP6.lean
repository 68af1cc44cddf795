/- The landed program's Same and Sorted of events, by their contracts. Conditions: none. (Written by tools/mkep6.py.) -/
import Derived.Test.YtnldgmpfinlikaaGreatGEP1
import Derived.Test.YtnldgmpfinlikaaGreatGER1
import Derived.Test.YtnldgmpfinlikaaGreatBase
namespace Go.Proofs.YtnldgmpfinlikaaGreat
open Go Go.RowKit

/-- what the slots of the region hold -/
def esrtdG (g o n9 c j : Nat) (a b : EZ) (ra rb : Value) : Nat → Value → World → Prop
  | 0, v, _ => v = .slice (some ⟨g, o, none⟩) n9 c
  | 1, v, _ => v = .int .i64 ((j : Int) + 1)
  | 2, v, _ => v = .int .i64 (j : Int)
  | 3, v, _ => v = .pointer (some ⟨g, o + j * 5, none⟩)
  | 4, v, _ => v = evv a ra
  | 5, v, _ => v = idv a
  | 6, v, _ => v = .slice (some ⟨g, o, none⟩) n9 c
  | 7, v, _ => v = .int .i64 ((j : Int) + 1)
  | 8, v, _ => v = .pointer (some ⟨g, o + (j + 1) * 5, none⟩)
  | 9, v, _ => v = evv b rb
  | 10, v, _ => v = idv b
  | 11, v, _ => v = .bool (lessE a b)
  | 12, v, _ => v = .bool (!lessE a b)
  | _, _, _ => True
theorem esrtdG_st (g o n9 c j : Nat) (a b : EZ) (ra rb : Value) : ∀ i9 z9 x9 y9, esrtdG g o n9 c j a b ra rb i9 z9 x9 → Ext x9 y9 → esrtdG g o n9 c j a b ra rb i9 z9 y9 := by
  intro i9 z9 x9 y9 h e
  unfold esrtdG at *
  split at h <;> first | exact h | trivial

set_option maxRecDepth 100000 in
set_option maxHeartbeats 4000000 in
theorem esorted_any (L : List EZ) (v : Value) (w : World) (hv : EventsAt w v L) : Calls Tryz.prog 23 #[v] w (Says w (.bool (sortedE L))) := by
  have HV := hid hv
  obtain ⟨A, c, rfl, _, q1⟩ := hv.shape
  clear hv
  have hml : (L.length : Int) ≤ 9223372036854775807 := by unfold maxLen at q1; omega
  have HO := hid (show sortedE L = sortedE (L.drop 0) from rfl)
  generalize sortedE L = R at *
  go_enter Tryz.func23, Tryz.ntmps23
  go_wp2_with fail
  go_loopw [3] (fun x wr => ∃ j : Nat, j ≤ L.length ∧ x = .int .i64 ((j : Int) + 1) ∧ Hid (R = sortedE (L.drop j)) ∧ Ext w wr)
    (fun x _ => L.length + 1 - (intOf x).toNat)
  case atStart => exact ⟨0, by omega, rfl, hid HO.out, Ext.refl _⟩
  case round =>
    obtain ⟨j, hj, rfl, ho, hext⟩ := hrel
    have HE := hid hext
    clear hext
    by_cases hlt : j + 1 < L.length
    · have hlt' : (j : Int) + 1 < (L.length : Int) := by omega
      have hltj : j < L.length := by omega
      obtain ⟨g, o, c', ra, e1, _, _, p0, p1, p2, p3, p4, hva⟩ := (HV.out.ext HE.out).open_ hltj
      obtain ⟨rfl, rfl⟩ : A = some ⟨g, o, none⟩ ∧ c = c' := by simpa using e1
      obtain ⟨g', o', c'', rb, e2, _, _, q0, q1, q2, q3, q4, hvb⟩ := (HV.out.ext HE.out).open_ hlt
      obtain ⟨⟨rfl, rfl⟩, rfl⟩ : (g = g' ∧ o = o') ∧ c = c'' := by simpa using e2
      have HAT := hid (sortedE_at hlt)
      generalize hT : L[j] = a at *
      generalize hS : L[j + 1] = b at *
      clear e1 e2 hT hS hva hvb
      go_wp2_with fail
      refine wp_region_slots Ext (esrtdG g o L.length c j a b ra rb) (by kernel_rfl) Ext.trans Ext.refl (Ext.drew _) (esrtdG_st _ _ _ _ _ _ _ _ _) (by kernel_rfl) ?_ ?_
      · intro tmps wr hle hfr jj o9 ho hty
        have h0 : tmps[0]?.getD undef = .slice (some ⟨g, o, none⟩) L.length c := hfr 0 (by kernel_rfl)
        have h3 : tmps[3]?.getD undef = .int .i64 ((j : Int) + 1) := hfr 3 (by kernel_rfl)
        have p0 := hle.cell p0
        have p1 := hle.cell p1
        have p2 := hle.cell p2
        have p3 := hle.cell p3
        have p4 := hle.cell p4
        have q0 := hle.cell q0
        have q1 := hle.cell q1
        have q2 := hle.cell q2
        have q3 := hle.cell q3
        have q4 := hle.cell q4
        have hby : (j : Int) + 1 < (L.length : Int) := by omega
        have hbx : (j : Int) < (L.length : Int) := by omega
        have hneg : ¬ (j : Int) + 1 < 0 := by omega
        have hcast : ((j : Int) + 1).toNat = j + 1 := by omega
        have hsub : (j : Int) + 1 - 1 = (j : Int) := by omega
        have hsub2 : IntKind.i64.wrap (j : Int) = (j : Int) := iwrap _ (by omega) (by omega)
        clear hfr
        match jj, ho with
        | 0, ho =>
          obtain rfl := (Option.some.inj ho)
          clear hty ho
          refine step_pure (.slice (some ⟨g, o, none⟩) L.length c) (wanted_free rfl) ?_ (Ext.refl _) rfl
          simp [execOp, Act.eval, h0, go_sem]
        | 1, ho =>
          obtain rfl := (Option.some.inj ho)
          clear hty ho
          refine step_pure (.int .i64 ((j : Int) + 1)) (wanted_free rfl) ?_ (Ext.refl _) rfl
          simp [execOp, Act.eval, h3, go_sem]
        | 2, ho =>
          have h11 : tmps[11]?.getD undef = .int .i64 ((j : Int) + 1) := hty 1 11 rfl (by obtain rfl := (Option.some.inj ho); rfl)
          obtain rfl := (Option.some.inj ho)
          clear hty ho
          refine step_pure (.int .i64 (j : Int)) (wanted_free rfl) ?_ (Ext.refl _) rfl
          simp [execOp, Act.eval, h11, hsub, hsub2, go_sem]
        | 3, ho =>
          have h10 : tmps[10]?.getD undef = .slice (some ⟨g, o, none⟩) L.length c := hty 0 10 rfl (by obtain rfl := (Option.some.inj ho); rfl)
          have h12 : tmps[12]?.getD undef = .int .i64 (j : Int) := hty 2 12 rfl (by obtain rfl := (Option.some.inj ho); rfl)
          obtain rfl := (Option.some.inj ho)
          clear hty ho
          refine step_pure (.pointer (some ⟨g, o + j * 5, none⟩)) (wanted_free rfl) ?_ (Ext.refl _) rfl
          simp [execOp, Act.eval, h10, h12, hbx, go_sem]
        | 4, ho =>
          have h13 : tmps[13]?.getD undef = .pointer (some ⟨g, o + j * 5, none⟩) := hty 3 13 rfl (by obtain rfl := (Option.some.inj ho); rfl)
          obtain rfl := (Option.some.inj ho)
          clear hty ho
          refine step_pure (evv a ra) (wanted_free rfl) ?_ (Ext.refl _) rfl
          simp [execOp, Act.eval, h13, evv, p0, p1, p2, p3, p4, go_sem]
        | 5, ho =>
          have h14 : tmps[14]?.getD undef = evv a ra := hty 4 14 rfl (by obtain rfl := (Option.some.inj ho); rfl)
          obtain rfl := (Option.some.inj ho)
          clear hty ho
          refine step_call 24 #[evv a ra] (wanted_free rfl) ?_ ?_
          · simp [execOp, Act.eval, h14, go_sem]
          · exact (eid_any a ra _).mono fun e w' ⟨h1, h2⟩ => ⟨_, h1, h2, rfl⟩
        | 6, ho =>
          obtain rfl := (Option.some.inj ho)
          clear hty ho
          refine step_pure (.slice (some ⟨g, o, none⟩) L.length c) (wanted_free rfl) ?_ (Ext.refl _) rfl
          simp [execOp, Act.eval, h0, go_sem]
        | 7, ho =>
          obtain rfl := (Option.some.inj ho)
          clear hty ho
          refine step_pure (.int .i64 ((j : Int) + 1)) (wanted_free rfl) ?_ (Ext.refl _) rfl
          simp [execOp, Act.eval, h3, go_sem]
        | 8, ho =>
          have h16 : tmps[16]?.getD undef = .slice (some ⟨g, o, none⟩) L.length c := hty 6 16 rfl (by obtain rfl := (Option.some.inj ho); rfl)
          have h17 : tmps[17]?.getD undef = .int .i64 ((j : Int) + 1) := hty 7 17 rfl (by obtain rfl := (Option.some.inj ho); rfl)
          obtain rfl := (Option.some.inj ho)
          clear hty ho
          refine step_pure (.pointer (some ⟨g, o + (j + 1) * 5, none⟩)) (wanted_free rfl) ?_ (Ext.refl _) rfl
          simp [execOp, Act.eval, h16, h17, hby, hneg, hcast, go_sem]
        | 9, ho =>
          have h18 : tmps[18]?.getD undef = .pointer (some ⟨g, o + (j + 1) * 5, none⟩) := hty 8 18 rfl (by obtain rfl := (Option.some.inj ho); rfl)
          obtain rfl := (Option.some.inj ho)
          clear hty ho
          refine step_pure (evv b rb) (wanted_free rfl) ?_ (Ext.refl _) rfl
          simp [execOp, Act.eval, h18, evv, q0, q1, q2, q3, q4, go_sem]
        | 10, ho =>
          have h19 : tmps[19]?.getD undef = evv b rb := hty 9 19 rfl (by obtain rfl := (Option.some.inj ho); rfl)
          obtain rfl := (Option.some.inj ho)
          clear hty ho
          refine step_call 24 #[evv b rb] (wanted_free rfl) ?_ ?_
          · simp [execOp, Act.eval, h19, go_sem]
          · exact (eid_any b rb _).mono fun e w' ⟨h1, h2⟩ => ⟨_, h1, h2, rfl⟩
        | 11, ho =>
          have h15 : tmps[15]?.getD undef = idv a := hty 5 15 rfl (by obtain rfl := (Option.some.inj ho); rfl)
          have h20 : tmps[20]?.getD undef = idv b := hty 10 20 rfl (by obtain rfl := (Option.some.inj ho); rfl)
          obtain rfl := (Option.some.inj ho)
          clear hty ho
          refine step_call 50 #[idv a, idv b] (wanted_free rfl) ?_ ?_
          · simp [execOp, Act.eval, h15, h20, go_sem]
          · exact (eless_any a b _).mono fun e w' ⟨h1, h2⟩ => ⟨_, h1, h2, rfl⟩
        | 12, ho =>
          have h21 : tmps[21]?.getD undef = .bool (lessE a b) := hty 11 21 rfl (by obtain rfl := (Option.some.inj ho); rfl)
          obtain rfl := (Option.some.inj ho)
          clear hty ho
          refine step_pure (.bool (!lessE a b)) (wanted_free rfl) ?_ (Ext.refl _) rfl
          simp [execOp, Act.eval, h21, go_sem]
        | (jj + 13), ho => exact absurd ho (by simp)
      · intro tmps w7 hle hs hfr hty
        have h0 : tmps[22]?.getD undef = .bool (!lessE a b) := hty 12 22 rfl
        have hfe := frame_eq [10, 11, 12, 13, 14, 15, 16, 17, 18, 19, 20, 21, 22] hs hfr (by kernel_rfl)
        rw [hfe]
        clear hfe hfr hs hty
        simp only [List.foldl_cons, List.foldl_nil]
        rw [h0]
        clear h0
        simp only [List.setIfInBounds_toArray, List.set_cons_succ, List.set_cons_zero]
        have HE7 := hid (HE.out.trans hle)
        clear hle p0 p1 p2 p3 p4 q0 q1 q2 q3 q4
        generalize lessE a b = Z at *
        cases Z
        · have HR := hid (ho.out.trans (by rw [HAT.out, Bool.false_and]) : R = false)
          go_wp2_with fail
          go_ret
          exact ⟨by rw [HR.out]; rfl, HE7.out⟩
        · have HR := hid (ho.out.trans (by rw [HAT.out, Bool.true_and]) : R = sortedE (L.drop (j + 1)))
          go_wp2_with fail
          go_roundw
          case rel => exact ⟨j + 1, by omega, by go_num, HR, HE7.out⟩
          case measure => simp only [intOf]; omega
    · have hlt' : ¬ (j : Int) + 1 < (L.length : Int) := by omega
      have HR := hid (ho.out.trans (sortedE_end (by omega)))
      go_wp2_with fail
      go_ret
      exact ⟨by rw [HR.out]; rfl, HE.out⟩
end Go.Proofs.YtnldgmpfinlikaaGreat
