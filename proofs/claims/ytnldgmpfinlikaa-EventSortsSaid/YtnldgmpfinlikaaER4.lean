/- The document's Sorted of events, by its contract. Conditions: numbers within their kinds. (Written by tools/mker3.py.) -/
import Derived.Test.YtnldgmpfinlikaaGER2
import Derived.Test.YtnldgmpfinlikaaVR5
namespace Go.Proofs.Ytnldgmpfinlikaa
open Go Go.RowKit

def esortG (g o n9 c9 j : Nat) (a b : EZ) (ra rb : Value) : Nat → Value → World → Prop
  | 0, v, _ => v = .slice (some ⟨g, o, none⟩) n9 c9
  | 1, v, _ => v = .int .i64 ((j : Int) + 1)
  | 2, v, _ => v = .int .i64 (j : Int)
  | 3, v, _ => v = .pointer (some ⟨g, o + j * 5, none⟩)
  | 4, v, _ => v = evv a ra
  | 5, v, _ => v = .slice (some ⟨g, o, none⟩) n9 c9
  | 6, v, _ => v = .int .i64 ((j : Int) + 1)
  | 7, v, _ => v = .pointer (some ⟨g, o + (j + 1) * 5, none⟩)
  | 8, v, _ => v = evv b rb
  | _, _, _ => True
theorem esortG_st (g o n9 c9 j : Nat) (a b : EZ) (ra rb : Value) : ∀ i9 z9 x9 y9, esortG g o n9 c9 j a b ra rb i9 z9 x9 → Ext x9 y9 → esortG g o n9 c9 j a b ra rb i9 z9 y9 := by
  intro i9 z9 x9 y9 h e
  unfold esortG at *
  split at h <;> first | exact h | exact h.ext e | trivial

theorem iwrap (n : Int) (h0 : 0 ≤ n) (h : n ≤ 9223372036854775807) : IntKind.i64.wrap n = n := by rw [IntKind.wrap_i64]; omega
theorem sortedE_at {L : List EZ} {j : Nat} (h : j + 1 < L.length) : sortedE (L.drop j) = (lessE L[j] L[j + 1] && sortedE (L.drop (j + 1))) := by
  rw [List.drop_eq_getElem_cons (show j < L.length by omega), List.drop_eq_getElem_cons h]
  rfl
theorem sortedE_end {L : List EZ} {j : Nat} (h : L.length ≤ j + 1) : sortedE (L.drop j) = true := by
  have hl : (L.drop j).length ≤ 1 := by rw [List.length_drop]; omega
  match L.drop j, hl with
  | [], _ => rfl
  | [a], _ => rfl
set_option maxRecDepth 100000 in
set_option maxHeartbeats 8000000 in
theorem rsorted7_any (L : List EZ) (v : Value) (w : World) (hv : EventsAt w v L) : Calls Try.prog 13 #[v] w (Says w (.bool (sortedE L))) := by
  have HV := hid hv
  obtain ⟨A, c, rfl, _, q1⟩ := hv.shape
  clear hv
  have hml : (L.length : Int) ≤ 9223372036854775807 := by unfold maxLen at q1; omega
  have HO := hid (show sortedE L = sortedE (L.drop 0) from rfl)
  generalize sortedE L = R at *
  go_enter Try.func13, Try.ntmps13
  go_wp2_with fail
  go_loopw [3] (fun x wr => ∃ j : Nat, j ≤ L.length ∧ x = .int .i64 ((j : Int) + 1) ∧ Hid (R = sortedE (L.drop j)) ∧ Ext w wr)
    (fun x _ => L.length + 1 - (intOf x).toNat)
  case atStart => exact ⟨0, by omega, rfl, hid HO.out, Ext.refl _⟩
  case round =>
    obtain ⟨j, hj, rfl, ho, hext⟩ := hrel
    have HE := hid hext
    clear hext
    by_cases hlt : j + 1 < L.length
    · have hlt' : (j : Int) + 1 < (L.length : Int) := by omega
      have hltj : j < L.length := by omega
      obtain ⟨g, o, c', ra, e1, _, _, d0, d1, d2, d3, d4, hva⟩ := (HV.out.ext HE.out).open_ hltj
      obtain ⟨rfl, rfl⟩ : A = some ⟨g, o, none⟩ ∧ c = c' := by simpa using e1
      obtain ⟨g', o', c'', rb, e2, _, _, k0, k1, k2, k3, k4, hvb⟩ := (HV.out.ext HE.out).open_ hlt
      obtain ⟨⟨rfl, rfl⟩, rfl⟩ : (g = g' ∧ o = o') ∧ c = c'' := by simpa using e2
      have HAT := hid (sortedE_at hlt)
      generalize hT : L[j] = a at *
      generalize hS : L[j + 1] = b at *
      clear e1 e2 hT hS hva hvb
      go_wp2_with fail
      refine wp_region_tail 9 Ext (esortG g o L.length c j a b ra rb) (by kernel_rfl) Ext.trans Ext.refl (Ext.drew _) (esortG_st _ _ _ _ _ _ _ _ _) (by kernel_rfl) (by kernel_rfl) ?_ ?_
      · intro tmps df wq hle hfr jj oo hjj hoo hty
        have h0 : tmps[0]?.getD undef = .slice (some ⟨g, o, none⟩) L.length c := hfr 0 (by kernel_rfl)
        have h3 : tmps[3]?.getD undef = .int .i64 ((j : Int) + 1) := hfr 3 (by kernel_rfl)
        have d0 := hle.cell d0
        have d1 := hle.cell d1
        have d2 := hle.cell d2
        have d3 := hle.cell d3
        have d4 := hle.cell d4
        have k0 := hle.cell k0
        have k1 := hle.cell k1
        have k2 := hle.cell k2
        have k3 := hle.cell k3
        have k4 := hle.cell k4
        have hbx : (j : Int) < (L.length : Int) := by omega
        have hby : (j : Int) + 1 < (L.length : Int) := hlt'
        have hsub : (j : Int) + 1 - 1 = (j : Int) := by omega
        have hsub2 : IntKind.i64.wrap (j : Int) = (j : Int) := iwrap _ (by omega) (by omega)
        have hneg : ¬ (j : Int) + 1 < 0 := by omega
        have hcast : ((j : Int) + 1).toNat = j + 1 := by omega
        clear hfr
        match jj, hoo, hjj with
        | 0, hoo, _ =>
          obtain rfl := (Option.some.inj hoo)
          clear hty hoo
          refine step_pure (.slice (some ⟨g, o, none⟩) L.length c) (wanted_free rfl) ?_ (Ext.refl _) rfl
          simp [execOp, Act.eval, h0, go_sem]
        | 1, hoo, _ =>
          obtain rfl := (Option.some.inj hoo)
          clear hty hoo
          refine step_pure (.int .i64 ((j : Int) + 1)) (wanted_free rfl) ?_ (Ext.refl _) rfl
          simp [execOp, Act.eval, h3, go_sem]
        | 2, hoo, _ =>
          have h11 : tmps[11]?.getD undef = .int .i64 ((j : Int) + 1) := hty 1 11 (by kernel_rfl) (by obtain rfl := (Option.some.inj hoo); rfl)
          obtain rfl := (Option.some.inj hoo)
          clear hty hoo
          refine step_pure (.int .i64 (j : Int)) (wanted_free rfl) ?_ (Ext.refl _) rfl
          simp [execOp, Act.eval, h11, hsub, hsub2, go_sem]
        | 3, hoo, _ =>
          have h10 : tmps[10]?.getD undef = .slice (some ⟨g, o, none⟩) L.length c := hty 0 10 (by kernel_rfl) (by obtain rfl := (Option.some.inj hoo); rfl)
          have h12 : tmps[12]?.getD undef = .int .i64 (j : Int) := hty 2 12 (by kernel_rfl) (by obtain rfl := (Option.some.inj hoo); rfl)
          obtain rfl := (Option.some.inj hoo)
          clear hty hoo
          refine step_pure (.pointer (some ⟨g, o + j * 5, none⟩)) (wanted_free rfl) ?_ (Ext.refl _) rfl
          simp [execOp, Act.eval, h10, h12, hbx, go_sem]
        | 4, hoo, _ =>
          have h13 : tmps[13]?.getD undef = .pointer (some ⟨g, o + j * 5, none⟩) := hty 3 13 (by kernel_rfl) (by obtain rfl := (Option.some.inj hoo); rfl)
          obtain rfl := (Option.some.inj hoo)
          clear hty hoo
          refine step_pure (evv a ra) (wanted_free rfl) ?_ (Ext.refl _) rfl
          simp [execOp, Act.eval, h13, evv, d0, d1, d2, d3, d4, go_sem]
        | 5, hoo, _ =>
          obtain rfl := (Option.some.inj hoo)
          clear hty hoo
          refine step_pure (.slice (some ⟨g, o, none⟩) L.length c) (wanted_free rfl) ?_ (Ext.refl _) rfl
          simp [execOp, Act.eval, h0, go_sem]
        | 6, hoo, _ =>
          obtain rfl := (Option.some.inj hoo)
          clear hty hoo
          refine step_pure (.int .i64 ((j : Int) + 1)) (wanted_free rfl) ?_ (Ext.refl _) rfl
          simp [execOp, Act.eval, h3, go_sem]
        | 7, hoo, _ =>
          have h15 : tmps[15]?.getD undef = .slice (some ⟨g, o, none⟩) L.length c := hty 5 15 (by kernel_rfl) (by obtain rfl := (Option.some.inj hoo); rfl)
          have h16 : tmps[16]?.getD undef = .int .i64 ((j : Int) + 1) := hty 6 16 (by kernel_rfl) (by obtain rfl := (Option.some.inj hoo); rfl)
          obtain rfl := (Option.some.inj hoo)
          clear hty hoo
          refine step_pure (.pointer (some ⟨g, o + (j + 1) * 5, none⟩)) (wanted_free rfl) ?_ (Ext.refl _) rfl
          simp [execOp, Act.eval, h15, h16, hby, hcast, hneg, go_sem]
        | 8, hoo, _ =>
          have h17 : tmps[17]?.getD undef = .pointer (some ⟨g, o + (j + 1) * 5, none⟩) := hty 7 17 (by kernel_rfl) (by obtain rfl := (Option.some.inj hoo); rfl)
          obtain rfl := (Option.some.inj hoo)
          clear hty hoo
          refine step_pure (evv b rb) (wanted_free rfl) ?_ (Ext.refl _) rfl
          simp [execOp, Act.eval, h17, evv, k0, k1, k2, k3, k4, go_sem]
        | (jj + 9), _, hjj => omega
      · intro tmps w7 hle hs hfr hty
        have h14 : tmps[14]?.getD undef = evv a ra := hty 4 14 (by kernel_rfl)
        have h18 : tmps[18]?.getD undef = evv b rb := hty 8 18 (by kernel_rfl)
        have hfe := nframe_eq [10, 11, 12, 13, 14, 15, 16, 17, 18] hs hfr (by kernel_rfl)
        rw [hfe]
        clear hfe hfr hs hty
        simp only [List.foldl_cons, List.foldl_nil]
        rw [h14, h18]
        generalize tmps[10]?.getD undef = x10
        generalize tmps[11]?.getD undef = x11
        generalize tmps[12]?.getD undef = x12
        generalize tmps[13]?.getD undef = x13
        generalize tmps[15]?.getD undef = x15
        generalize tmps[16]?.getD undef = x16
        generalize tmps[17]?.getD undef = x17
        clear h14 h18
        simp only [List.drop_succ_cons, List.drop_zero, List.setIfInBounds_toArray, List.set_cons_succ, List.set_cons_zero]
        have kk := rless7_any a b ra rb w7
        have HE7 := hid (HE.out.trans hle)
        generalize lessE a b = Z at *
        clear hle
        cases Z
        · have HR := hid (ho.out.trans (by rw [HAT.out, Bool.false_and]) : R = false)
          go_wp2_with (go_at_call 16; refine kk.mono ?_; rintro e8 w8 ⟨rfl, hx8⟩)
          go_ret
          exact ⟨by rw [HR.out]; rfl, HE7.out.trans hx8⟩
        · have HR := hid (ho.out.trans (by rw [HAT.out, Bool.true_and]) : R = sortedE (L.drop (j + 1)))
          go_wp2_with (go_at_call 16; refine kk.mono ?_; rintro e8 w8 ⟨rfl, hx8⟩)
          go_roundw
          case rel => exact ⟨j + 1, by omega, by go_num, HR, HE7.out.trans hx8⟩
          case measure => simp only [intOf]; omega
    · have hge : ¬ (j : Int) + 1 < (L.length : Int) := by omega
      have HR := hid (ho.out.trans (sortedE_end (by omega)))
      go_wp2_with fail
      go_ret
      exact ⟨by rw [HR.out]; rfl, HE.out⟩

end Go.Proofs.Ytnldgmpfinlikaa
