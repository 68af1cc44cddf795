/- telltalelaw07.EventSorts answers true. Conditions: none. -/
import Derived.Test.YtnldgmpfinlikaaGEP11
import Derived.Test.YtnldgmpfinlikaaEAwk
namespace Go.Proofs.Ytnldgmpfinlikaa
open Go Go.RowKit

/-- what the slots of the region hold -/
def esortsG (g o n9 c g2 o2 c2 j : Nat) (a b : EZ) (ra rb sa sb : Value) : Nat → Value → World → Prop
  | 0, v, _ => v = .slice (some ⟨g2, o2, none⟩) n9 c2
  | 1, v, _ => v = .int .i64 ((j : Int) + 1)
  | 2, v, _ => v = .int .i64 (j : Int)
  | 3, v, _ => v = .pointer (some ⟨g2, o2 + j * 5, none⟩)
  | 4, v, _ => v = evv a sa
  | 5, v, _ => v = idv a
  | 6, v, _ => v = .slice (some ⟨g2, o2, none⟩) n9 c2
  | 7, v, _ => v = .int .i64 ((j : Int) + 1)
  | 8, v, _ => v = .pointer (some ⟨g2, o2 + (j + 1) * 5, none⟩)
  | 9, v, _ => v = evv b sb
  | 10, v, _ => v = idv b
  | 11, v, _ => v = .bool (lessE a b)
  | 12, v, _ => v = .slice (some ⟨g, o, none⟩) n9 c
  | 13, v, _ => v = .int .i64 ((j : Int) + 1)
  | 14, v, _ => v = .int .i64 (j : Int)
  | 15, v, _ => v = .pointer (some ⟨g, o + j * 5, none⟩)
  | 16, v, _ => v = evv a ra
  | 17, v, _ => v = .slice (some ⟨g, o, none⟩) n9 c
  | 18, v, _ => v = .int .i64 ((j : Int) + 1)
  | 19, v, _ => v = .pointer (some ⟨g, o + (j + 1) * 5, none⟩)
  | 20, v, _ => v = evv b rb
  | 21, v, _ => v = .bool (lessE a b)
  | 22, v, _ => v = .bool false
  | 23, v, _ => v = .bool false
  | 24, v, _ => v = .slice (some ⟨g2, o2, none⟩) n9 c2
  | 25, v, _ => v = .int .i64 ((j : Int) + 1)
  | 26, v, _ => v = .int .i64 (j : Int)
  | 27, v, _ => v = .pointer (some ⟨g2, o2 + j * 5, none⟩)
  | 28, v, _ => v = evv a sa
  | 29, v, _ => v = .slice (some ⟨g2, o2, none⟩) n9 c2
  | 30, v, _ => v = .int .i64 ((j : Int) + 1)
  | 31, v, _ => v = .pointer (some ⟨g2, o2 + (j + 1) * 5, none⟩)
  | 32, v, _ => v = evv b sb
  | 33, v, _ => v = .bool (sameEv a b)
  | 34, v, _ => v = .slice (some ⟨g, o, none⟩) n9 c
  | 35, v, _ => v = .int .i64 ((j : Int) + 1)
  | 36, v, _ => v = .int .i64 (j : Int)
  | 37, v, _ => v = .pointer (some ⟨g, o + j * 5, none⟩)
  | 38, v, _ => v = evv a ra
  | 39, v, _ => v = .slice (some ⟨g, o, none⟩) n9 c
  | 40, v, _ => v = .int .i64 ((j : Int) + 1)
  | 41, v, _ => v = .pointer (some ⟨g, o + (j + 1) * 5, none⟩)
  | 42, v, _ => v = evv b rb
  | 43, v, _ => v = .bool (sameEv a b)
  | 44, v, _ => v = .bool false
  | 45, v, _ => v = .bool false
  | _, _, _ => True
theorem esortsG_st (g o n9 c g2 o2 c2 j : Nat) (a b : EZ) (ra rb sa sb : Value) : ∀ i9 z9 x9 y9, esortsG g o n9 c g2 o2 c2 j a b ra rb sa sb i9 z9 x9 → Ext x9 y9 → esortsG g o n9 c g2 o2 c2 j a b ra rb sa sb i9 z9 y9 := by
  intro i9 z9 x9 y9 h e
  unfold esortsG at *
  split at h <;> first | exact h | trivial

theorem evs_small {L : List EZ} (h : evtsIn L 20 = true) : EvsSmall L := ⟨(evts_in h).1, fun e he => by
  obtain ⟨h1, h2, h3⟩ := (evts_in h).2 e he
  exact ⟨h1, h2, fun v hv => by have := h3 v hv; omega⟩⟩
theorem foldE_mem {x : EZ} : ∀ (l a : List EZ), x ∈ l.foldl (fun L e => intoE e L) a → x ∈ a ∨ x ∈ l
  | [], _, h => .inl h
  | e :: r, a, h => by
    rcases foldE_mem r _ h with h | h
    · rcases List.mem_cons.1 ((intoE_perm e a).mem_iff.1 h) with rfl | h
      · exact .inr (List.mem_cons_self ..)
      · exact .inl h
    · exact .inr (List.mem_cons_of_mem _ h)
theorem sortE_mem {L : List EZ} {e : EZ} (h : e ∈ sortE L) : e ∈ L := by
  rcases foldE_mem L [] h with h | h
  · cases h
  · exact h

set_option maxRecDepth 100000 in
set_option maxHeartbeats 4000000 in
theorem esorts7_any (L : List EZ) (v : Value) (w : World) (hv : EventsAt w v L) (hok : EventsOk L) :
    Calls Try.prog 3 #[v] w (Says w (.bool true)) := by
  have HV := hid hv
  have kov := eover_any L v 20 w hv hok (by omega)
  have hin := @evs_small L
  have hov : overE L 20 = if evtsIn L 20 then 0 else 1 := rfl
  generalize evtsIn L 20 = IN at *
  generalize overE L 20 = OV at *
  cases IN
  · subst hov
    go_enter Try.func3, Try.ntmps3
    go_wp2_with fail
    refine kov.mono ?_
    rintro e w1 ⟨rfl, hx⟩
    have HX := hid hx
    clear hx
    go_wp2_with fail
    refine (eawake_any _).mono ?_
    rintro e w2 ⟨rfl, hx2⟩
    go_wp2_with fail
    go_ret
    exact ⟨rfl, HX.out.trans hx2⟩
  · subst hov
    have HSM := hin rfl
    have h20 := HSM.1
    have h12 : ∀ e ∈ L, e.v.length ≤ 12 := fun e he => (HSM.2 e he).2.1
    have h12s : ∀ e ∈ sortE L, e.v.length ≤ 12 := fun e he => h12 e (sortE_mem he)
    have hls : (sortE L).length ≤ 1000 := by rw [sortE_length]; omega
    obtain ⟨A, c, rfl, _, q1⟩ := hv.shape
    clear hv hin
    have hml : (L.length : Int) ≤ 9223372036854775807 := by omega
    go_enter Try.func3, Try.ntmps3
    go_wp2_with fail
    refine kov.mono ?_
    rintro e w1 ⟨rfl, hx⟩
    have HX := hid hx
    clear hx kov
    go_wp2_with fail
    refine (eownall_any L _ _ (HV.out.ext HX.out) (by omega) h12).mono ?_
    rintro e w2 ⟨u2, rfl, hu2, hx⟩
    replace HX := hid (HX.out.trans hx)
    have HO := hid hu2
    obtain ⟨A2, c2, rfl, _, _⟩ := hu2.shape
    clear hx hu2
    go_wp2_with fail
    refine (esort_any L _ _ HO.out HSM).mono ?_
    rintro e w3 ⟨u3, rfl, hu3, hx⟩
    replace HX := hid (HX.out.trans hx)
    replace HO := hid (HO.out.ext hx)
    clear hx
    go_wp2_with fail
    refine (ebackall_any (sortE L) _ _ hu3 hls h12s).mono ?_
    rintro e w4 ⟨u4, rfl, hu4, hx⟩
    replace HX := hid (HX.out.trans hx)
    replace HO := hid (HO.out.ext hx)
    have HU4 := hid hu4
    clear hx hu4 hu3
    go_wp2_with fail
    refine (rsort7_any L _ _ (HV.out.ext HX.out) (by omega)).mono ?_
    rintro e w5 ⟨u5, rfl, hu5, hx⟩
    replace HX := hid (HX.out.trans hx)
    replace HO := hid (HO.out.ext hx)
    replace HU4 := hid (HU4.out.ext hx)
    clear hx
    go_wp2_with fail
    refine (rsameall7_any (sortE L) (sortE L) _ _ _ HU4.out hu5).mono ?_
    rintro e w6 ⟨rfl, hx⟩
    replace HX := hid (HX.out.trans hx)
    replace HO := hid (HO.out.ext hx)
    rw [(sameEL_iff _ _).2 rfl]
    clear hx hu5 HU4
    go_wp2_with fail
    have ks := fun W (h : EventsAt W (.slice A2 L.length c2) L) => esorted_any L _ W h
    have kr := fun W (h : EventsAt W (.slice A L.length c) L) => rsorted7_any L _ W h
    generalize sortedE L = SO at ks kr
    refine (ks _ HO.out).mono ?_
    rintro e w7 ⟨rfl, hx⟩
    replace HX := hid (HX.out.trans hx)
    replace HO := hid (HO.out.ext hx)
    clear hx ks
    go_wp2_with fail
    refine (kr _ (HV.out.ext HX.out)).mono ?_
    rintro e w8 ⟨rfl, hx⟩
    replace HX := hid (HX.out.trans hx)
    replace HO := hid (HO.out.ext hx)
    clear hx kr
    have hne : (SO != SO) = false := bne_self_eq_false SO
    go_wp2_with fail
    refine (ebackall_any L _ _ HO.out (by omega) h12).mono ?_
    rintro e w9 ⟨u9, rfl, hu9, hx⟩
    replace HX := hid (HX.out.trans hx)
    replace HO := hid (HO.out.ext hx)
    clear hx
    go_wp2_with fail
    refine (rsameall7_any L L _ _ _ hu9 (HV.out.ext HX.out)).mono ?_
    rintro e w10 ⟨rfl, hx⟩
    replace HX := hid (HX.out.trans hx)
    replace HO := hid (HO.out.ext hx)
    rw [(sameEL_iff _ _).2 rfl]
    clear hx hu9
    go_wp2_with fail
    go_loopw [5] (fun x wr => ∃ j : Nat, j ≤ L.length ∧ x = .int .i64 ((j : Int) + 1) ∧ Hid (Ext w10 wr))
      (fun x _ => L.length + 1 - (intOf x).toNat)
    case atStart => exact ⟨0, by omega, rfl, hid (Ext.refl _)⟩
    case round =>
      obtain ⟨j, hj, rfl, hext⟩ := hrel
      have HV5 := hid (HV.out.ext (HX.out.trans hext.out))
      have HO5 := hid (HO.out.ext hext.out)
      by_cases hlt : j + 1 < L.length
      · have hlt' : (j : Int) + 1 < (L.length : Int) := by omega
        have hltj : j < L.length := by omega
        obtain ⟨g, o, c', ra, e1, _, _, d0, d1, d2, d3, d4, hva⟩ := HV5.out.open_ hltj
        obtain ⟨rfl, rfl⟩ : A = some ⟨g, o, none⟩ ∧ c = c' := by simpa using e1
        obtain ⟨g', o', c'', rb, e2, _, _, k0, k1, k2, k3, k4, hvb⟩ := HV5.out.open_ hlt
        obtain ⟨⟨rfl, rfl⟩, rfl⟩ : (g = g' ∧ o = o') ∧ c = c'' := by simpa using e2
        obtain ⟨g2, o2, c3, sa, e3, _, _, p0, p1, p2, p3, p4, hva2⟩ := HO5.out.open_ hltj
        obtain ⟨rfl, rfl⟩ : A2 = some ⟨g2, o2, none⟩ ∧ c2 = c3 := by simpa using e3
        obtain ⟨g', o', c'', sb, e4, _, _, q0, q1, q2, q3, q4, hvb2⟩ := HO5.out.open_ hlt
        obtain ⟨⟨rfl, rfl⟩, rfl⟩ : (g2 = g' ∧ o2 = o') ∧ c2 = c'' := by simpa using e4
        generalize hT : L[j] = a at *
        generalize hS : L[j + 1] = b at *
        have HVA := hid hva
        have HVB := hid hvb
        have HVA2 := hid hva2
        have HVB2 := hid hvb2
        clear e1 e2 e3 e4 hT hS hva hvb hva2 hvb2
        go_wp2_with fail
        refine wp_region_slots Ext (esortsG g o L.length c g2 o2 c2 j a b ra rb sa sb) (by kernel_rfl) Ext.trans Ext.refl (Ext.drew _) (esortsG_st _ _ _ _ _ _ _ _ _ _ _ _ _ _) (by kernel_rfl) ?_ ?_
        · intro tmps wr hle hfr jj o9 ho hty
          have h0 : tmps[0]?.getD undef = .slice (some ⟨g, o, none⟩) L.length c := hfr 0 (by kernel_rfl)
          have h3 : tmps[3]?.getD undef = .slice (some ⟨g2, o2, none⟩) L.length c2 := hfr 3 (by kernel_rfl)
          have h5 : tmps[5]?.getD undef = .int .i64 ((j : Int) + 1) := hfr 5 (by kernel_rfl)
          have p0 := hle.cell p0
          have p1 := hle.cell p1
          have p2 := hle.cell p2
          have p3 := hle.cell p3
          have p4 := hle.cell p4
          have q0 := hle.cell q0
          have q1 := hle.cell q1
          have q2 := hle.cell q2
          have q3 := hle.cell q3
          have q4 := hle.cell q4
          have d0 := hle.cell d0
          have d1 := hle.cell d1
          have d2 := hle.cell d2
          have d3 := hle.cell d3
          have d4 := hle.cell d4
          have k0 := hle.cell k0
          have k1 := hle.cell k1
          have k2 := hle.cell k2
          have k3 := hle.cell k3
          have k4 := hle.cell k4
          have hbx : (j : Int) < (L.length : Int) := by omega
          have hby : (j : Int) + 1 < (L.length : Int) := hlt'
          have hsub : (j : Int) + 1 - 1 = (j : Int) := by omega
          have hsub2 : IntKind.i64.wrap (j : Int) = (j : Int) := iwrap _ (by omega) (by omega)
          have hneg : ¬ (j : Int) + 1 < 0 := by omega
          have hcast : ((j : Int) + 1).toNat = j + 1 := by omega
          clear hfr
          match jj, ho with
          | 0, ho =>
            obtain rfl := (Option.some.inj ho)
            clear hty ho
            refine step_pure (.slice (some ⟨g2, o2, none⟩) L.length c2) (wanted_free rfl) ?_ (Ext.refl _) rfl
            simp [execOp, Act.eval, h3, go_sem]
          | 1, ho =>
            obtain rfl := (Option.some.inj ho)
            clear hty ho
            refine step_pure (.int .i64 ((j : Int) + 1)) (wanted_free rfl) ?_ (Ext.refl _) rfl
            simp [execOp, Act.eval, h5, go_sem]
          | 2, ho =>
            have h41 : tmps[41]?.getD undef = .int .i64 ((j : Int) + 1) := hty 1 41 rfl (by obtain rfl := (Option.some.inj ho); rfl)
            obtain rfl := (Option.some.inj ho)
            clear hty ho
            refine step_pure (.int .i64 (j : Int)) (wanted_free rfl) ?_ (Ext.refl _) rfl
            simp [execOp, Act.eval, h41, hsub, hsub2, go_sem]
          | 3, ho =>
            have h40 : tmps[40]?.getD undef = .slice (some ⟨g2, o2, none⟩) L.length c2 := hty 0 40 rfl (by obtain rfl := (Option.some.inj ho); rfl)
            have h42 : tmps[42]?.getD undef = .int .i64 (j : Int) := hty 2 42 rfl (by obtain rfl := (Option.some.inj ho); rfl)
            obtain rfl := (Option.some.inj ho)
            clear hty ho
            refine step_pure (.pointer (some ⟨g2, o2 + j * 5, none⟩)) (wanted_free rfl) ?_ (Ext.refl _) rfl
            simp [execOp, Act.eval, h40, h42, hbx, go_sem]
          | 4, ho =>
            have h43 : tmps[43]?.getD undef = .pointer (some ⟨g2, o2 + j * 5, none⟩) := hty 3 43 rfl (by obtain rfl := (Option.some.inj ho); rfl)
            obtain rfl := (Option.some.inj ho)
            clear hty ho
            refine step_pure (evv a sa) (wanted_free rfl) ?_ (Ext.refl _) rfl
            simp [execOp, Act.eval, h43, evv, p0, p1, p2, p3, p4, go_sem]
          | 5, ho =>
            have h44 : tmps[44]?.getD undef = evv a sa := hty 4 44 rfl (by obtain rfl := (Option.some.inj ho); rfl)
            obtain rfl := (Option.some.inj ho)
            clear hty ho
            refine step_call 14 #[evv a sa] (wanted_free rfl) ?_ ?_
            · simp [execOp, Act.eval, h44, go_sem]
            · exact (eid_any a sa _).mono fun e w' ⟨h1, h2⟩ => ⟨_, h1, h2, rfl⟩
          | 6, ho =>
            obtain rfl := (Option.some.inj ho)
            clear hty ho
            refine step_pure (.slice (some ⟨g2, o2, none⟩) L.length c2) (wanted_free rfl) ?_ (Ext.refl _) rfl
            simp [execOp, Act.eval, h3, go_sem]
          | 7, ho =>
            obtain rfl := (Option.some.inj ho)
            clear hty ho
            refine step_pure (.int .i64 ((j : Int) + 1)) (wanted_free rfl) ?_ (Ext.refl _) rfl
            simp [execOp, Act.eval, h5, go_sem]
          | 8, ho =>
            have h46 : tmps[46]?.getD undef = .slice (some ⟨g2, o2, none⟩) L.length c2 := hty 6 46 rfl (by obtain rfl := (Option.some.inj ho); rfl)
            have h47 : tmps[47]?.getD undef = .int .i64 ((j : Int) + 1) := hty 7 47 rfl (by obtain rfl := (Option.some.inj ho); rfl)
            obtain rfl := (Option.some.inj ho)
            clear hty ho
            refine step_pure (.pointer (some ⟨g2, o2 + (j + 1) * 5, none⟩)) (wanted_free rfl) ?_ (Ext.refl _) rfl
            simp [execOp, Act.eval, h46, h47, hby, hcast, hneg, go_sem]
          | 9, ho =>
            have h48 : tmps[48]?.getD undef = .pointer (some ⟨g2, o2 + (j + 1) * 5, none⟩) := hty 8 48 rfl (by obtain rfl := (Option.some.inj ho); rfl)
            obtain rfl := (Option.some.inj ho)
            clear hty ho
            refine step_pure (evv b sb) (wanted_free rfl) ?_ (Ext.refl _) rfl
            simp [execOp, Act.eval, h48, evv, q0, q1, q2, q3, q4, go_sem]
          | 10, ho =>
            have h49 : tmps[49]?.getD undef = evv b sb := hty 9 49 rfl (by obtain rfl := (Option.some.inj ho); rfl)
            obtain rfl := (Option.some.inj ho)
            clear hty ho
            refine step_call 14 #[evv b sb] (wanted_free rfl) ?_ ?_
            · simp [execOp, Act.eval, h49, go_sem]
            · exact (eid_any b sb _).mono fun e w' ⟨h1, h2⟩ => ⟨_, h1, h2, rfl⟩
          | 11, ho =>
            have h45 : tmps[45]?.getD undef = idv a := hty 5 45 rfl (by obtain rfl := (Option.some.inj ho); rfl)
            have h50 : tmps[50]?.getD undef = idv b := hty 10 50 rfl (by obtain rfl := (Option.some.inj ho); rfl)
            obtain rfl := (Option.some.inj ho)
            clear hty ho
            refine step_call 15 #[idv a, idv b] (wanted_free rfl) ?_ ?_
            · simp [execOp, Act.eval, h45, h50, go_sem]
            · exact (eless_any a b _).mono fun e w' ⟨h1, h2⟩ => ⟨_, h1, h2, rfl⟩
          | 12, ho =>
            obtain rfl := (Option.some.inj ho)
            clear hty ho
            refine step_pure (.slice (some ⟨g, o, none⟩) L.length c) (wanted_free rfl) ?_ (Ext.refl _) rfl
            simp [execOp, Act.eval, h0, go_sem]
          | 13, ho =>
            obtain rfl := (Option.some.inj ho)
            clear hty ho
            refine step_pure (.int .i64 ((j : Int) + 1)) (wanted_free rfl) ?_ (Ext.refl _) rfl
            simp [execOp, Act.eval, h5, go_sem]
          | 14, ho =>
            have h53 : tmps[53]?.getD undef = .int .i64 ((j : Int) + 1) := hty 13 53 rfl (by obtain rfl := (Option.some.inj ho); rfl)
            obtain rfl := (Option.some.inj ho)
            clear hty ho
            refine step_pure (.int .i64 (j : Int)) (wanted_free rfl) ?_ (Ext.refl _) rfl
            simp [execOp, Act.eval, h53, hsub, hsub2, go_sem]
          | 15, ho =>
            have h52 : tmps[52]?.getD undef = .slice (some ⟨g, o, none⟩) L.length c := hty 12 52 rfl (by obtain rfl := (Option.some.inj ho); rfl)
            have h54 : tmps[54]?.getD undef = .int .i64 (j : Int) := hty 14 54 rfl (by obtain rfl := (Option.some.inj ho); rfl)
            obtain rfl := (Option.some.inj ho)
            clear hty ho
            refine step_pure (.pointer (some ⟨g, o + j * 5, none⟩)) (wanted_free rfl) ?_ (Ext.refl _) rfl
            simp [execOp, Act.eval, h52, h54, hbx, go_sem]
          | 16, ho =>
            have h55 : tmps[55]?.getD undef = .pointer (some ⟨g, o + j * 5, none⟩) := hty 15 55 rfl (by obtain rfl := (Option.some.inj ho); rfl)
            obtain rfl := (Option.some.inj ho)
            clear hty ho
            refine step_pure (evv a ra) (wanted_free rfl) ?_ (Ext.refl _) rfl
            simp [execOp, Act.eval, h55, evv, d0, d1, d2, d3, d4, go_sem]
          | 17, ho =>
            obtain rfl := (Option.some.inj ho)
            clear hty ho
            refine step_pure (.slice (some ⟨g, o, none⟩) L.length c) (wanted_free rfl) ?_ (Ext.refl _) rfl
            simp [execOp, Act.eval, h0, go_sem]
          | 18, ho =>
            obtain rfl := (Option.some.inj ho)
            clear hty ho
            refine step_pure (.int .i64 ((j : Int) + 1)) (wanted_free rfl) ?_ (Ext.refl _) rfl
            simp [execOp, Act.eval, h5, go_sem]
          | 19, ho =>
            have h57 : tmps[57]?.getD undef = .slice (some ⟨g, o, none⟩) L.length c := hty 17 57 rfl (by obtain rfl := (Option.some.inj ho); rfl)
            have h58 : tmps[58]?.getD undef = .int .i64 ((j : Int) + 1) := hty 18 58 rfl (by obtain rfl := (Option.some.inj ho); rfl)
            obtain rfl := (Option.some.inj ho)
            clear hty ho
            refine step_pure (.pointer (some ⟨g, o + (j + 1) * 5, none⟩)) (wanted_free rfl) ?_ (Ext.refl _) rfl
            simp [execOp, Act.eval, h57, h58, hby, hcast, hneg, go_sem]
          | 20, ho =>
            have h59 : tmps[59]?.getD undef = .pointer (some ⟨g, o + (j + 1) * 5, none⟩) := hty 19 59 rfl (by obtain rfl := (Option.some.inj ho); rfl)
            obtain rfl := (Option.some.inj ho)
            clear hty ho
            refine step_pure (evv b rb) (wanted_free rfl) ?_ (Ext.refl _) rfl
            simp [execOp, Act.eval, h59, evv, k0, k1, k2, k3, k4, go_sem]
          | 21, ho =>
            have h56 : tmps[56]?.getD undef = evv a ra := hty 16 56 rfl (by obtain rfl := (Option.some.inj ho); rfl)
            have h60 : tmps[60]?.getD undef = evv b rb := hty 20 60 rfl (by obtain rfl := (Option.some.inj ho); rfl)
            obtain rfl := (Option.some.inj ho)
            clear hty ho
            refine step_call 16 #[evv a ra, evv b rb] (wanted_free rfl) ?_ ?_
            · simp [execOp, Act.eval, h56, h60, go_sem]
            · exact (rless7_any a b ra rb _).mono fun e w' ⟨h1, h2⟩ => ⟨_, h1, h2, rfl⟩
          | 22, ho =>
            have h51 : tmps[51]?.getD undef = .bool (lessE a b) := hty 11 51 rfl (by obtain rfl := (Option.some.inj ho); rfl)
            have h61 : tmps[61]?.getD undef = .bool (lessE a b) := hty 21 61 rfl (by obtain rfl := (Option.some.inj ho); rfl)
            obtain rfl := (Option.some.inj ho)
            clear hty ho
            refine step_pure (.bool false) (wanted_free rfl) ?_ (Ext.refl _) rfl
            simp [execOp, Act.eval, h51, h61, go_sem]
          | 23, ho =>
            have h62 : tmps[62]?.getD undef = .bool false := hty 22 62 rfl (by obtain rfl := (Option.some.inj ho); rfl)
            obtain rfl := (Option.some.inj ho)
            clear hty ho
            refine step_pure (.bool false) (wanted_free rfl) ?_ (Ext.refl _) rfl
            simp [execOp, Act.eval, h62, go_sem]
          | 24, ho =>
            have h63 : tmps[63]?.getD undef = .bool false := hty 23 63 rfl (by obtain rfl := (Option.some.inj ho); rfl)
            obtain rfl := (Option.some.inj ho)
            clear hty ho
            refine step_pure (.slice (some ⟨g2, o2, none⟩) L.length c2) (wanted_guard rfl rfl h63) ?_ (Ext.refl _) rfl
            simp [execOp, Act.eval, h3, go_sem]
          | 25, ho =>
            have h63 : tmps[63]?.getD undef = .bool false := hty 23 63 rfl (by obtain rfl := (Option.some.inj ho); rfl)
            obtain rfl := (Option.some.inj ho)
            clear hty ho
            refine step_pure (.int .i64 ((j : Int) + 1)) (wanted_guard rfl rfl h63) ?_ (Ext.refl _) rfl
            simp [execOp, Act.eval, h5, go_sem]
          | 26, ho =>
            have h65 : tmps[65]?.getD undef = .int .i64 ((j : Int) + 1) := hty 25 65 rfl (by obtain rfl := (Option.some.inj ho); rfl)
            have h63 : tmps[63]?.getD undef = .bool false := hty 23 63 rfl (by obtain rfl := (Option.some.inj ho); rfl)
            obtain rfl := (Option.some.inj ho)
            clear hty ho
            refine step_pure (.int .i64 (j : Int)) (wanted_guard rfl rfl h63) ?_ (Ext.refl _) rfl
            simp [execOp, Act.eval, h65, hsub, hsub2, go_sem]
          | 27, ho =>
            have h64 : tmps[64]?.getD undef = .slice (some ⟨g2, o2, none⟩) L.length c2 := hty 24 64 rfl (by obtain rfl := (Option.some.inj ho); rfl)
            have h66 : tmps[66]?.getD undef = .int .i64 (j : Int) := hty 26 66 rfl (by obtain rfl := (Option.some.inj ho); rfl)
            have h63 : tmps[63]?.getD undef = .bool false := hty 23 63 rfl (by obtain rfl := (Option.some.inj ho); rfl)
            obtain rfl := (Option.some.inj ho)
            clear hty ho
            refine step_pure (.pointer (some ⟨g2, o2 + j * 5, none⟩)) (wanted_guard rfl rfl h63) ?_ (Ext.refl _) rfl
            simp [execOp, Act.eval, h64, h66, hbx, go_sem]
          | 28, ho =>
            have h67 : tmps[67]?.getD undef = .pointer (some ⟨g2, o2 + j * 5, none⟩) := hty 27 67 rfl (by obtain rfl := (Option.some.inj ho); rfl)
            have h63 : tmps[63]?.getD undef = .bool false := hty 23 63 rfl (by obtain rfl := (Option.some.inj ho); rfl)
            obtain rfl := (Option.some.inj ho)
            clear hty ho
            refine step_pure (evv a sa) (wanted_guard rfl rfl h63) ?_ (Ext.refl _) rfl
            simp [execOp, Act.eval, h67, evv, p0, p1, p2, p3, p4, go_sem]
          | 29, ho =>
            have h63 : tmps[63]?.getD undef = .bool false := hty 23 63 rfl (by obtain rfl := (Option.some.inj ho); rfl)
            obtain rfl := (Option.some.inj ho)
            clear hty ho
            refine step_pure (.slice (some ⟨g2, o2, none⟩) L.length c2) (wanted_guard rfl rfl h63) ?_ (Ext.refl _) rfl
            simp [execOp, Act.eval, h3, go_sem]
          | 30, ho =>
            have h63 : tmps[63]?.getD undef = .bool false := hty 23 63 rfl (by obtain rfl := (Option.some.inj ho); rfl)
            obtain rfl := (Option.some.inj ho)
            clear hty ho
            refine step_pure (.int .i64 ((j : Int) + 1)) (wanted_guard rfl rfl h63) ?_ (Ext.refl _) rfl
            simp [execOp, Act.eval, h5, go_sem]
          | 31, ho =>
            have h69 : tmps[69]?.getD undef = .slice (some ⟨g2, o2, none⟩) L.length c2 := hty 29 69 rfl (by obtain rfl := (Option.some.inj ho); rfl)
            have h70 : tmps[70]?.getD undef = .int .i64 ((j : Int) + 1) := hty 30 70 rfl (by obtain rfl := (Option.some.inj ho); rfl)
            have h63 : tmps[63]?.getD undef = .bool false := hty 23 63 rfl (by obtain rfl := (Option.some.inj ho); rfl)
            obtain rfl := (Option.some.inj ho)
            clear hty ho
            refine step_pure (.pointer (some ⟨g2, o2 + (j + 1) * 5, none⟩)) (wanted_guard rfl rfl h63) ?_ (Ext.refl _) rfl
            simp [execOp, Act.eval, h69, h70, hby, hcast, hneg, go_sem]
          | 32, ho =>
            have h71 : tmps[71]?.getD undef = .pointer (some ⟨g2, o2 + (j + 1) * 5, none⟩) := hty 31 71 rfl (by obtain rfl := (Option.some.inj ho); rfl)
            have h63 : tmps[63]?.getD undef = .bool false := hty 23 63 rfl (by obtain rfl := (Option.some.inj ho); rfl)
            obtain rfl := (Option.some.inj ho)
            clear hty ho
            refine step_pure (evv b sb) (wanted_guard rfl rfl h63) ?_ (Ext.refl _) rfl
            simp [execOp, Act.eval, h71, evv, q0, q1, q2, q3, q4, go_sem]
          | 33, ho =>
            have h68 : tmps[68]?.getD undef = evv a sa := hty 28 68 rfl (by obtain rfl := (Option.some.inj ho); rfl)
            have h72 : tmps[72]?.getD undef = evv b sb := hty 32 72 rfl (by obtain rfl := (Option.some.inj ho); rfl)
            have h63 : tmps[63]?.getD undef = .bool false := hty 23 63 rfl (by obtain rfl := (Option.some.inj ho); rfl)
            obtain rfl := (Option.some.inj ho)
            clear hty ho
            refine step_call 17 #[evv a sa, evv b sb] (wanted_guard rfl rfl h63) ?_ ?_
            · simp [execOp, Act.eval, h68, h72, go_sem]
            · exact (esame_any a b sa sb _ (HVA2.out.ext hle) (HVB2.out.ext hle)).mono fun e w' ⟨h1, h2⟩ => ⟨_, h1, h2, rfl⟩
          | 34, ho =>
            have h63 : tmps[63]?.getD undef = .bool false := hty 23 63 rfl (by obtain rfl := (Option.some.inj ho); rfl)
            obtain rfl := (Option.some.inj ho)
            clear hty ho
            refine step_pure (.slice (some ⟨g, o, none⟩) L.length c) (wanted_guard rfl rfl h63) ?_ (Ext.refl _) rfl
            simp [execOp, Act.eval, h0, go_sem]
          | 35, ho =>
            have h63 : tmps[63]?.getD undef = .bool false := hty 23 63 rfl (by obtain rfl := (Option.some.inj ho); rfl)
            obtain rfl := (Option.some.inj ho)
            clear hty ho
            refine step_pure (.int .i64 ((j : Int) + 1)) (wanted_guard rfl rfl h63) ?_ (Ext.refl _) rfl
            simp [execOp, Act.eval, h5, go_sem]
          | 36, ho =>
            have h75 : tmps[75]?.getD undef = .int .i64 ((j : Int) + 1) := hty 35 75 rfl (by obtain rfl := (Option.some.inj ho); rfl)
            have h63 : tmps[63]?.getD undef = .bool false := hty 23 63 rfl (by obtain rfl := (Option.some.inj ho); rfl)
            obtain rfl := (Option.some.inj ho)
            clear hty ho
            refine step_pure (.int .i64 (j : Int)) (wanted_guard rfl rfl h63) ?_ (Ext.refl _) rfl
            simp [execOp, Act.eval, h75, hsub, hsub2, go_sem]
          | 37, ho =>
            have h74 : tmps[74]?.getD undef = .slice (some ⟨g, o, none⟩) L.length c := hty 34 74 rfl (by obtain rfl := (Option.some.inj ho); rfl)
            have h76 : tmps[76]?.getD undef = .int .i64 (j : Int) := hty 36 76 rfl (by obtain rfl := (Option.some.inj ho); rfl)
            have h63 : tmps[63]?.getD undef = .bool false := hty 23 63 rfl (by obtain rfl := (Option.some.inj ho); rfl)
            obtain rfl := (Option.some.inj ho)
            clear hty ho
            refine step_pure (.pointer (some ⟨g, o + j * 5, none⟩)) (wanted_guard rfl rfl h63) ?_ (Ext.refl _) rfl
            simp [execOp, Act.eval, h74, h76, hbx, go_sem]
          | 38, ho =>
            have h77 : tmps[77]?.getD undef = .pointer (some ⟨g, o + j * 5, none⟩) := hty 37 77 rfl (by obtain rfl := (Option.some.inj ho); rfl)
            have h63 : tmps[63]?.getD undef = .bool false := hty 23 63 rfl (by obtain rfl := (Option.some.inj ho); rfl)
            obtain rfl := (Option.some.inj ho)
            clear hty ho
            refine step_pure (evv a ra) (wanted_guard rfl rfl h63) ?_ (Ext.refl _) rfl
            simp [execOp, Act.eval, h77, evv, d0, d1, d2, d3, d4, go_sem]
          | 39, ho =>
            have h63 : tmps[63]?.getD undef = .bool false := hty 23 63 rfl (by obtain rfl := (Option.some.inj ho); rfl)
            obtain rfl := (Option.some.inj ho)
            clear hty ho
            refine step_pure (.slice (some ⟨g, o, none⟩) L.length c) (wanted_guard rfl rfl h63) ?_ (Ext.refl _) rfl
            simp [execOp, Act.eval, h0, go_sem]
          | 40, ho =>
            have h63 : tmps[63]?.getD undef = .bool false := hty 23 63 rfl (by obtain rfl := (Option.some.inj ho); rfl)
            obtain rfl := (Option.some.inj ho)
            clear hty ho
            refine step_pure (.int .i64 ((j : Int) + 1)) (wanted_guard rfl rfl h63) ?_ (Ext.refl _) rfl
            simp [execOp, Act.eval, h5, go_sem]
          | 41, ho =>
            have h79 : tmps[79]?.getD undef = .slice (some ⟨g, o, none⟩) L.length c := hty 39 79 rfl (by obtain rfl := (Option.some.inj ho); rfl)
            have h80 : tmps[80]?.getD undef = .int .i64 ((j : Int) + 1) := hty 40 80 rfl (by obtain rfl := (Option.some.inj ho); rfl)
            have h63 : tmps[63]?.getD undef = .bool false := hty 23 63 rfl (by obtain rfl := (Option.some.inj ho); rfl)
            obtain rfl := (Option.some.inj ho)
            clear hty ho
            refine step_pure (.pointer (some ⟨g, o + (j + 1) * 5, none⟩)) (wanted_guard rfl rfl h63) ?_ (Ext.refl _) rfl
            simp [execOp, Act.eval, h79, h80, hby, hcast, hneg, go_sem]
          | 42, ho =>
            have h81 : tmps[81]?.getD undef = .pointer (some ⟨g, o + (j + 1) * 5, none⟩) := hty 41 81 rfl (by obtain rfl := (Option.some.inj ho); rfl)
            have h63 : tmps[63]?.getD undef = .bool false := hty 23 63 rfl (by obtain rfl := (Option.some.inj ho); rfl)
            obtain rfl := (Option.some.inj ho)
            clear hty ho
            refine step_pure (evv b rb) (wanted_guard rfl rfl h63) ?_ (Ext.refl _) rfl
            simp [execOp, Act.eval, h81, evv, k0, k1, k2, k3, k4, go_sem]
          | 43, ho =>
            have h78 : tmps[78]?.getD undef = evv a ra := hty 38 78 rfl (by obtain rfl := (Option.some.inj ho); rfl)
            have h82 : tmps[82]?.getD undef = evv b rb := hty 42 82 rfl (by obtain rfl := (Option.some.inj ho); rfl)
            have h63 : tmps[63]?.getD undef = .bool false := hty 23 63 rfl (by obtain rfl := (Option.some.inj ho); rfl)
            obtain rfl := (Option.some.inj ho)
            clear hty ho
            refine step_call 18 #[evv a ra, evv b rb] (wanted_guard rfl rfl h63) ?_ ?_
            · simp [execOp, Act.eval, h78, h82, go_sem]
            · exact (rsame7_any a b ra rb _ (HVA.out.ext hle) (HVB.out.ext hle)).mono fun e w' ⟨h1, h2⟩ => ⟨_, h1, h2, rfl⟩
          | 44, ho =>
            have h73 : tmps[73]?.getD undef = .bool (sameEv a b) := hty 33 73 rfl (by obtain rfl := (Option.some.inj ho); rfl)
            have h83 : tmps[83]?.getD undef = .bool (sameEv a b) := hty 43 83 rfl (by obtain rfl := (Option.some.inj ho); rfl)
            have h63 : tmps[63]?.getD undef = .bool false := hty 23 63 rfl (by obtain rfl := (Option.some.inj ho); rfl)
            obtain rfl := (Option.some.inj ho)
            clear hty ho
            refine step_pure (.bool false) (wanted_guard rfl rfl h63) ?_ (Ext.refl _) rfl
            simp [execOp, Act.eval, h73, h83, go_sem]
          | 45, ho =>
            have h63 : tmps[63]?.getD undef = .bool false := hty 23 63 rfl (by obtain rfl := (Option.some.inj ho); rfl)
            have h84 : tmps[84]?.getD undef = .bool false := hty 44 84 rfl (by obtain rfl := (Option.some.inj ho); rfl)
            obtain rfl := (Option.some.inj ho)
            clear hty ho
            refine step_pure (.bool false) (wanted_free rfl) ?_ (Ext.refl _) rfl
            simp [execOp, Act.eval, h63, h84, go_sem]
          | (jj + 46), ho => exact absurd ho (by simp)
        · intro tmps w7 hle hs hfr hty
          have h0 : tmps[85]?.getD undef = .bool false := hty 45 85 rfl
          have hfe := frame_eq [40, 41, 42, 43, 44, 45, 46, 47, 48, 49, 50, 51, 52, 53, 54, 55, 56, 57, 58, 59, 60, 61, 62, 63, 64, 65, 66, 67, 68, 69, 70, 71, 72, 73, 74, 75, 76, 77, 78, 79, 80, 81, 82, 83, 84, 85] hs hfr (by kernel_rfl)
          rw [hfe]
          clear hfe hfr hs hty
          simp only [List.foldl_cons, List.foldl_nil]
          generalize tmps[40]?.getD undef = x40
          generalize tmps[41]?.getD undef = x41
          generalize tmps[42]?.getD undef = x42
          generalize tmps[43]?.getD undef = x43
          generalize tmps[44]?.getD undef = x44
          generalize tmps[45]?.getD undef = x45
          generalize tmps[46]?.getD undef = x46
          generalize tmps[47]?.getD undef = x47
          generalize tmps[48]?.getD undef = x48
          generalize tmps[49]?.getD undef = x49
          generalize tmps[50]?.getD undef = x50
          generalize tmps[51]?.getD undef = x51
          generalize tmps[52]?.getD undef = x52
          generalize tmps[53]?.getD undef = x53
          generalize tmps[54]?.getD undef = x54
          generalize tmps[55]?.getD undef = x55
          generalize tmps[56]?.getD undef = x56
          generalize tmps[57]?.getD undef = x57
          generalize tmps[58]?.getD undef = x58
          generalize tmps[59]?.getD undef = x59
          generalize tmps[60]?.getD undef = x60
          generalize tmps[61]?.getD undef = x61
          generalize tmps[62]?.getD undef = x62
          generalize tmps[63]?.getD undef = x63
          generalize tmps[64]?.getD undef = x64
          generalize tmps[65]?.getD undef = x65
          generalize tmps[66]?.getD undef = x66
          generalize tmps[67]?.getD undef = x67
          generalize tmps[68]?.getD undef = x68
          generalize tmps[69]?.getD undef = x69
          generalize tmps[70]?.getD undef = x70
          generalize tmps[71]?.getD undef = x71
          generalize tmps[72]?.getD undef = x72
          generalize tmps[73]?.getD undef = x73
          generalize tmps[74]?.getD undef = x74
          generalize tmps[75]?.getD undef = x75
          generalize tmps[76]?.getD undef = x76
          generalize tmps[77]?.getD undef = x77
          generalize tmps[78]?.getD undef = x78
          generalize tmps[79]?.getD undef = x79
          generalize tmps[80]?.getD undef = x80
          generalize tmps[81]?.getD undef = x81
          generalize tmps[82]?.getD undef = x82
          generalize tmps[83]?.getD undef = x83
          generalize tmps[84]?.getD undef = x84
          rw [h0]
          clear h0
          simp only [List.setIfInBounds_toArray, List.set_cons_succ, List.set_cons_zero]
          have HEX := hid (hext.out.trans hle)
          clear hle p0 p1 p2 p3 p4 q0 q1 q2 q3 q4 d0 d1 d2 d3 d4 k0 k1 k2 k3 k4
          go_wp2_with fail
          go_roundw
          case rel => exact ⟨j + 1, by omega, by go_num, HEX⟩
          case measure => simp only [intOf]; omega
      · have hlt' : ¬ (j : Int) + 1 < (L.length : Int) := by omega
        go_wp2_with fail
        refine (eawake_any _).mono ?_
        rintro e w11 ⟨rfl, hx⟩
        go_wp2_with fail
        go_ret
        exact ⟨rfl, (HX.out.trans hext.out).trans hx⟩
end Go.Proofs.Ytnldgmpfinlikaa
