/- telltalelaw06.SchemaBack answers true. Conditions: none. -/
import Derived.Test.YtggafdimbddflaaSLaw4
import Derived.Test.YtggafdimbddflaaSBackM
namespace Go.Proofs.Ytggafdimbddflaa
open Go Go.RowKit

theorem check_fine {L : List TZ} (h : checkZ L = 0) : ∀ t ∈ L, TypeFine t := by
  unfold checkZ at h
  by_cases h8 : 8 < L.length
  · rw [if_pos h8] at h; cases h
  · rw [if_neg h8] at h
    intro t ht
    obtain ⟨h1, h2, h3⟩ := one_ok (types_ok L [] h t ht)
    exact ⟨h1, fun f hf => fields_ok t.f [] h3 f hf⟩
theorem parse_print {L : List TZ} (h : checkZ L = 0) : parseZ (printZ L) = (L, 0) := by
  rw [parse_text, text_print L (check_fine h)]
  exact if_pos h
theorem print_parse {l : List UInt8} (h : (parseZ l).2 = 0) : printZ (parseZ l).1 = l := by
  rcases parse_ok l with ⟨_, _, h3⟩ | ⟨h1, _⟩
  · exact text_back _ l _ (Nat.le_refl _) h3
  · exact absurd h h1
/-- a text is this schema's just if it is read as it -/
theorem print_iff {L : List TZ} {s : ByteArray} (h : checkZ L = 0) : bytesA (printZ L) = s ↔ (parseZ s.data.toList).2 = 0 ∧ (parseZ s.data.toList).1 = L := by
  constructor
  · rintro rfl
    rw [bytesA_list, parse_print h]
    exact ⟨rfl, rfl⟩
  · rintro ⟨h1, rfl⟩
    rw [print_parse h1, bytesA_self]

set_option maxRecDepth 100000 in
set_option maxHeartbeats 3000000 in
theorem sback_any (L : List TZ) (v : Value) (s : ByteArray) (w : World) (hv : TypesAt w v L) (hok : TypesOk L) (hs : s.size ≤ 9223372036854775807) : Calls Try.prog 6 #[v, .string s] w (Says w (.bool true)) := by
  have kov := fun W (h : Ext w W) => over_any L v W (hv.ext h)
  have HV := hid hv
  clear hv
  cases hin : typesIn L
  · have ho : overZ L = 1 := by unfold overZ; rw [hin]; rfl
    rw [ho] at kov
    go_enter Try.func6, Try.ntmps6
    go_wp2_with fail
    refine (kov _ (Ext.refl _)).mono ?_
    rintro e w1 ⟨rfl, hx⟩
    go_wp2_with fail
    refine (sawake_any _).mono ?_
    rintro e w2 ⟨rfl, hx2⟩
    go_wp2_with fail
    go_ret
    exact ⟨rfl, hx.trans hx2⟩
  · have ho : overZ L = 0 := by unfold overZ; rw [hin]; rfl
    rw [ho] at kov
    have hsm := in_small hin hok
    by_cases h6 : 600 < s.size
    · have h6' : 600 < (s.size : Int) := by omega
      go_enter Try.func6, Try.ntmps6
      go_wp2_with fail
      refine (kov _ (Ext.refl _)).mono ?_
      rintro e w1 ⟨rfl, hx⟩
      go_wp2_with fail
      refine (sawake_any _).mono ?_
      rintro e w2 ⟨rfl, hx2⟩
      go_wp2_with fail
      go_ret
      exact ⟨rfl, hx.trans hx2⟩
    · have h6' : ¬ 600 < (s.size : Int) := by omega
      have k1 := fun W => sparse_any s W (by omega)
      have hps := parse_small s.data.toList
      have hpo := parse_ok s.data.toList
      have hpp := @print_parse s.data.toList
      have hpi := @print_iff L s
      generalize parseZ s.data.toList = P at *
      obtain ⟨M, E⟩ := P
      dsimp only at *
      have hpl := print_len hsm.2
      have hl12 := hsm.1
      have k2 := fun W => sparse_any (bytesA (printZ L)) W (by rw [bytesA_size]; omega)
      rw [bytesA_list] at k2
      have HSM := hid hsm
      have HPS := hid hps
      have HPI := hid hpi
      have HPP := hid hpp
      have HPO := hid hpo
      clear hsm hps hpi hpp hpo hpl hl12 hok
      go_enter Try.func6, Try.ntmps6
      go_wp2_with fail
      refine (kov _ (Ext.refl _)).mono ?_
      rintro e w1 ⟨rfl, hx⟩
      have HX := hid hx
      clear hx kov
      go_wp2_with fail
      refine (k1 _).mono ?_
      rintro e w2 ⟨v2, rfl, ht2, hx⟩
      replace HX := hid (HX.out.trans hx)
      have HM := hid ht2
      clear hx k1 ht2
      by_cases hE : E = 0
      · subst hE
        have hpm : bytesA (printZ M) = s := by rw [HPP.out rfl, bytesA_self]
        have hcm : checkZ M = 0 := by
          rcases HPO.out with ⟨_, h, _⟩ | ⟨h, _⟩
          · exact h
          · exact absurd rfl h
        have kp := fun W (h : TypesAt W v2 M) => sprint_any M v2 W h HPS.out
        have kcm := fun W (h : TypesAt W v2 M) => scheck_any M v2 W h HPS.out
        rw [hpm] at kp
        rw [hcm] at kcm
        clear hpm hcm
        have kpl := fun W u (h : TypesAt W u L) => sprint_any L u W h HSM.out
        by_cases hC : checkZ L = 0
        · have kc := fun W u (h : TypesAt W u L) => scheck_any L u W h HSM.out
          rw [hC] at kc
          rw [parse_print hC] at k2
          have ks := fun W x u (h : TypesAt W x L) (h2 : TypesAt W u L) => ssame_any L L x u W h h2 HSM.out HSM.out
          rw [(sameL_iff L L).2 rfl] at ks
          have hpi := HPI.out hC
          by_cases hA : bytesA (printZ L) = s
          · have hM : M = L := (hpi.1 hA).2
            have km := fun W x u (h : TypesAt W x M) (h2 : TypesAt W u L) => ssame_any M L x u W h h2 HPS.out HSM.out
            rw [(sameL_iff M L).2 hM] at km
            have hb : ((bytesA (printZ L)).toList == s.toList) = true := beq_iff_eq.2 ((list_ba _ _).2 hA)
            clear hA hpi hM
            generalize bytesA (printZ L) = PS at *
            go_wp2_with fail
            refine (kp _ HM.out).mono ?_
            rintro e w9 ⟨rfl, hx⟩
            replace HX := hid (HX.out.trans hx)
            replace HM := hid (HM.out.ext hx)
            clear hx
            go_wp2_with fail
            refine (kcm _ HM.out).mono ?_
            rintro e w9 ⟨rfl, hx⟩
            replace HX := hid (HX.out.trans hx)
            replace HM := hid (HM.out.ext hx)
            clear hx
            go_wp2_with fail
            refine (own6_any L v _ (HV.out.ext HX.out) HSM.out).mono ?_
            rintro e w9 ⟨v5, rfl, ht5, hx⟩
            replace HX := hid (HX.out.trans hx)
            replace HM := hid (HM.out.ext hx)
            have HO5 := hid ht5
            clear ht5
            clear hx
            go_wp2_with fail
            refine (kpl _ _ HO5.out).mono ?_
            rintro e w9 ⟨rfl, hx⟩
            replace HX := hid (HX.out.trans hx)
            replace HM := hid (HM.out.ext hx)
            replace HO5 := hid (HO5.out.ext hx)
            clear hx
            go_wp2_with fail
            refine (k2 _).mono ?_
            rintro e w9 ⟨v6, rfl, ht6, hx⟩
            replace HX := hid (HX.out.trans hx)
            replace HM := hid (HM.out.ext hx)
            replace HO5 := hid (HO5.out.ext hx)
            have HO6 := hid ht6
            clear ht6
            clear hx
            go_wp2_with fail
            refine (kc _ _ HO5.out).mono ?_
            rintro e w9 ⟨rfl, hx⟩
            replace HX := hid (HX.out.trans hx)
            replace HM := hid (HM.out.ext hx)
            replace HO5 := hid (HO5.out.ext hx)
            replace HO6 := hid (HO6.out.ext hx)
            clear hx
            go_wp2_with fail
            refine (ks _ _ _ HO6.out HO5.out).mono ?_
            rintro e w9 ⟨rfl, hx⟩
            replace HX := hid (HX.out.trans hx)
            replace HM := hid (HM.out.ext hx)
            replace HO5 := hid (HO5.out.ext hx)
            clear hx
            go_wp2_with fail
            refine (kpl _ _ HO5.out).mono ?_
            rintro e w9 ⟨rfl, hx⟩
            replace HX := hid (HX.out.trans hx)
            replace HM := hid (HM.out.ext hx)
            replace HO5 := hid (HO5.out.ext hx)
            clear hx
            go_wp2_with fail
            refine (km _ _ _ HM.out HO5.out).mono ?_
            rintro e w9 ⟨rfl, hx⟩
            replace HX := hid (HX.out.trans hx)
            clear hx
            go_wp2_with fail
            refine (sawake_any _).mono ?_
            rintro e w9 ⟨rfl, hx⟩
            replace HX := hid (HX.out.trans hx)
            clear hx
            go_wp2_with fail
            go_ret
            exact ⟨rfl, HX.out⟩
          · have hM : sameL M L = false := by
              rw [← Bool.not_eq_true, sameL_iff]
              exact fun h => hA (hpi.2 ⟨rfl, h⟩)
            have km := fun W x u (h : TypesAt W x M) (h2 : TypesAt W u L) => ssame_any M L x u W h h2 HPS.out HSM.out
            rw [hM] at km
            have hb : ((bytesA (printZ L)).toList == s.toList) = false := beq_eq_false_iff_ne.2 (fun e => hA ((list_ba _ _).1 e))
            clear hA hpi hM
            generalize bytesA (printZ L) = PS at *
            go_wp2_with fail
            refine (kp _ HM.out).mono ?_
            rintro e w9 ⟨rfl, hx⟩
            replace HX := hid (HX.out.trans hx)
            replace HM := hid (HM.out.ext hx)
            clear hx
            go_wp2_with fail
            refine (kcm _ HM.out).mono ?_
            rintro e w9 ⟨rfl, hx⟩
            replace HX := hid (HX.out.trans hx)
            replace HM := hid (HM.out.ext hx)
            clear hx
            go_wp2_with fail
            refine (own6_any L v _ (HV.out.ext HX.out) HSM.out).mono ?_
            rintro e w9 ⟨v5, rfl, ht5, hx⟩
            replace HX := hid (HX.out.trans hx)
            replace HM := hid (HM.out.ext hx)
            have HO5 := hid ht5
            clear ht5
            clear hx
            go_wp2_with fail
            refine (kpl _ _ HO5.out).mono ?_
            rintro e w9 ⟨rfl, hx⟩
            replace HX := hid (HX.out.trans hx)
            replace HM := hid (HM.out.ext hx)
            replace HO5 := hid (HO5.out.ext hx)
            clear hx
            go_wp2_with fail
            refine (k2 _).mono ?_
            rintro e w9 ⟨v6, rfl, ht6, hx⟩
            replace HX := hid (HX.out.trans hx)
            replace HM := hid (HM.out.ext hx)
            replace HO5 := hid (HO5.out.ext hx)
            have HO6 := hid ht6
            clear ht6
            clear hx
            go_wp2_with fail
            refine (kc _ _ HO5.out).mono ?_
            rintro e w9 ⟨rfl, hx⟩
            replace HX := hid (HX.out.trans hx)
            replace HM := hid (HM.out.ext hx)
            replace HO5 := hid (HO5.out.ext hx)
            replace HO6 := hid (HO6.out.ext hx)
            clear hx
            go_wp2_with fail
            refine (ks _ _ _ HO6.out HO5.out).mono ?_
            rintro e w9 ⟨rfl, hx⟩
            replace HX := hid (HX.out.trans hx)
            replace HM := hid (HM.out.ext hx)
            replace HO5 := hid (HO5.out.ext hx)
            clear hx
            go_wp2_with fail
            refine (kpl _ _ HO5.out).mono ?_
            rintro e w9 ⟨rfl, hx⟩
            replace HX := hid (HX.out.trans hx)
            replace HM := hid (HM.out.ext hx)
            replace HO5 := hid (HO5.out.ext hx)
            clear hx
            go_wp2_with fail
            refine (km _ _ _ HM.out HO5.out).mono ?_
            rintro e w9 ⟨rfl, hx⟩
            replace HX := hid (HX.out.trans hx)
            clear hx
            go_wp2_with fail
            refine (sawake_any _).mono ?_
            rintro e w9 ⟨rfl, hx⟩
            replace HX := hid (HX.out.trans hx)
            clear hx
            go_wp2_with fail
            go_ret
            exact ⟨rfl, HX.out⟩
        · have kc := fun W u (h : TypesAt W u L) => scheck_any L u W h HSM.out
          have hCb : (checkZ L != 0) = true := bne_iff_ne.2 hC
          generalize checkZ L = CL at *
          generalize parseZ (printZ L) = P2 at *
          obtain ⟨M2, E2⟩ := P2
          generalize bytesA (printZ L) = PS at *
          clear hC HPI
          go_wp2_with fail
          refine (kp _ HM.out).mono ?_
          rintro e w9 ⟨rfl, hx⟩
          replace HX := hid (HX.out.trans hx)
          replace HM := hid (HM.out.ext hx)
          clear hx
          go_wp2_with fail
          refine (kcm _ HM.out).mono ?_
          rintro e w9 ⟨rfl, hx⟩
          replace HX := hid (HX.out.trans hx)
          replace HM := hid (HM.out.ext hx)
          clear hx
          go_wp2_with fail
          refine (own6_any L v _ (HV.out.ext HX.out) HSM.out).mono ?_
          rintro e w9 ⟨v5, rfl, ht5, hx⟩
          replace HX := hid (HX.out.trans hx)
          replace HM := hid (HM.out.ext hx)
          have HO5 := hid ht5
          clear ht5
          clear hx
          go_wp2_with fail
          refine (kpl _ _ HO5.out).mono ?_
          rintro e w9 ⟨rfl, hx⟩
          replace HX := hid (HX.out.trans hx)
          replace HM := hid (HM.out.ext hx)
          replace HO5 := hid (HO5.out.ext hx)
          clear hx
          go_wp2_with fail
          refine (k2 _).mono ?_
          rintro e w9 ⟨v6, rfl, ht6, hx⟩
          replace HX := hid (HX.out.trans hx)
          replace HM := hid (HM.out.ext hx)
          replace HO5 := hid (HO5.out.ext hx)
          obtain ⟨A6, c6, rfl, _, _, _⟩ := ht6
          clear hx
          go_wp2_with fail
          refine (kc _ _ HO5.out).mono ?_
          rintro e w9 ⟨rfl, hx⟩
          replace HX := hid (HX.out.trans hx)
          clear hx
          go_wp2_with fail
          refine (sawake_any _).mono ?_
          rintro e w9 ⟨rfl, hx⟩
          replace HX := hid (HX.out.trans hx)
          clear hx
          go_wp2_with fail
          go_ret
          exact ⟨rfl, HX.out⟩
      · have hM : M = [] := by
          rcases HPO.out with ⟨h, _, _⟩ | ⟨_, h⟩
          · exact absurd h hE
          · exact h
        subst hM
        obtain ⟨A9, c9, rfl, _, _, _⟩ := HM.out
        have hE1 : (E == 0) = false := beq_eq_false_iff_ne.2 hE
        have hE2 : (E != 0) = true := bne_iff_ne.2 hE
        have kpl := fun W u (h : TypesAt W u L) => sprint_any L u W h HSM.out
        by_cases hC : checkZ L = 0
        · have kc := fun W u (h : TypesAt W u L) => scheck_any L u W h HSM.out
          rw [hC] at kc
          rw [parse_print hC] at k2
          have ks := fun W x u (h : TypesAt W x L) (h2 : TypesAt W u L) => ssame_any L L x u W h h2 HSM.out HSM.out
          rw [(sameL_iff L L).2 rfl] at ks
          have hpi := HPI.out hC
          have hb : ((bytesA (printZ L)).toList == s.toList) = false := beq_eq_false_iff_ne.2 (fun e => hE (hpi.1 ((list_ba _ _).1 e)).1)
          clear hpi
          generalize bytesA (printZ L) = PS at *
          go_wp2_with fail
          refine (own6_any L v _ (HV.out.ext HX.out) HSM.out).mono ?_
          rintro e w9 ⟨v5, rfl, ht5, hx⟩
          replace HX := hid (HX.out.trans hx)
          replace HM := hid (HM.out.ext hx)
          have HO5 := hid ht5
          clear ht5
          clear hx
          go_wp2_with fail
          refine (kpl _ _ HO5.out).mono ?_
          rintro e w9 ⟨rfl, hx⟩
          replace HX := hid (HX.out.trans hx)
          replace HM := hid (HM.out.ext hx)
          replace HO5 := hid (HO5.out.ext hx)
          clear hx
          go_wp2_with fail
          refine (k2 _).mono ?_
          rintro e w9 ⟨v6, rfl, ht6, hx⟩
          replace HX := hid (HX.out.trans hx)
          replace HM := hid (HM.out.ext hx)
          replace HO5 := hid (HO5.out.ext hx)
          have HO6 := hid ht6
          clear ht6
          clear hx
          go_wp2_with fail
          refine (kc _ _ HO5.out).mono ?_
          rintro e w9 ⟨rfl, hx⟩
          replace HX := hid (HX.out.trans hx)
          replace HM := hid (HM.out.ext hx)
          replace HO5 := hid (HO5.out.ext hx)
          replace HO6 := hid (HO6.out.ext hx)
          clear hx
          go_wp2_with fail
          refine (ks _ _ _ HO6.out HO5.out).mono ?_
          rintro e w9 ⟨rfl, hx⟩
          replace HX := hid (HX.out.trans hx)
          replace HM := hid (HM.out.ext hx)
          replace HO5 := hid (HO5.out.ext hx)
          clear hx
          go_wp2_with fail
          refine (kpl _ _ HO5.out).mono ?_
          rintro e w9 ⟨rfl, hx⟩
          replace HX := hid (HX.out.trans hx)
          replace HM := hid (HM.out.ext hx)
          replace HO5 := hid (HO5.out.ext hx)
          clear hx
          go_wp2_with fail
          refine (sawake_any _).mono ?_
          rintro e w9 ⟨rfl, hx⟩
          replace HX := hid (HX.out.trans hx)
          clear hx
          go_wp2_with fail
          go_ret
          exact ⟨rfl, HX.out⟩
        · have kc := fun W u (h : TypesAt W u L) => scheck_any L u W h HSM.out
          have hCb : (checkZ L != 0) = true := bne_iff_ne.2 hC
          generalize checkZ L = CL at *
          generalize parseZ (printZ L) = P2 at *
          obtain ⟨M2, E2⟩ := P2
          generalize bytesA (printZ L) = PS at *
          clear hC HPI
          go_wp2_with fail
          refine (own6_any L v _ (HV.out.ext HX.out) HSM.out).mono ?_
          rintro e w9 ⟨v5, rfl, ht5, hx⟩
          replace HX := hid (HX.out.trans hx)
          replace HM := hid (HM.out.ext hx)
          have HO5 := hid ht5
          clear ht5
          clear hx
          go_wp2_with fail
          refine (kpl _ _ HO5.out).mono ?_
          rintro e w9 ⟨rfl, hx⟩
          replace HX := hid (HX.out.trans hx)
          replace HM := hid (HM.out.ext hx)
          replace HO5 := hid (HO5.out.ext hx)
          clear hx
          go_wp2_with fail
          refine (k2 _).mono ?_
          rintro e w9 ⟨v6, rfl, ht6, hx⟩
          replace HX := hid (HX.out.trans hx)
          replace HM := hid (HM.out.ext hx)
          replace HO5 := hid (HO5.out.ext hx)
          obtain ⟨A6, c6, rfl, _, _, _⟩ := ht6
          clear hx
          go_wp2_with fail
          refine (kc _ _ HO5.out).mono ?_
          rintro e w9 ⟨rfl, hx⟩
          replace HX := hid (HX.out.trans hx)
          clear hx
          go_wp2_with fail
          refine (sawake_any _).mono ?_
          rintro e w9 ⟨rfl, hx⟩
          replace HX := hid (HX.out.trans hx)
          clear hx
          go_wp2_with fail
          go_ret
          exact ⟨rfl, HX.out⟩
end Go.Proofs.Ytggafdimbddflaa
