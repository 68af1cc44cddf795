/- The document's Same of types, by its contract. Conditions: none. -/
import Derived.Test.YtggafdimbddflaaSR3
import Derived.BigQuiet
namespace Go.Proofs.Ytggafdimbddflaa
open Go Go.RowKit

def sameF : List FZ → List FZ → Bool
  | [], [] => true
  | f :: r, g :: s => decide (f.n = g.n ∧ f.k = g.k) && sameF r s
  | _, _ => false
def sameL : List TZ → List TZ → Bool
  | [], [] => true
  | t :: r, u :: s => decide (t.n = u.n) && sameF t.f u.f && sameL r s
  | _, _ => false
theorem sameF_iff : ∀ (F G : List FZ), sameF F G = true ↔ F = G
  | [], [] => ⟨fun _ => rfl, fun _ => rfl⟩
  | [], g :: s => ⟨fun h => (by cases h), fun h => (by cases h)⟩
  | f :: r, [] => ⟨fun h => (by cases h), fun h => (by cases h)⟩
  | f :: r, g :: s => by
    obtain ⟨fn, fk⟩ := f
    obtain ⟨gn, gk⟩ := g
    have ih := sameF_iff r s
    show (decide (fn = gn ∧ fk = gk) && sameF r s) = true ↔ _
    rw [Bool.and_eq_true, decide_eq_true_iff, ih]
    constructor
    · rintro ⟨⟨rfl, rfl⟩, rfl⟩; rfl
    · intro h; cases h; exact ⟨⟨rfl, rfl⟩, rfl⟩
theorem sameL_iff : ∀ (L M : List TZ), sameL L M = true ↔ L = M
  | [], [] => ⟨fun _ => rfl, fun _ => rfl⟩
  | [], g :: s => ⟨fun h => (by cases h), fun h => (by cases h)⟩
  | f :: r, [] => ⟨fun h => (by cases h), fun h => (by cases h)⟩
  | f :: r, g :: s => by
    obtain ⟨fn, ff⟩ := f
    obtain ⟨gn, gf⟩ := g
    have ih := sameL_iff r s
    show (decide (fn = gn) && sameF ff gf && sameL r s) = true ↔ _
    rw [Bool.and_eq_true, Bool.and_eq_true, decide_eq_true_iff, ih, sameF_iff]
    constructor
    · rintro ⟨⟨rfl, rfl⟩, rfl⟩; rfl
    · intro h; cases h; exact ⟨⟨rfl, rfl⟩, rfl⟩
theorem same_at {L M : List TZ} {i : Nat} (h : i < L.length) (hm : i < M.length) : sameL (L.drop i) (M.drop i) = (decide (L[i].n = M[i].n) && sameF L[i].f M[i].f && sameL (L.drop (i + 1)) (M.drop (i + 1))) := by
  rw [List.drop_eq_getElem_cons h, List.drop_eq_getElem_cons hm]
  rfl
theorem samef_at {L M : List FZ} {i : Nat} (h : i < L.length) (hm : i < M.length) : sameF (L.drop i) (M.drop i) = (decide (L[i].n = M[i].n ∧ L[i].k = M[i].k) && sameF (L.drop (i + 1)) (M.drop (i + 1))) := by
  rw [List.drop_eq_getElem_cons h, List.drop_eq_getElem_cons hm]
  rfl
theorem samef_len {F G : List FZ} (h : F.length ≠ G.length) : sameF F G = false := by
  rw [← Bool.not_eq_true, sameF_iff]
  rintro rfl
  exact h rfl
theorem same_len {F G : List TZ} (h : F.length ≠ G.length) : sameL F G = false := by
  rw [← Bool.not_eq_true, sameL_iff]
  rintro rfl
  exact h rfl
theorem run_ne_field (n : ByteArray) (k : Nat) (m : ByteArray) (l : Nat) (w : World) :
    (binOp .neq 66 (.agg #[.string n, .int .u8 (k : Int)]) (.agg #[.string m, .int .u8 (l : Int)])).run Try.prog w = .ok (.bool (!decide (n = m ∧ k = l))) w := by
  simp [go_sem]
  by_cases h4 : n = m
  · by_cases h1 : k = l
    · have h4' := (list_ba n m).2 h4
      simp [h1, h4]
    · have h1' : ¬ (k : Int) = (l : Int) := by omega
      simp [h1, h4, h1']
  · have h4' : ¬ n.toList = m.toList := fun h => h4 ((list_ba n m).1 h)
    simp [h4, h4']

set_option maxRecDepth 100000 in
set_option maxHeartbeats 8000000 in
theorem rsame6_any (L M : List TZ) (v u : Value) (w : World) (hv : TypesAt w v L) (hu : TypesAt w u M) : Calls Try.prog 12 #[v, u] w (Says w (.bool (sameL L M))) := by
  have HV := hid hv
  have HU := hid hu
  obtain ⟨A, c, rfl, q1, q2, _⟩ := hv
  obtain ⟨A2, c2, rfl, q3, q4, _⟩ := hu
  have hml : (L.length : Int) ≤ 9223372036854775807 := by unfold maxLen at q2; omega
  have hml2 : (M.length : Int) ≤ 9223372036854775807 := by unfold maxLen at q4; omega
  by_cases hl : L.length = M.length
  · have HO := hid (show sameL L M = sameL (L.drop 0) (M.drop 0) from rfl)
    generalize sameL L M = R at *
    have hl' : ((L.length : Int) != (M.length : Int)) = false := bne_eq_false_iff_eq.2 (by omega)
    have HL := hid hl
    clear hl
    go_enter Try.func12, Try.ntmps12
    go_wp2_with fail
    go_loopw [5] (fun x wr => ∃ i : Nat, i ≤ L.length ∧ x = .int .i64 (i : Int) ∧ Hid (R = sameL (L.drop i) (M.drop i)) ∧ Ext w wr)
      (fun x _ => L.length - (intOf x).toNat)
    case atStart => exact ⟨0, by omega, rfl, hid HO.out, Ext.refl _⟩
    case round =>
      obtain ⟨i, hi, rfl, ho, hext⟩ := hrel
      have HE := hid hext
      clear hext
      by_cases hlt : i < L.length
      · have hltM : i < M.length := by have := HL.out; omega
        obtain ⟨g, o, c', r, e1, _, _, d0, d1, hfr⟩ := (HV.out.ext HE.out).open_ hlt
        obtain ⟨rfl, rfl⟩ : A = some ⟨g, o, none⟩ ∧ c = c' := by simpa using e1
        obtain ⟨g2, o2, c'', r2, e2, _, _, a0, a1, hfr2⟩ := (HU.out.ext HE.out).open_ hltM
        obtain ⟨rfl, rfl⟩ : A2 = some ⟨g2, o2, none⟩ ∧ c2 = c'' := by simpa using e2
        have HAT := hid (same_at hlt hltM)
        generalize hT : L[i] = T at *
        generalize hU : M[i] = U at *
        obtain ⟨N, F⟩ := T
        obtain ⟨N2, G⟩ := U
        dsimp only at *
        have HF := hid hfr
        have HG := hid hfr2
        obtain ⟨A3, c3, rfl, _, q5, _⟩ := hfr
        obtain ⟨A4, c4, rfl, _, q6, _⟩ := hfr2
        have hml3 : (F.length : Int) ≤ 9223372036854775807 := by unfold maxLen at q5; omega
        have hml4 : (G.length : Int) ≤ 9223372036854775807 := by unfold maxLen at q6; omega
        clear e1 e2 hT hU
        by_cases he : N = N2
        · subst he
          have hb : (N.toList != N.toList) = false := bne_eq_false_iff_eq.2 rfl
          by_cases hlf : F.length = G.length
          · have hlf' : ((F.length : Int) != (G.length : Int)) = false := bne_eq_false_iff_eq.2 (by omega)
            have HLF := hid hlf
            have HR := hid (ho.out.trans (HAT.out.trans (by rw [decide_eq_true rfl, Bool.true_and])) : R = (sameF F G && sameL (L.drop (i + 1)) (M.drop (i + 1))))
            clear hlf
            go_wp2_with fail
            go_quiet (fail)
            go_wp2_with fail
            rename_i nq
            have HE3 := hid (HE.out.trans (Ext.drewN wr nq))
            have x1 : (wr.drewN nq).cell? ⟨g, o + i * 2 + 1, none⟩ = some (.slice A3 F.length c3) := (Ext.drewN wr nq).cell d1
            have x2 : (wr.drewN nq).cell? ⟨g2, o2 + i * 2 + 1, none⟩ = some (.slice A4 G.length c4) := (Ext.drewN wr nq).cell a1
            replace HF := hid (HF.out.ext (Ext.drewN wr nq))
            replace HG := hid (HG.out.ext (Ext.drewN wr nq))
            generalize wr.drewN nq = wn at *
            go_loopw [6] (fun y wq => ∃ j : Nat, j ≤ F.length ∧ y = .int .i64 (j : Int) ∧ Hid (R = (sameF (F.drop j) (G.drop j) && sameL (L.drop (i + 1)) (M.drop (i + 1)))) ∧ Ext wn wq)
              (fun y _ => F.length - (intOf y).toNat)
            case atStart => exact ⟨0, by omega, rfl, hid HR.out, Ext.refl _⟩
            case round =>
              obtain ⟨j, hj, rfl, hno, hextq⟩ := hrel
              have HQ := hid hextq
              have x1t : wr.cell? ⟨g, o + i * 2 + 1, none⟩ = some (.slice A3 F.length c3) := hextq.cell x1
              have x2t : wr.cell? ⟨g2, o2 + i * 2 + 1, none⟩ = some (.slice A4 G.length c4) := hextq.cell x2
              clear hextq
              by_cases hjl : j < F.length
              · have hjG : j < G.length := by have := HLF.out; omega
                obtain ⟨g3, o3, c', e1, _, _, y0, y1⟩ := (HF.out.ext HQ.out).open_ hjl
                obtain ⟨rfl, rfl⟩ : A3 = some ⟨g3, o3, none⟩ ∧ c3 = c' := by simpa using e1
                obtain ⟨g4, o4, c'', e2, _, _, z0, z1⟩ := (HG.out.ext HQ.out).open_ hjG
                obtain ⟨rfl, rfl⟩ : A4 = some ⟨g4, o4, none⟩ ∧ c4 = c'' := by simpa using e2
                have HJ := hid (samef_at hjl hjG)
                generalize hT : F[j] = T at *
                generalize hU : G[j] = U at *
                obtain ⟨n5, k5⟩ := T
                obtain ⟨n6, k6⟩ := U
                dsimp only at *
                have hne := fun W => run_ne_field n5 k5 n6 k6 W
                generalize decide (n5 = n6 ∧ k5 = k6) = Z at *
                clear e1 e2 hT hU
                cases Z
                · have HR2 := hid (hno.out.trans (by rw [HJ.out, Bool.false_and, Bool.false_and]) : R = false)
                  rw [Bool.not_false] at hne
                  go_wp2_with fail
                  go_quiet (fail)
                  go_wp2_with fail
                  go_ret
                  exact ⟨by rw [HR2.out]; rfl, (HE3.out.trans HQ.out).trans (Ext.drewN _ _)⟩
                · have HR2 := hid (hno.out.trans (by rw [HJ.out, Bool.true_and]) : R = (sameF (F.drop (j + 1)) (G.drop (j + 1)) && sameL (L.drop (i + 1)) (M.drop (i + 1))))
                  rw [Bool.not_true] at hne
                  go_wp2_with fail
                  go_quiet (fail)
                  go_wp2_with fail
                  go_roundw
                  case rel => exact ⟨j + 1, by omega, by go_num, HR2, HQ.out.trans (Ext.drewN _ _)⟩
                  case measure => simp only [intOf]; omega
              · have hj' : j = F.length := by omega
                subst hj'
                have HR2 := hid (hno.out.trans (by rw [List.drop_length, HLF.out, List.drop_length]; rfl) : R = sameL (L.drop (i + 1)) (M.drop (i + 1)))
                go_wp2_with fail
                go_roundw
                case rel => exact ⟨i + 1, by omega, by go_num, HR2, HE3.out.trans HQ.out⟩
                case measure => simp only [intOf]; omega
          · have hlf' : ((F.length : Int) != (G.length : Int)) = true := bne_iff_ne.2 (by omega)
            have HR := hid (ho.out.trans (HAT.out.trans (by rw [samef_len hlf, Bool.and_false, Bool.false_and])) : R = false)
            clear hlf
            go_wp2_with fail
            go_quiet (fail)
            go_wp2_with fail
            go_ret
            exact ⟨by rw [HR.out]; rfl, HE.out.trans (Ext.drewN _ _)⟩
        · have hb : (N.toList == N2.toList) = false := beq_eq_false_iff_ne.2 (fun e => he ((list_ba N N2).1 e))
          have hb2 : (!(N.toList == N2.toList)) = true := by rw [hb]; rfl
          have HR := hid (ho.out.trans (HAT.out.trans (by rw [decide_eq_false he, Bool.false_and, Bool.false_and])) : R = false)
          go_wp2_with fail
          go_quiet (fail)
          go_wp2_with fail
          go_ret
          exact ⟨by rw [HR.out]; rfl, HE.out.trans (Ext.drewN _ _)⟩
      · have hi' : i = L.length := by omega
        subst hi'
        go_wp2_with fail
        go_ret
        exact ⟨by rw [ho.out, List.drop_length, HL.out, List.drop_length]; rfl, HE.out⟩
  · rw [same_len hl]
    have hl' : ((L.length : Int) != (M.length : Int)) = true := bne_iff_ne.2 (by omega)
    clear hl
    go_enter Try.func12, Try.ntmps12
    go_wp2_with fail
    go_ret
    exact ⟨rfl, Ext.refl _⟩
end Go.Proofs.Ytggafdimbddflaa
