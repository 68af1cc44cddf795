/- The landed program's Same of types, by its contract. Conditions: none. -/
import Derived.Test.YtggafdimbddflaaSP4
namespace Go.Proofs.Ytggafdimbddflaa
open Go Go.RowKit

theorem run_ne_ofield (n : ByteArray) (k : Nat) (m : ByteArray) (l : Nat) (w : World) :
    (binOp .neq 70 (.agg #[.string n, .int .u8 (k : Int)]) (.agg #[.string m, .int .u8 (l : Int)])).run Try.prog w = .ok (.bool (!decide (n = m ∧ k = l))) w := by
  simp [go_sem]
  by_cases h4 : n = m
  · by_cases h1 : k = l
    · have h4' := (list_ba n m).2 h4
      simp [h4, h1]
    · have h1' : ¬ ((k : Int) = (l : Int)) := by omega
      have h4' := (list_ba n m).2 h4
      simp [h4, h1, h1']
  · have h4' : ¬ n.toList = m.toList := fun e => h4 ((list_ba n m).1 e)
    simp [h4', h4]

set_option maxRecDepth 100000 in
set_option maxHeartbeats 4000000 in
theorem sequalf_any (F G : List FZ) (v u : Value) (w : World) (hf : FieldsAt w v F) (hg : FieldsAt w u G) : Calls Try.prog 43 #[v, u] w (Says w (.bool (sameF F G))) := by
  have HF := hid hf
  have HG := hid hg
  obtain ⟨A, c, rfl, _, q1, _⟩ := hf
  obtain ⟨A2, c2, rfl, _, q2, _⟩ := hg
  have hml : (F.length : Int) ≤ 9223372036854775807 := by unfold maxLen at q1; omega
  have hml2 : (G.length : Int) ≤ 9223372036854775807 := by unfold maxLen at q2; omega
  by_cases hl : F.length = G.length
  · have HO := hid (show sameF F G = sameF (F.drop 0) (G.drop 0) from rfl)
    generalize sameF F G = R at *
    have hl' : ((F.length : Int) != (G.length : Int)) = false := bne_eq_false_iff_eq.2 (by omega)
    have HL := hid hl
    clear hl
    go_enter Try.func43, Try.ntmps43
    go_wp2_with fail
    go_loopw [13] (fun x wr => ∃ i : Nat, i ≤ F.length ∧ x = .int .i64 (i : Int) ∧ Hid (R = sameF (F.drop i) (G.drop i)) ∧ Ext w wr)
      (fun x _ => F.length - (intOf x).toNat)
    case atStart => exact ⟨0, by omega, rfl, hid HO.out, Ext.refl _⟩
    case round =>
      obtain ⟨i, hi, rfl, ho, hext⟩ := hrel
      have HE := hid hext
      clear hext
      by_cases hlt : i < F.length
      · have hltG : i < G.length := by have := HL.out; omega
        obtain ⟨g, o, c', e1, _, _, d0, d1⟩ := (HF.out.ext HE.out).open_ hlt
        obtain ⟨rfl, rfl⟩ : A = some ⟨g, o, none⟩ ∧ c = c' := by simpa using e1
        obtain ⟨g2, o2, c'', e2, _, _, a0, a1⟩ := (HG.out.ext HE.out).open_ hltG
        obtain ⟨rfl, rfl⟩ : A2 = some ⟨g2, o2, none⟩ ∧ c2 = c'' := by simpa using e2
        have HJ := hid (samef_at hlt hltG)
        generalize hT : F[i] = T at *
        generalize hU : G[i] = U at *
        obtain ⟨n5, k5⟩ := T
        obtain ⟨n6, k6⟩ := U
        dsimp only at *
        have hne := fun W => run_ne_ofield n5 k5 n6 k6 W
        generalize decide (n5 = n6 ∧ k5 = k6) = Z at *
        clear e1 e2 hT hU
        cases Z
        · have HR2 := hid (ho.out.trans (by rw [HJ.out, Bool.false_and]) : R = false)
          rw [Bool.not_false] at hne
          go_wp2_with fail
          go_quiet (fail)
          go_wp2_with fail
          go_ret
          exact ⟨by rw [HR2.out]; rfl, HE.out.trans (Ext.drewN _ _)⟩
        · have HR2 := hid (ho.out.trans (by rw [HJ.out, Bool.true_and]) : R = sameF (F.drop (i + 1)) (G.drop (i + 1)))
          rw [Bool.not_true] at hne
          go_wp2_with fail
          go_quiet (fail)
          go_wp2_with fail
          go_roundw
          case rel => exact ⟨i + 1, by omega, by go_num, HR2, HE.out.trans (Ext.drewN _ _)⟩
          case measure => simp only [intOf]; omega
      · have hi' : i = F.length := by omega
        subst hi'
        go_wp2_with fail
        go_ret
        exact ⟨by rw [ho.out, List.drop_length, HL.out, List.drop_length]; rfl, HE.out⟩
  · rw [samef_len hl]
    have hl' : ((F.length : Int) != (G.length : Int)) = true := bne_iff_ne.2 (by omega)
    clear hl
    go_enter Try.func43, Try.ntmps43
    go_wp2_with fail
    go_ret
    exact ⟨rfl, Ext.refl _⟩

set_option maxRecDepth 100000 in
set_option maxHeartbeats 2000000 in
theorem ssame1_any (N M : ByteArray) (F G : List FZ) (r q : Value) (w : World) (hf : FieldsAt w r F) (hg : FieldsAt w q G) : Calls Try.prog 42 #[.agg #[.string N, r], .agg #[.string M, q]] w (Says w (.bool (decide (N = M) && sameF F G))) := by
  have ke := fun W (h : Ext w W) => sequalf_any F G r q W (hf.ext h) (hg.ext h)
  obtain ⟨A, c, rfl, _, _, _⟩ := hf
  obtain ⟨A2, c2, rfl, _, _, _⟩ := hg
  generalize sameF F G = R at *
  have HX := hid ((Ext.alloc w (Obj.cells #[.string N, .slice A F.length c] 30 (0, 0))).then_alloc (Obj.cells #[.string M, .slice A2 G.length c2] 30 (0, 0)))
  have HB2 := hid (heap_alloc2_new w (Obj.cells #[.string N, .slice A F.length c] 30 (0, 0)) (Obj.cells #[.string M, .slice A2 G.length c2] 30 (0, 0)))
  have HB1 := hid (heap_alloc2_old w (Obj.cells #[.string N, .slice A F.length c] 30 (0, 0)) (Obj.cells #[.string M, .slice A2 G.length c2] 30 (0, 0)))
  obtain ⟨⟨b0, b1⟩, _, _⟩ := box2 HB1.out
  obtain ⟨⟨a0, a1⟩, _, _⟩ := box2 HB2.out
  have ke := ke _ HX.out
  by_cases he : N = M
  · have hb : (N.toList == M.toList) = true := beq_iff_eq.2 (by rw [he])
    rw [decide_eq_true he, Bool.true_and]
    clear he
    go_enter Try.func42, Try.ntmps42
    go_wp2_with (go_at_call 43; refine ke.mono ?_; rintro e2 w3 ⟨rfl, hx⟩)
    go_ret
    exact ⟨rfl, HX.out.trans hx⟩
  · have hb : (N.toList == M.toList) = false := beq_eq_false_iff_ne.2 (fun e => he ((list_ba N M).1 e))
    rw [decide_eq_false he, Bool.false_and]
    clear he
    go_enter Try.func42, Try.ntmps42
    go_wp2_with fail
    go_ret
    exact ⟨rfl, HX.out⟩

set_option maxRecDepth 100000 in
set_option maxHeartbeats 4000000 in
theorem sequalt_any (L M : List TZ) (v u : Value) (w : World) (hv : TypesAt w v L) (hu : TypesAt w u M) :
    Calls Try.prog 41 #[v, u, .func (.func 42) #[] #[]] w (Says w (.bool (sameL L M))) := by
  have HV := hid hv
  have HU := hid hu
  obtain ⟨A, c, rfl, _, q1, _⟩ := hv
  obtain ⟨A2, c2, rfl, _, q2, _⟩ := hu
  have hml : (L.length : Int) ≤ 9223372036854775807 := by unfold maxLen at q1; omega
  have hml2 : (M.length : Int) ≤ 9223372036854775807 := by unfold maxLen at q2; omega
  by_cases hl : L.length = M.length
  · have HO := hid (show sameL L M = sameL (L.drop 0) (M.drop 0) from rfl)
    generalize sameL L M = R at *
    have hl' : ((L.length : Int) != (M.length : Int)) = false := bne_eq_false_iff_eq.2 (by omega)
    have HL := hid hl
    clear hl
    go_enter Try.func41, Try.ntmps41
    go_wp2_with fail
    go_loopw [17] (fun x wr => ∃ i : Nat, i ≤ L.length ∧ x = .int .i64 (i : Int) ∧ Hid (R = sameL (L.drop i) (M.drop i)) ∧ Ext w wr)
      (fun x _ => L.length - (intOf x).toNat)
    case atStart => exact ⟨0, by omega, rfl, hid HO.out, Ext.refl _⟩
    case round =>
      obtain ⟨i, hi, rfl, ho, hext⟩ := hrel
      have HE := hid hext
      clear hext
      by_cases hlt : i < L.length
      · have hltM : i < M.length := by have := HL.out; omega
        obtain ⟨g, o, c', r, e1, _, _, d0, d1, hfr⟩ := (HV.out.ext HE.out).open_ hlt
        obtain ⟨rfl, rfl⟩ : A = some ⟨g, o, none⟩ ∧ c = c' := by simpa using e1
        obtain ⟨g2, o2, c'', r2, e2, _, _, a0, a1, hfr2⟩ := (HU.out.ext HE.out).open_ hltM
        obtain ⟨rfl, rfl⟩ : A2 = some ⟨g2, o2, none⟩ ∧ c2 = c'' := by simpa using e2
        have HAT := hid (same_at hlt hltM)
        generalize hT : L[i] = T at *
        generalize hU : M[i] = U at *
        obtain ⟨N, F⟩ := T
        obtain ⟨N2, G⟩ := U
        dsimp only at *
        have kk := fun W (h : Ext wr W) => ssame1_any N N2 F G r r2 W (hfr.ext h) (hfr2.ext h)
        obtain ⟨A3, c3, rfl, _, q5, _⟩ := hfr
        obtain ⟨A4, c4, rfl, _, q6, _⟩ := hfr2
        generalize (decide (N = N2) && sameF F G) = Z at *
        have HX2 := hid ((Ext.alloc wr (Obj.cells #[.string N, .slice A3 F.length c3] 30 (0, 0))).then_alloc (Obj.cells #[.string N2, .slice A4 G.length c4] 30 (0, 0)))
        have HB2 := hid (heap_alloc2_new wr (Obj.cells #[.string N, .slice A3 F.length c3] 30 (0, 0)) (Obj.cells #[.string N2, .slice A4 G.length c4] 30 (0, 0)))
        have HB1 := hid (heap_alloc2_old wr (Obj.cells #[.string N, .slice A3 F.length c3] 30 (0, 0)) (Obj.cells #[.string N2, .slice A4 G.length c4] 30 (0, 0)))
        obtain ⟨⟨x0, x1⟩, _, _⟩ := box2 HB1.out
        obtain ⟨⟨y0, y1⟩, _, _⟩ := box2 HB2.out
        have z0 := (Ext.alloc wr (Obj.cells #[.string N, .slice A3 F.length c3] 30 (0, 0))).cell a0
        have z1 := (Ext.alloc wr (Obj.cells #[.string N, .slice A3 F.length c3] 30 (0, 0))).cell a1
        have kk := kk _ HX2.out
        clear e1 e2 hT hU
        cases Z
        · have HR := hid (ho.out.trans (by rw [HAT.out, Bool.false_and]) : R = false)
          go_wp2_with (go_at_call 42; refine kk.mono ?_; rintro e2 w3 ⟨rfl, hx⟩)
          go_ret
          exact ⟨by rw [HR.out]; rfl, (HE.out.trans HX2.out).trans hx⟩
        · have HR := hid (ho.out.trans (by rw [HAT.out, Bool.true_and]) : R = sameL (L.drop (i + 1)) (M.drop (i + 1)))
          go_wp2_with (go_at_call 42; refine kk.mono ?_; rintro e2 w3 ⟨rfl, hx⟩)
          go_roundw
          case rel => exact ⟨i + 1, by omega, by go_num, HR, (HE.out.trans HX2.out).trans hx⟩
          case measure => simp only [intOf]; omega
      · have hi' : i = L.length := by omega
        subst hi'
        go_wp2_with fail
        go_ret
        exact ⟨by rw [ho.out, List.drop_length, HL.out, List.drop_length]; rfl, HE.out⟩
  · rw [same_len hl]
    have hl' : ((L.length : Int) != (M.length : Int)) = true := bne_iff_ne.2 (by omega)
    clear hl
    go_enter Try.func41, Try.ntmps41
    go_wp2_with fail
    go_ret
    exact ⟨rfl, Ext.refl _⟩

set_option maxHeartbeats 1000000 in
theorem ssame_any (L M : List TZ) (v u : Value) (w : World) (hv : TypesAt w v L) (hu : TypesAt w u M) (_hsm : TypesSmall L) (_hsm2 : TypesSmall M) : Calls Try.prog 18 #[v, u] w (Says w (.bool (sameL L M))) := by
  have kk := sequalt_any L M v u w hv hu
  go_enter Try.func18, Try.ntmps18
  go_wp2_with (go_at_call 41; refine kk.mono ?_; rintro e2 w3 ⟨rfl, hx⟩)
  go_ret
  exact ⟨rfl, hx⟩
end Go.Proofs.Ytggafdimbddflaa
