/- The document's one and Check of types, by their contracts. Conditions: numbers within their kinds. -/
import Derived.Test.YtggafdimbddflaaSR1
import Derived.Test.YtggafdimbddflaaVR3
import Derived.BigQuiet
namespace Go.Proofs.Ytggafdimbddflaa
open Go Go.RowKit

def FieldOk (f : FZ) : Prop := f.n.size ≤ 9223372036854775807 ∧ f.k ≤ 255
def FieldsOk (F : List FZ) : Prop := ∀ f ∈ F, FieldOk f
def TypeOk (t : TZ) : Prop := t.n.size ≤ 9223372036854775807 ∧ FieldsOk t.f
def TypesOk (L : List TZ) : Prop := ∀ t ∈ L, TypeOk t

theorem FieldsAt.open_ {w : World} {v : Value} {F : List FZ} (h : FieldsAt w v F) {i : Nat} (hi : i < F.length) :
    ∃ g o c, v = .slice (some ⟨g, o, none⟩) F.length c ∧ F.length ≤ c ∧ c ≤ maxLen ∧ w.cell? ⟨g, o + i * 2, none⟩ = some (.string F[i].n) ∧ w.cell? ⟨g, o + i * 2 + 1, none⟩ = some (.int .u8 (F[i].k : Int)) := by
  obtain ⟨A, c, rfl, h1, h2, h3⟩ := h
  obtain ⟨g, o, rfl, q1, q2⟩ := h3 i hi
  exact ⟨g, o, c, rfl, h1, h2, q1, q2⟩

theorem fields_at {F : List FZ} {i : Nat} (h : i < F.length) : fieldsZ (F.take i) (F.drop i) =
    if nameZ F[i].n = false then 4 else if F[i].k < 1 ∨ 4 < F[i].k then 11 else if ∃ g ∈ F.take i, g.n = F[i].n then 21 else fieldsZ (F.take (i + 1)) (F.drop (i + 1)) := by
  rw [List.drop_eq_getElem_cons h, List.take_succ_eq_append_getElem h]
  rfl
theorem fields_twice {F : List FZ} {i : Nat} (hi : i < F.length) (j : Nat) (hj : j < i) (h : F[j].n = F[i].n) : ∃ g ∈ F.take i, g.n = F[i].n :=
  ⟨F[j], List.mem_take_iff_getElem.2 ⟨j, by omega, rfl⟩, h⟩
theorem fields_once {F : List FZ} {i : Nat} (hi : i < F.length) (h : ∀ j (hj : j < i), F[j].n ≠ F[i].n) : ¬ ∃ g ∈ F.take i, g.n = F[i].n := by
  rintro ⟨g, hg, e⟩
  obtain ⟨j, hj, rfl⟩ := List.mem_take_iff_getElem.1 hg
  exact h j (by omega) e
theorem word_some {k : Nat} (h : ¬ (k < 1 ∨ 4 < k)) : ((wordV k).toList == ([] : List UInt8)) = false := by
  have : k = 1 ∨ k = 2 ∨ k = 3 ∨ k = 4 := by omega
  rw [ByteArray.toList_eq]
  rcases this with rfl | rfl | rfl | rfl <;> rfl
theorem word_size {k : Nat} (h : ¬ (k < 1 ∨ 4 < k)) : (wordV k).toList.isEmpty = false := by
  have : k = 1 ∨ k = 2 ∨ k = 3 ∨ k = 4 := by omega
  rw [ByteArray.toList_eq]
  rcases this with rfl | rfl | rfl | rfl <;> rfl
theorem word_none {k : Nat} (h : k < 1 ∨ 4 < k) : wordV k = noText := by
  unfold wordV
  rw [if_neg (by omega), if_neg (by omega), if_neg (by omega), if_neg (by omega)]

set_option maxRecDepth 100000 in
set_option maxHeartbeats 4000000 in
theorem rone_any (t : TZ) (r : Value) (w : World) (hf : FieldsAt w r t.f) (hok : TypeOk t) : Calls Try.prog 36 #[.agg #[.string t.n, r]] w (Says w (.int .i64 (oneZ t))) := by
  obtain ⟨nm, F⟩ := t
  obtain ⟨hn, hF⟩ := hok
  dsimp only at *
  have kn := fun W => rname_any nm W hn
  have ho : oneZ ⟨nm, F⟩ = if nameZ nm = false then 4 else if 6 < F.length then 5 else fieldsZ [] F := rfl
  generalize oneZ ⟨nm, F⟩ = R at *
  have HF := hid hf
  obtain ⟨A, c, rfl, q1, q2, _⟩ := hf
  cases hN : nameZ nm
  · rw [hN] at kn
    rw [if_pos hN] at ho
    subst ho
    clear hN
    go_enter Try.func36, Try.ntmps36
    go_wp2_with fail
    refine (kn _).mono ?_
    rintro e w1 ⟨rfl, hx⟩
    go_wp2_with fail
    go_ret
    exact ⟨rfl, (Ext.alloc _ _).trans hx⟩
  · rw [hN] at kn
    rw [if_neg (by rw [hN]; decide)] at ho
    clear hN
    by_cases h6 : 6 < F.length
    · rw [if_pos h6] at ho
      subst ho
      have h6' : 6 < (F.length : Int) := by omega
      go_enter Try.func36, Try.ntmps36
      go_wp2_with fail
      refine (kn _).mono ?_
      rintro e w1 ⟨rfl, hx⟩
      have HV := hid (hx.block (heap_alloc_new w _))
      have HX := hid ((Ext.alloc w _).trans hx)
      clear hx
      have hb1 : w1.cell? ⟨w.heap.size, 1, none⟩ = _ := cell_of_row _ _ 1 _ _ _ HV.out
      go_wp2_with fail
      go_ret
      exact ⟨rfl, HX.out⟩
    · rw [if_neg h6] at ho
      have h6' : ¬ 6 < (F.length : Int) := by omega
      have HO := hid ho
      clear ho
      go_enter Try.func36, Try.ntmps36
      go_wp2_with fail
      refine (kn _).mono ?_
      rintro e w1 ⟨rfl, hx⟩
      have HV := hid (hx.block (heap_alloc_new w _))
      have HX := hid ((Ext.alloc w _).trans hx)
      clear hx
      have hb1 : w1.cell? ⟨w.heap.size, 1, none⟩ = _ := cell_of_row _ _ 1 _ _ _ HV.out
      go_wp2_with fail
      go_loopw [3] (fun x wr => ∃ i : Nat, i ≤ F.length ∧ x = .int .i64 (i : Int) ∧ Hid (R = fieldsZ (F.take i) (F.drop i)) ∧ Ext w1 wr)
        (fun x _ => F.length - (intOf x).toNat)
      case atStart => exact ⟨0, by omega, rfl, hid HO.out, Ext.refl _⟩
      case round =>
        obtain ⟨i, hi, rfl, ho, hext⟩ := hrel
        have HE := hid hext
        have hb1r : wr.cell? ⟨w.heap.size, 1, none⟩ = _ := hext.cell hb1
        clear hext
        by_cases hlt : i < F.length
        · obtain ⟨g, o, c', e1, _, _, d0, d1⟩ := ((HF.out.ext HX.out).ext HE.out).open_ hlt
          obtain ⟨rfl, rfl⟩ : A = some ⟨g, o, none⟩ ∧ c = c' := by simpa using e1
          have kf := fun W => rname_any F[i].n W (hF _ (List.getElem_mem hlt)).1
          have kw := fun W => rword4_any F[i].k W
          have HAT := hid (fields_at hlt)
          have HM : Hid (∀ j (hj : j < i), ∃ d, F[j]? = some d ∧ F[j].n = d.n) := hid (fun j hj => ⟨_, List.getElem?_eq_getElem (by omega), rfl⟩)
          have HTW := hid (@fields_twice F i hlt)
          have HON := hid (@fields_once F i hlt)
          generalize hN : F[i].n = N at *
          generalize hK : F[i].k = K at *
          go_wp2_with fail
          refine (kf _).mono ?_
          rintro e w2 ⟨rfl, hx⟩
          have HFB := hid (hx.block (heap_alloc_new wr _))
          have HE2 := hid ((HE.out.then_alloc _).trans hx)
          clear hx kf
          have hb1s : w2.cell? ⟨w.heap.size, 1, none⟩ = _ := HE2.out.cell hb1
          have f0 : w2.cell? ⟨wr.heap.size, 0, none⟩ = _ := cell_of_row _ _ 0 _ _ _ HFB.out
          have f1 : w2.cell? ⟨wr.heap.size, 1, none⟩ = _ := cell_of_row _ _ 1 _ _ _ HFB.out
          cases hNm : nameZ N
          · have HR := hid (ho.out.trans (HAT.out.trans (if_pos hNm)))
            go_wp2_with fail
            go_ret
            exact ⟨by rw [HR.out]; rfl, HX.out.trans HE2.out⟩
          · have HR1 := hid (ho.out.trans (HAT.out.trans (if_neg (by rw [hNm]; decide))))
            clear hNm
            go_wp2_with fail
            refine (kw _).mono ?_
            rintro e w3 ⟨rfl, hx⟩
            replace HE2 := hid (HE2.out.trans hx)
            replace HFB := hid (hx.block HFB.out)
            clear hx kw hb1s f0 f1
            have hb1s : w3.cell? ⟨w.heap.size, 1, none⟩ = some (.slice (some ⟨g, o, none⟩) F.length c) := HE2.out.cell hb1
            have f0 : w3.cell? ⟨wr.heap.size, 0, none⟩ = some (.string N) := cell_of_row _ _ 0 _ _ _ HFB.out
            by_cases hk : K < 1 ∨ 4 < K
            · have HR := hid (HR1.out.trans (if_pos hk))
              rw [word_none hk]
              have hz : noText.toList.isEmpty = true := by rw [ByteArray.toList_eq]; rfl
              clear hk
              go_wp2_with fail
              go_ret
              exact ⟨by rw [HR.out]; rfl, HX.out.trans HE2.out⟩
            · have HR := hid (HR1.out.trans (if_neg hk))
              have hw0 := word_some hk
              have hw1 := word_size hk
              clear hk
              generalize wordV K = S at *
              go_wp2_with fail
              obtain ⟨B, hB⟩ : ∃ B, B = wr.heap.size := ⟨_, rfl⟩
              rw [← hB] at f0 HFB ⊢
              clear hB
              go_loopw [5] (fun y wq => ∃ j : Nat, j ≤ i ∧ y = .int .i64 (j : Int) ∧ Hid (∀ j' (h : j' < j) (hj : j' < F.length), F[j'].n ≠ N) ∧ Ext w3 wq)
                (fun y _ => i - (intOf y).toNat)
              case atStart => exact ⟨0, by omega, rfl, hid (fun j' h => absurd h (Nat.not_lt_zero _)), Ext.refl _⟩
              case round =>
                obtain ⟨j, hj, rfl, hno, hextq⟩ := hrel
                have HQ := hid hextq
                have hb1t : wr.cell? ⟨w.heap.size, 1, none⟩ = some (.slice (some ⟨g, o, none⟩) F.length c) := hextq.cell hb1s
                have f0t : wr.cell? ⟨B, 0, none⟩ = some (.string N) := hextq.cell f0
                clear hextq
                by_cases hjl : j < i
                · obtain ⟨g', o', c', e1, _, _, d0', _⟩ := (((HF.out.ext HX.out).ext HE2.out).ext HQ.out).open_ (show j < F.length by omega)
                  obtain ⟨⟨rfl, rfl⟩, rfl⟩ : (g = g' ∧ o = o') ∧ c = c' := by simpa using e1
                  have hjF : j < F.length := by omega
                  have HJ := hid (HTW.out j hjl)
                  generalize hM : F[j].n = M at *
                  have HMM := hid hM
                  clear hM e1
                  by_cases he : M = N
                  · subst he
                    have HR9 := hid (HR.out.trans (if_pos (HJ.out rfl)))
                    go_wp2_with fail
                    go_quiet (fail)
                    go_wp2_with fail
                    go_ret
                    exact ⟨by rw [HR9.out]; rfl, ((HX.out.trans HE2.out).trans HQ.out).trans (Ext.drewN _ _)⟩
                  · have hb : (M.toList == N.toList) = false := beq_eq_false_iff_ne.2 (fun e => he ((list_ba M N).1 e))
                    go_wp2_with fail
                    go_quiet (fail)
                    go_wp2_with fail
                    go_roundw
                    case rel => exact ⟨j + 1, by omega, by go_num, hid (fun j' h g => by
                      by_cases e : j' = j
                      · subst e; rw [HMM.out]; exact he
                      · exact hno.out j' (by omega) g), HQ.out.trans (Ext.drewN _ _)⟩
                    case measure => simp only [intOf]; omega
                · have hj' : j = i := by omega
                  subst hj'
                  go_wp2_with fail
                  go_roundw
                  case rel => exact ⟨j + 1, by omega, by go_num, hid (HR.out.trans (if_neg (HON.out (fun j' h => hno.out j' h (by omega))))), HE2.out.trans HQ.out⟩
                  case measure => simp only [intOf]; omega
        · have hi' : i = F.length := by omega
          subst hi'
          go_wp2_with fail
          go_ret
          exact ⟨by rw [ho.out, List.drop_length]; rfl, HX.out.trans HE.out⟩

theorem types_at {L : List TZ} {i : Nat} (h : i < L.length) : typesZ (L.take i) (L.drop i) =
    if oneZ L[i] ≠ 0 then oneZ L[i] else if ∃ g ∈ L.take i, g.n = L[i].n then 21 else typesZ (L.take (i + 1)) (L.drop (i + 1)) := by
  rw [List.drop_eq_getElem_cons h, List.take_succ_eq_append_getElem h]
  rfl
theorem types_twice {L : List TZ} {i : Nat} (hi : i < L.length) (j : Nat) (hj : j < i) (h : L[j].n = L[i].n) : ∃ g ∈ L.take i, g.n = L[i].n :=
  ⟨L[j], List.mem_take_iff_getElem.2 ⟨j, by omega, rfl⟩, h⟩
theorem types_once {L : List TZ} {i : Nat} (hi : i < L.length) (h : ∀ j (hj : j < i), L[j].n ≠ L[i].n) : ¬ ∃ g ∈ L.take i, g.n = L[i].n := by
  rintro ⟨g, hg, e⟩
  obtain ⟨j, hj, rfl⟩ := List.mem_take_iff_getElem.1 hg
  exact h j (by omega) e
theorem TypesAt.open_ {w : World} {v : Value} {L : List TZ} (h : TypesAt w v L) {i : Nat} (hi : i < L.length) :
    ∃ g o c r, v = .slice (some ⟨g, o, none⟩) L.length c ∧ L.length ≤ c ∧ c ≤ maxLen ∧ w.cell? ⟨g, o + i * 2, none⟩ = some (.string L[i].n) ∧ w.cell? ⟨g, o + i * 2 + 1, none⟩ = some r ∧ FieldsAt w r L[i].f := by
  obtain ⟨A, c, rfl, h1, h2, h3⟩ := h
  obtain ⟨g, o, r, rfl, q1, q2, q3⟩ := h3 i hi
  exact ⟨g, o, c, r, rfl, h1, h2, q1, q2, q3⟩

set_option maxRecDepth 100000 in
set_option maxHeartbeats 4000000 in
theorem rchecks_any (L : List TZ) (v : Value) (w : World) (hv : TypesAt w v L) (hok : TypesOk L) : Calls Try.prog 15 #[v] w (Says w (.int .i64 (checkZ L))) := by
  have ho : checkZ L = if 8 < L.length then 5 else typesZ [] L := rfl
  generalize checkZ L = R at *
  have HV := hid hv
  obtain ⟨A, c, rfl, q1, q2, _⟩ := hv
  by_cases h8 : 8 < L.length
  · rw [if_pos h8] at ho
    subst ho
    have h8' : 8 < (L.length : Int) := by omega
    go_enter Try.func15, Try.ntmps15
    go_wp2_with fail
    go_ret
    exact ⟨rfl, Ext.refl _⟩
  · rw [if_neg h8] at ho
    have h8' : ¬ 8 < (L.length : Int) := by omega
    have HO := hid ho
    clear ho
    go_enter Try.func15, Try.ntmps15
    go_wp2_with fail
    go_loopw [3] (fun x wr => ∃ i : Nat, i ≤ L.length ∧ x = .int .i64 (i : Int) ∧ Hid (R = typesZ (L.take i) (L.drop i)) ∧ Ext w wr)
      (fun x _ => L.length - (intOf x).toNat)
    case atStart => exact ⟨0, by omega, rfl, hid HO.out, Ext.refl _⟩
    case round =>
      obtain ⟨i, hi, rfl, ho, hext⟩ := hrel
      have HE := hid hext
      clear hext
      by_cases hlt : i < L.length
      · obtain ⟨g, o, c', r, e1, _, _, d0, d1, hfr⟩ := (HV.out.ext HE.out).open_ hlt
        obtain ⟨rfl, rfl⟩ : A = some ⟨g, o, none⟩ ∧ c = c' := by simpa using e1
        have kf := fun W (h : Ext wr W) => rone_any L[i] r W (hfr.ext h) (hok _ (List.getElem_mem hlt))
        have HAT := hid (types_at hlt)
        have HTW := hid (@types_twice L i hlt)
        have HON := hid (@types_once L i hlt)
        generalize hN : L[i].n = N at *
        have HN := hid hN
        generalize oneZ L[i] = Q at *
        clear e1 hN hfr
        go_wp2_with fail
        refine (kf _ (Ext.refl _)).mono ?_
        rintro e w2 ⟨rfl, hx⟩
        have d0' : w2.cell? ⟨g, o + i * 2, none⟩ = some (.string N) := hx.cell d0
        replace HE := hid (HE.out.trans hx)
        clear hx kf d0 d1
        by_cases hQ : Q = 0
        · subst hQ
          have HR := hid (ho.out.trans (HAT.out.trans (if_neg (fun h => h rfl))))
          go_wp2_with fail
          go_loopw [5] (fun y wq => ∃ j : Nat, j ≤ i ∧ y = .int .i64 (j : Int) ∧ Hid (∀ j' (h : j' < j) (hj : j' < L.length), L[j'].n ≠ N) ∧ Ext w2 wq)
            (fun y _ => i - (intOf y).toNat)
          case atStart => exact ⟨0, by omega, rfl, hid (fun j' h => absurd h (Nat.not_lt_zero _)), Ext.refl _⟩
          case round =>
            obtain ⟨j, hj, rfl, hno, hextq⟩ := hrel
            have HQ := hid hextq
            have d0t : wr.cell? ⟨g, o + i * 2, none⟩ = some (.string N) := hextq.cell d0'
            clear hextq
            by_cases hjl : j < i
            · have hjF : j < L.length := by omega
              obtain ⟨g', o', c', r', e1, _, _, d0', _, _⟩ := ((HV.out.ext HE.out).ext HQ.out).open_ hjF
              obtain ⟨⟨rfl, rfl⟩, rfl⟩ : (g = g' ∧ o = o') ∧ c = c' := by simpa using e1
              have HJ := hid (HTW.out j hjl)
              generalize hM : L[j].n = M at *
              have HMM := hid hM
              clear hM e1
              by_cases he : M = N
              · subst he
                have HR9 := hid (HR.out.trans (if_pos (HJ.out rfl)))
                go_wp2_with fail
                go_quiet (fail)
                go_wp2_with fail
                go_ret
                exact ⟨by rw [HR9.out]; rfl, (HE.out.trans HQ.out).trans (Ext.drewN _ _)⟩
              · have hb : (M.toList == N.toList) = false := beq_eq_false_iff_ne.2 (fun e => he ((list_ba M N).1 e))
                go_wp2_with fail
                go_quiet (fail)
                go_wp2_with fail
                go_roundw
                case rel => exact ⟨j + 1, by omega, by go_num, hid (fun j' h g => by
                  by_cases e : j' = j
                  · subst e; rw [HMM.out]; exact he
                  · exact hno.out j' (by omega) g), HQ.out.trans (Ext.drewN _ _)⟩
                case measure => simp only [intOf]; omega
            · have hj' : j = i := by omega
              subst hj'
              go_wp2_with fail
              go_roundw
              case rel => exact ⟨j + 1, by omega, by go_num, hid (HR.out.trans (if_neg (HON.out (fun j' h => hno.out j' h (by omega))))), HE.out.trans HQ.out⟩
              case measure => simp only [intOf]; omega
        · have HR := hid (ho.out.trans (HAT.out.trans (if_pos hQ)))
          have hq : (Q != 0) = true := bne_iff_ne.2 hQ
          clear hQ
          go_wp2_with fail
          go_ret
          exact ⟨by rw [HR.out]; rfl, HE.out⟩
      · have hi' : i = L.length := by omega
        subst hi'
        go_wp2_with fail
        go_ret
        exact ⟨by rw [ho.out, List.drop_length]; rfl, HE.out⟩
end Go.Proofs.Ytggafdimbddflaa
