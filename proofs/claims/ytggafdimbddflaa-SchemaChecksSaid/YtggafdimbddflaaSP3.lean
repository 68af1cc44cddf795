/- The landed program's Check of types, by its contract. Conditions: names of up to 2^20 bytes, kinds within a byte. -/
import Derived.Test.YtggafdimbddflaaSP2
import Derived.Test.YtggafdimbddflaaSR6
import Derived.Test.YtggafdimbddflaaVV1
import Derived.WalkMore
namespace Go.Proofs.Ytggafdimbddflaa
open Go Go.RowKit

def FieldMid (f : FZ) : Prop := f.n.size ≤ 1048576 ∧ f.k ≤ 255
def TypeMid (t : TZ) : Prop := t.n.size ≤ 1048576 ∧ ∀ f ∈ t.f, FieldMid f
def TypesMid (L : List TZ) : Prop := ∀ t ∈ L, TypeMid t
theorem TypesSmall.mid {L : List TZ} (h : TypesSmall L) : TypesMid L := fun t ht => by
  obtain ⟨h1, _, h3⟩ := h.2 t ht
  exact ⟨by omega, fun f hf => by have := h3 f hf; exact ⟨by have := this.1; omega, this.2⟩⟩
theorem word_blank {k : Nat} : ((wordV k).toList == ([] : List UInt8)) = decide (k < 1 ∨ 4 < k) := by
  by_cases h : k < 1 ∨ 4 < k
  · rw [word_none h, decide_eq_true h, ByteArray.toList_eq]
    rfl
  · rw [word_some h, decide_eq_false h]

set_option maxRecDepth 100000 in
set_option maxHeartbeats 4000000 in
theorem scheckf_any (t : TZ) (r : Value) (w : World) (hf : FieldsAt w r t.f) (hok : TypeMid t) : Calls Try.prog 55 #[.agg #[.string t.n, r]] w (Says w (.int .i64 (fieldsZ [] t.f))) := by
  obtain ⟨nm, F⟩ := t
  obtain ⟨hn, hF⟩ := hok
  dsimp only at *
  have HO := hid (show fieldsZ [] F = fieldsZ (F.take 0) (F.drop 0) from rfl)
  generalize fieldsZ [] F = R at *
  have HF := hid hf
  obtain ⟨A, c, rfl, q1, q2, _⟩ := hf
  have hml : (F.length : Int) ≤ 9223372036854775807 := by unfold maxLen at q2; omega
  go_enter Try.func55, Try.ntmps55
  go_wp2_with fail
  have HB := hid (heap_alloc_new w (Obj.cells #[.string nm, .slice A F.length c] 30 (0, 0)))
  have HX := hid (Ext.alloc w (Obj.cells #[.string nm, .slice A F.length c] 30 (0, 0)))
  obtain ⟨S, hS⟩ : ∃ S, S = w.heap.size := ⟨_, rfl⟩
  rw [← hS] at HB ⊢
  obtain ⟨W1, hW1⟩ : ∃ W1, W1 = w.alloc (Obj.cells #[.string nm, .slice A F.length c] 30 (0, 0)) := ⟨_, rfl⟩
  rw [← hW1] at HB HX ⊢
  obtain ⟨⟨s0, s1⟩, _, _⟩ := box2 HB.out
  clear hS hW1
  go_step3
  go_wp2_with fail
  go_step3
  go_wp2_with fail
  go_loopw [3, 11] (fun z x wr => ∃ i : Nat, i ≤ F.length ∧ z = .int .i64 0 ∧ x = .int .i64 (i : Int) ∧ Hid (R = fieldsZ (F.take i) (F.drop i)) ∧ Ext W1 wr)
    (fun _ x _ => F.length - (intOf x).toNat)
  case atStart => exact ⟨0, by omega, rfl, rfl, hid HO.out, Ext.refl _⟩
  case round =>
    obtain ⟨i, hi, rfl, rfl, ho, hext⟩ := hrel
    have HE := hid hext
    clear hext
    by_cases hlt : i < F.length
    · obtain ⟨g, o, c', e1, _, _, d0, d1⟩ := ((HF.out.ext HX.out).ext HE.out).open_ hlt
      obtain ⟨rfl, rfl⟩ : A = some ⟨g, o, none⟩ ∧ c = c' := by simpa using e1
      have kf := fun W (h : Ext wr W) => sfieldf_any ⟨nm, F⟩ (.slice (some ⟨g, o, none⟩) F.length c) F[i].n W (((HF.out.ext HX.out).ext HE.out).ext h)
      have kn := fun W => sname_any F[i].n W (hF _ (List.getElem_mem hlt)).1
      have kw := fun W => vword_any F[i].k W (hF _ (List.getElem_mem hlt)).2
      have HFI := hid (at_first hlt)
      have hwb := @word_blank F[i].k
      have HAT := hid (fields_at hlt)
      unfold SaysAt at kf
      dsimp only at kf
      generalize hT : F[i] = T at *
      obtain ⟨N, K⟩ := T
      dsimp only at *
      generalize (atZ N 0 F).1 = P at *
      generalize (atZ N 0 F).2 = PK at *
      have HBF := hid (heap_alloc_new wr (Obj.cells #[.string N, .int .u8 (K : Int)] 70 (0, 0)))
      have HE2 := hid (HE.out.then_alloc (Obj.cells #[.string N, .int .u8 (K : Int)] 70 (0, 0)))
      have hxa := Ext.alloc wr (Obj.cells #[.string N, .int .u8 (K : Int)] 70 (0, 0))
      have HTB := hid (HE2.out.block HB.out)
      obtain ⟨⟨a0, a1⟩, _, _⟩ := box2 HTB.out
      obtain ⟨⟨b0, b1⟩, _, _⟩ := box2 HBF.out
      clear e1 hT
      go_wp2_with fail
      refine (kf _ hxa).mono ?_
      rintro e w2 ⟨rfl, hx⟩
      replace HBF := hid (hx.block HBF.out)
      replace HE2 := hid (HE2.out.trans hx)
      clear hx kf hxa b0 b1 a0 a1 HTB
      obtain ⟨⟨b0, b1⟩, _, _⟩ := box2 HBF.out
      generalize nameZ N = NZ at *
      cases NZ
      · have HR := hid (ho.out.trans (HAT.out.trans (if_pos rfl)))
        go_wp2_with (go_at_call 21; refine (kn _).mono ?_; rintro e2 w3 ⟨rfl, hx⟩)
        go_ret
        exact ⟨by rw [HR.out]; rfl, (HX.out.trans HE2.out).trans hx⟩
      · have HR1 := hid (ho.out.trans (HAT.out.trans (if_neg (by decide))))
        go_wp2_with fail
        refine (kn _).mono ?_
        rintro e w3 ⟨rfl, hx⟩
        replace HBF := hid (hx.block HBF.out)
        replace HE2 := hid (HE2.out.trans hx)
        clear hx kn b0 b1
        obtain ⟨⟨b0, b1⟩, _, _⟩ := box2 HBF.out
        by_cases hk : K < 1 ∨ 4 < K
        · have HR := hid (HR1.out.trans (if_pos hk))
          rw [decide_eq_true hk] at hwb
          clear hk
          go_wp2_with (go_at_call 38; refine (kw _).mono ?_; rintro e2 w4 ⟨rfl, hx⟩)
          go_ret
          exact ⟨by rw [HR.out]; rfl, (HX.out.trans HE2.out).trans hx⟩
        · have HR2 := hid (HR1.out.trans (if_neg hk))
          rw [decide_eq_false hk] at hwb
          clear hk
          by_cases hp : P = (i : Int)
          · have HR := hid (HR2.out.trans (if_neg (fun h => HFI.out.2 h hp)))
            have hpb : (P != (i : Int)) = false := bne_eq_false_iff_eq.2 hp
            have HP := hid hp
            clear hp
            go_wp2_with (go_at_call 38; refine (kw _).mono ?_; rintro e2 w4 ⟨rfl, hx⟩)
            go_roundw
            case rel => exact ⟨i + 1, by omega, rfl, by go_num, HR, HE2.out.trans hx⟩
            case measure => simp only [intOf]; omega
          · have HR := hid (HR2.out.trans (if_pos (HFI.out.1 hp)))
            have hpb : (P != (i : Int)) = true := bne_iff_ne.2 hp
            clear hp
            go_wp2_with (go_at_call 38; refine (kw _).mono ?_; rintro e2 w4 ⟨rfl, hx⟩)
            go_ret
            exact ⟨by rw [HR.out]; rfl, (HX.out.trans HE2.out).trans hx⟩
    · have hi' : i = F.length := by omega
      subst hi'
      go_wp2_with fail
      go_ret
      exact ⟨by rw [ho.out, List.drop_length]; rfl, HX.out.trans HE.out⟩

set_option maxRecDepth 100000 in
set_option maxHeartbeats 4000000 in
theorem schecko_any (t : TZ) (r : Value) (w : World) (hf : FieldsAt w r t.f) (hok : TypeMid t) : Calls Try.prog 35 #[.agg #[.string t.n, r]] w (Says w (.int .i64 (oneZ t))) := by
  have kf := fun W (h : Ext w W) => scheckf_any t r W (hf.ext h) hok
  obtain ⟨nm, F⟩ := t
  obtain ⟨hn, hF⟩ := hok
  dsimp only at *
  have kn := fun W => sname_any nm W hn
  have ho : oneZ ⟨nm, F⟩ = if nameZ nm = false then 4 else if 6 < F.length then 5 else fieldsZ [] F := rfl
  generalize oneZ ⟨nm, F⟩ = R at *
  generalize fieldsZ [] F = Q at *
  obtain ⟨A, c, rfl, q1, q2, _⟩ := hf
  have hml : (F.length : Int) ≤ 9223372036854775807 := by unfold maxLen at q2; omega
  have HB := hid (heap_alloc_new w (Obj.cells #[.string nm, .slice A F.length c] 30 (0, 0)))
  have HX := hid (Ext.alloc w (Obj.cells #[.string nm, .slice A F.length c] 30 (0, 0)))
  generalize nameZ nm = NZ at *
  have HO := hid ho
  clear ho
  go_enter Try.func35, Try.ntmps35
  go_wp2_with fail
  refine (kn _).mono ?_
  rintro e w1 ⟨rfl, hx⟩
  replace HB := hid (hx.block HB.out)
  replace HX := hid (HX.out.trans hx)
  obtain ⟨⟨b0, b1⟩, _, _⟩ := box2 HB.out
  clear hx kn
  cases NZ
  · have HR := hid (HO.out.trans (if_pos rfl))
    go_wp2_with fail
    go_ret
    exact ⟨by rw [HR.out]; rfl, HX.out⟩
  · have HR1 := hid (HO.out.trans (if_neg (by decide)))
    by_cases h6 : 6 < F.length
    · have HR := hid (HR1.out.trans (if_pos h6))
      have h6' : 6 < (F.length : Int) := by omega
      go_wp2_with fail
      go_ret
      exact ⟨by rw [HR.out]; rfl, HX.out⟩
    · have HR := hid (HR1.out.trans (if_neg h6))
      have h6' : ¬ 6 < (F.length : Int) := by omega
      have kf := kf w1 HX.out
      go_wp2_with (go_at_call 55; refine kf.mono ?_; rintro e2 w3 ⟨rfl, hx⟩)
      go_ret
      exact ⟨by rw [HR.out]; rfl, HX.out.trans hx⟩

set_option maxRecDepth 100000 in
set_option maxHeartbeats 4000000 in
theorem schecks_any (L : List TZ) (v : Value) (w : World) (hv : TypesAt w v L) (hok : TypesMid L) : Calls Try.prog 14 #[v] w (Says w (.int .i64 (checkZ L))) := by
  have ho : checkZ L = if 8 < L.length then 5 else typesZ [] L := rfl
  generalize checkZ L = R at *
  have HV := hid hv
  obtain ⟨A, c, rfl, q1, q2, _⟩ := hv
  have hml : (L.length : Int) ≤ 9223372036854775807 := by unfold maxLen at q2; omega
  by_cases h8 : 8 < L.length
  · rw [if_pos h8] at ho
    subst ho
    have h8' : 8 < (L.length : Int) := by omega
    go_enter Try.func14, Try.ntmps14
    go_wp2_with fail
    go_ret
    exact ⟨rfl, Ext.refl _⟩
  · rw [if_neg h8] at ho
    have h8' : ¬ 8 < (L.length : Int) := by omega
    have HO := hid ho
    clear ho
    go_enter Try.func14, Try.ntmps14
    go_wp2_with fail
    go_loopw [11] (fun x wr => ∃ i : Nat, i ≤ L.length ∧ x = .int .i64 (i : Int) ∧ Hid (R = typesZ (L.take i) (L.drop i)) ∧ Ext w wr)
      (fun x _ => L.length - (intOf x).toNat)
    case atStart => exact ⟨0, by omega, rfl, hid HO.out, Ext.refl _⟩
    case round =>
      obtain ⟨i, hi, rfl, ho, hext⟩ := hrel
      have HE := hid hext
      clear hext
      by_cases hlt : i < L.length
      · obtain ⟨g, o, c', r, e1, _, _, d0, d1, hfr⟩ := (HV.out.ext HE.out).open_ hlt
        obtain ⟨rfl, rfl⟩ : A = some ⟨g, o, none⟩ ∧ c = c' := by simpa using e1
        have kf := fun W (h : Ext wr W) => schecko_any L[i] r W (hfr.ext h) (hok _ (List.getElem_mem hlt))
        have kp := fun W (h : Ext wr W) => splace_any L _ L[i].n W ((HV.out.ext HE.out).ext h)
        have HAT := hid (types_at hlt)
        have HFI := hid (place_first hlt)
        generalize hN : L[i] = T at *
        obtain ⟨N, F⟩ := T
        dsimp only at *
        generalize oneZ ⟨N, F⟩ = Q at *
        generalize placeZ N 0 L = P at *
        obtain ⟨A3, c3, rfl, _, q5, _⟩ := hfr
        have HBF := hid (heap_alloc_new wr (Obj.cells #[.string N, .slice A3 F.length c3] 30 (0, 0)))
        have HE2 := hid (Ext.alloc wr (Obj.cells #[.string N, .slice A3 F.length c3] 30 (0, 0)))
        obtain ⟨⟨b0, b1⟩, _, _⟩ := box2 HBF.out
        clear e1 hN
        go_wp2_with fail
        refine (kf _ HE2.out).mono ?_
        rintro e w2 ⟨rfl, hx⟩
        replace HBF := hid (hx.block HBF.out)
        replace HE2 := hid (HE2.out.trans hx)
        clear hx kf b0 b1
        obtain ⟨⟨b0, b1⟩, _, _⟩ := box2 HBF.out
        by_cases hQ : Q = 0
        · subst hQ
          have HR := hid (ho.out.trans (HAT.out.trans (if_neg (fun h => h rfl))))
          have kp := kp w2 HE2.out
          by_cases hp : P = (i : Int)
          · have HR2 := hid (HR.out.trans (if_neg (fun h => HFI.out.2 h hp)))
            have hpb : (P != (i : Int)) = false := bne_eq_false_iff_eq.2 hp
            clear hp
            go_wp2_with (go_at_call 33; refine kp.mono ?_; rintro e2 w4 ⟨rfl, hx⟩)
            go_roundw
            case rel => exact ⟨i + 1, by omega, by go_num, HR2, (HE.out.trans HE2.out).trans hx⟩
            case measure => simp only [intOf]; omega
          · have HR2 := hid (HR.out.trans (if_pos (HFI.out.1 hp)))
            have hpb : (P != (i : Int)) = true := bne_iff_ne.2 hp
            clear hp
            go_wp2_with (go_at_call 33; refine kp.mono ?_; rintro e2 w4 ⟨rfl, hx⟩)
            go_ret
            exact ⟨by rw [HR2.out]; rfl, (HE.out.trans HE2.out).trans hx⟩
        · have HR := hid (ho.out.trans (HAT.out.trans (if_pos hQ)))
          have hq : (Q != 0) = true := bne_iff_ne.2 hQ
          clear hQ
          go_wp2_with fail
          go_ret
          exact ⟨by rw [HR.out]; rfl, HE.out.trans HE2.out⟩
      · have hi' : i = L.length := by omega
        subst hi'
        go_wp2_with fail
        go_ret
        exact ⟨by rw [ho.out, List.drop_length]; rfl, HE.out⟩
end Go.Proofs.Ytggafdimbddflaa
