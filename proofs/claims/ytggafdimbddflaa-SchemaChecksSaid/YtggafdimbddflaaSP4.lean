/- The landed program's Find and Fits of types, by their contracts. Conditions: small types. -/
import Derived.Test.YtggafdimbddflaaSP3
import Derived.Test.YtggafdimbddflaaSLaw1
import Derived.Test.YtggafdimbddflaaVV2
import Derived.Lib.LazyBuf
namespace Go.Proofs.Ytggafdimbddflaa
open Go Go.RowKit

theorem fcells_one (F : List FZ) : ∀ u ∈ fcells F, u.oneCell' = true := by
  intro u hu
  obtain ⟨f, _, h⟩ := List.mem_flatMap.1 hu
  simp at h
  rcases h with rfl | rfl <;> rfl
/-- fields lie as a list of cells -/
theorem FieldsAt.lies {w : World} {A : Option Addr} {c : Nat} {F : List FZ} (h : FieldsAt w (.slice A F.length c) F) : Lies w A (fcells F) := fun hne => by
  have h0 : 0 < F.length := by
    cases F with
    | nil => exact absurd rfl hne
    | cons f r => exact Nat.succ_pos _
  obtain ⟨g, o, c', e1, _, _, _, _⟩ := h.open_ h0
  obtain ⟨rfl, rfl⟩ : A = some ⟨g, o, none⟩ ∧ c = c' := by simpa using e1
  refine ⟨_, rfl, fun j u hu => ?_⟩
  have hj : j < F.length * 2 := by rw [← fcells_len]; exact (List.getElem?_eq_some_iff.1 hu).1
  have hi : j / 2 < F.length := by omega
  obtain ⟨g', o', c'', e2, _, _, d0, d1⟩ := h.open_ hi
  obtain ⟨⟨rfl, rfl⟩, rfl⟩ : (g = g' ∧ o = o') ∧ c = c'' := by simpa using e2
  obtain ⟨q1, q2⟩ := fcells_at hi
  rw [Addr.add_lit]
  by_cases hz : j % 2 = 0
  · have hj2 : j = j / 2 * 2 := by omega
    rw [← hj2] at d0 q1
    rw [d0, ← q1, hu]
  · have hj2 : j = j / 2 * 2 + 1 := by omega
    rw [← hj2] at q2
    rw [show o + j = o + j / 2 * 2 + 1 by omega, d1, ← q2, hu]

theorem find_place {name : ByteArray} : ∀ (L : List TZ), (placeZ name 0 L < 0 → findZ name L = (TZ.none, false)) ∧ (∀ i : Nat, placeZ name 0 L = (i : Int) → ∃ h : i < L.length, findZ name L = (L[i], true)) := by
  suffices h : ∀ (L : List TZ) (k : Nat), (placeZ name k L < 0 → findZ name L = (TZ.none, false)) ∧ (∀ i : Nat, placeZ name k L = ((k + i : Nat) : Int) → ∃ h : i < L.length, findZ name L = (L[i], true)) by
    intro L
    have := h L 0
    simpa using this
  intro L
  induction L with
  | nil => exact fun k => ⟨fun _ => rfl, fun i h => by have : (-1 : Int) = ((k + i : Nat) : Int) := h; omega⟩
  | cons t r ih =>
    intro k
    have e1 : placeZ name k (t :: r) = if t.n = name then (k : Int) else placeZ name (k + 1) r := rfl
    have e2 : findZ name (t :: r) = if t.n = name then (t, true) else findZ name r := rfl
    rw [e1, e2]
    by_cases h : t.n = name
    · rw [if_pos h, if_pos h]
      refine ⟨fun h => by omega, fun i hi => ?_⟩
      obtain rfl : i = 0 := by omega
      exact ⟨Nat.succ_pos _, rfl⟩
    · rw [if_neg h, if_neg h]
      obtain ⟨i1, i2⟩ := ih (k + 1)
      refine ⟨i1, fun i hi => ?_⟩
      cases i with
      | zero =>
        exfalso
        have hge : ∀ (r : List TZ) (k : Nat), placeZ name k r = -1 ∨ (k : Int) ≤ placeZ name k r := by
          intro r
          induction r with
          | nil => exact fun _ => Or.inl rfl
          | cons u s ih =>
            intro k
            show (if u.n = name then (k : Int) else placeZ name (k + 1) s) = -1 ∨ _ ≤ (if u.n = name then (k : Int) else placeZ name (k + 1) s)
            by_cases hu : u.n = name
            · rw [if_pos hu]; omega
            · rw [if_neg hu]; have := ih (k + 1); omega
        have := hge r (k + 1)
        omega
      | succ i =>
        obtain ⟨h1, h2⟩ := i2 i (by rw [hi]; omega)
        exact ⟨Nat.succ_lt_succ h1, h2⟩

set_option maxRecDepth 100000 in
set_option maxHeartbeats 2000000 in
theorem sclone_any (F : List FZ) (v : Value) (w : World) (hf : FieldsAt w v F) (h12 : F.length ≤ 12) : Calls Try.prog 34 #[v] w (fun e w' => ∃ u, e = .returned u ∧ w'.ownsRow w.heap.size 70 2 u F.length (fcells F) ∧ Ext w w') := by
  have HF := hid hf
  obtain ⟨A, c, rfl, q1, q2, _⟩ := hf
  obtain ⟨iF, hiF, hzF0, hzF1, hzF2⟩ := info_parts infoF
  have heq := fun W => Go.Lib.run_eql_slice_nil (P := Try.prog) W 28 70 A F.length c 0 0 Try.underlying28
  cases A with
  | none =>
    have hF0 : F = [] := by
      cases F with
      | nil => rfl
      | cons f r =>
        obtain ⟨g, o, c', e1, _⟩ := HF.out.open_ (i := 0) (Nat.succ_pos _)
        cases e1
    subst hF0
    simp only [List.length_nil] at heq
    go_enter Try.func34, Try.ntmps34
    go_wp2_with fail
    go_ret
    exact ⟨_, rfl, World.ownsRow_nil _ _ _ _, Ext.refl _⟩
  | some a =>
    go_enter Try.func34, Try.ntmps34
    have HL := hid HF.out.lies
    have HOW := hid (own_build w w.heap.size 70 2 0 #[] (Nat.le_refl _) (by unfold maxLen; omega) rfl)
    go_wp2_with (at_builtin; refine wpList_append_lies _ rfl (.tmp 5) (.tmp 6) 28 rfl w.heap.size 70 (.agg #[.string ⟨#[]⟩, .int .u8 0]) 2 24 Try.underlying28 infoF rfl (by decide) _ 0 [] rfl HOW.out (some a) F.length c (fcells F) rfl (fcells_len F) (HL.out.ext (Ext.alloc _ _)) (fcells_one F) (by unfold maxLen; omega) (by omega) (by simp) ?_; intro v9 w9 hown9 hgrow9 hat9)
    have HG := hid ((Ext.alloc w _).grown hgrow9 (fun k hk => own_block_ge HOW.out k hk))
    have HW := hid (show w9.ownsRow w.heap.size 70 2 v9 F.length (fcells F) by simpa using hown9)
    clear hgrow9 hown9 hat9
    go_wp2_with fail
    go_ret
    exact ⟨_, rfl, HW.out, HG.out⟩

set_option maxRecDepth 100000 in
set_option maxHeartbeats 4000000 in
theorem sfind_any (L : List TZ) (v : Value) (name : ByteArray) (w : World) (hv : TypesAt w v L) (hsm : TypesSmall L) (_hn : name.size ≤ 40) : Calls Try.prog 10 #[v, .string name] w (SaysTy w (findZ name L)) := by
  have hfp : (placeZ name 0 L < 0 → findZ name L = (TZ.none, false)) ∧ (∀ i : Nat, placeZ name 0 L = (i : Int) → ∃ h : i < L.length, findZ name L = (L[i], true)) := find_place L
  have kp := fun W (h : Ext w W) => splace_any L v name W (hv.ext h)
  generalize placeZ name 0 L = P at *
  generalize findZ name L = R at *
  have HV := hid hv
  obtain ⟨A, c, rfl, q1, q2, _⟩ := hv
  have hml : (L.length : Int) ≤ 9223372036854775807 := by unfold maxLen at q2; omega
  go_enter Try.func10, Try.ntmps10
  go_wp2_with fail
  have HB := hid (heap_alloc_new w (Obj.cells #[.string noText, .slice none 0 0] 30 (0, 0)))
  have HX := hid (Ext.alloc w (Obj.cells #[.string noText, .slice none 0 0] 30 (0, 0)))
  refine (kp _ HX.out).mono ?_
  rintro e w2 ⟨rfl, hx⟩
  replace HB := hid (hx.block HB.out)
  replace HX := hid (HX.out.trans hx)
  clear hx kp
  obtain ⟨⟨b0, b1⟩, ⟨m0, m1⟩, z0⟩ := box2 HB.out
  by_cases hneg : P < 0
  · have hR := hfp.1 hneg
    subst hR
    clear hfp
    go_wp2_with fail
    refine bodyPost_ret (ret_cell_tmp rfl _ _ w.heap.size 30 _ (0, 0) _ rfl (set2 HB.out) Try.underlying30 rfl (by kernel_rfl)) rfl ?_
    refine ⟨_, rfl, ⟨_, rfl, FieldsAt.nil _⟩, ?_⟩
    repeat (first | (with_reducible exact HX.out) | (with_reducible refine Ext.setCell ?_ (by simp) _))
  · obtain ⟨i, rfl⟩ : ∃ i : Nat, P = (i : Int) := ⟨P.toNat, by omega⟩
    obtain ⟨hlt, hR⟩ := hfp.2 i rfl
    subst hR
    have hneg' : ¬ (i : Int) < 0 := by omega
    obtain ⟨g, o, c', r, e1, _, _, d0, d1, hfr⟩ := (HV.out.ext HX.out).open_ hlt
    obtain ⟨rfl, rfl⟩ : A = some ⟨g, o, none⟩ ∧ c = c' := by simpa using e1
    have HT := hid (hsm.2 _ (List.getElem_mem hlt))
    generalize hT : L[i] = T at *
    obtain ⟨N, F⟩ := T
    dsimp only at *
    have HF := hid hfr
    obtain ⟨A3, c3, rfl, _, q5, _⟩ := hfr
    have hf12 : F.length ≤ 12 := HT.out.2.1
    clear e1 hT hfp hneg
    have HB2 := hid (heap_alloc_new w2 (Obj.cells #[.string N, .slice A3 F.length c3] 30 (0, 0)))
    have HX2 := hid (Ext.alloc w2 (Obj.cells #[.string N, .slice A3 F.length c3] 30 (0, 0)))
    have kc := sclone_any F (.slice A3 F.length c3) (w2.alloc (Obj.cells #[.string N, .slice A3 F.length c3] 30 (0, 0))) (HF.out.ext HX2.out) hf12
    go_wp2_with fail
    refine kc.mono ?_
    rintro e w4 ⟨u, rfl, hown, hx⟩
    clear kc b0 b1 m0 m1 d0 d1
    replace HB := hid ((HX2.out.trans hx).block HB.out)
    replace HB2 := hid (hx.block HB2.out)
    have HX4 := hid (HX.out.trans (HX2.out.trans hx))
    have hszz : (w2.alloc (Obj.cells #[.string N, .slice A3 F.length c3] 30 (0, 0))).heap.size = w2.heap.size + 1 := by simp
    rw [hszz] at hown
    have HOW := hid hown
    have hbel := HX.out.size
    obtain ⟨A6, c6, rfl, _, _, _⟩ := own_form hown
    clear hx hown hszz
    obtain ⟨⟨b0, b1⟩, ⟨m0, m1⟩, _⟩ := box2 HB.out
    obtain ⟨⟨a0, a1⟩, ⟨n0, n1⟩, _⟩ := box2 HB2.out
    have hne : w2.heap.size ≠ w.heap.size := by omega
    go_wp2_with fail
    refine bodyPost_ret (ret_cell_tmp rfl _ _ w.heap.size 30 _ (0, 0) _ rfl (set2 ((heap_setCell_other w4 _ _ _ hne.symm).trans HB.out)) Try.underlying30 rfl (by kernel_rfl)) rfl ?_
    refine ⟨_, rfl, ⟨_, rfl, FieldsAt.of_own (ownsRow_setCell_below (ownsRow_setCell_below (ownsRow_setCell_below HOW.out (by show w2.heap.size < _; omega) _) (by show w.heap.size < _; omega) _) (by show w.heap.size < _; omega) _)⟩, ?_⟩
    repeat (first | (with_reducible exact HX4.out) | (with_reducible refine Ext.setCell ?_ (by first | omega | (show _ ≤ w.heap.size; omega) | (show _ ≤ w2.heap.size; omega)) _))

set_option maxRecDepth 100000 in
set_option maxHeartbeats 4000000 in
theorem sfitsv_any (t : TZ) (V : List VZ) (r v : Value) (w : World) (hf : FieldsAt w r t.f) (hv : ValsAt w v V) (hok : ValsOk V) : Calls Try.prog 26 #[.agg #[.string t.n, r], v] w (Says w (.int .i64 (fitsZ t.f V))) := by
  obtain ⟨nm, F⟩ := t
  dsimp only at *
  have ho : fitsZ F V = if V.length ≠ F.length then 5 else fitZ F V := rfl
  generalize fitsZ F V = R at *
  have HF := hid hf
  have HV := hid hv
  obtain ⟨A, c, rfl, q1, q2, _⟩ := hf
  obtain ⟨A2, c2, rfl, q3, q4, _⟩ := hv
  have hml : (F.length : Int) ≤ 9223372036854775807 := by unfold maxLen at q2; omega
  have hml2 : (V.length : Int) ≤ 9223372036854775807 := by unfold maxLen at q4; omega
  by_cases hl : V.length = F.length
  · rw [if_neg (fun h => h hl)] at ho
    have HO := hid ho
    have hl' : ((V.length : Int) != (F.length : Int)) = false := bne_eq_false_iff_eq.2 (by omega)
    have HL := hid hl
    clear ho hl
    go_enter Try.func26, Try.ntmps26
    go_wp2_with fail
    have HB := hid (heap_alloc_new w (Obj.cells #[.string nm, .slice A F.length c] 30 (0, 0)))
    have HX := hid (Ext.alloc w (Obj.cells #[.string nm, .slice A F.length c] 30 (0, 0)))
    obtain ⟨⟨b0, b1⟩, _, _⟩ := box2 HB.out
    go_loopw [16] (fun x wr => ∃ i : Nat, i ≤ V.length ∧ x = .int .i64 (i : Int) ∧ Hid (R = fitZ (F.drop i) (V.drop i)) ∧ Ext (w.alloc (Obj.cells #[.string nm, .slice A F.length c] 30 (0, 0))) wr)
      (fun x _ => V.length - (intOf x).toNat)
    case atStart => exact ⟨0, by omega, rfl, hid HO.out, Ext.refl _⟩
    case round =>
      obtain ⟨i, hi, rfl, ho, hext⟩ := hrel
      have HE := hid hext
      clear hext
      have b1' : wr.cell? ⟨w.heap.size, 1, none⟩ = some (.slice A F.length c) := HE.out.cell b1
      by_cases hlt : i < V.length
      · have hltF : i < F.length := by have := HL.out; omega
        obtain ⟨g, o, c', e1, v0, v1, v2, v3⟩ := ((HV.out.ext HX.out).ext HE.out).open_ hlt
        obtain ⟨rfl, rfl⟩ : A2 = some ⟨g, o, none⟩ ∧ c2 = c' := by simpa using e1
        obtain ⟨g2, o2, c'', e2, _, _, d0, d1⟩ := ((HF.out.ext HX.out).ext HE.out).open_ hltF
        obtain ⟨rfl, rfl⟩ : A = some ⟨g2, o2, none⟩ ∧ c = c'' := by simpa using e2
        have HAT := hid (fit_at hltF hlt)
        have hvo := hok _ (List.getElem_mem hlt)
        have kc := fun W => vcheck_any V[i].k V[i].n V[i].b V[i].t W hvo.1 hvo.2.1 hvo.2.2.1 hvo.2.2.2.1 hvo.2.2.2.2
        generalize hT : V[i] = T at *
        generalize hU : F[i] = U at *
        obtain ⟨k, n, b, tx⟩ := T
        obtain ⟨N, K⟩ := U
        dsimp only at *
        generalize checkV k n b tx = Q at *
        replace kc : ∀ W, Calls Try.prog 46 #[.agg #[.int .u8 (k : Int), .int .i64 n, .int .u64 (b : Int), .string tx]] W (Says W (.int .i64 Q)) := kc
        have HBV := hid (heap_alloc_new wr (Obj.cells #[.int .u8 (k : Int), .int .i64 n, .int .u64 (b : Int), .string tx] 67 (0, 0)))
        have HXV := hid (Ext.alloc wr (Obj.cells #[.int .u8 (k : Int), .int .i64 n, .int .u64 (b : Int), .string tx] 67 (0, 0)))
        clear e1 e2 hT hU hvo
        go_wp2_with fail
        refine (kc _).mono ?_
        rintro e w2 ⟨rfl, hx⟩
        replace HBV := hid (hx.block HBV.out)
        replace HXV := hid (HXV.out.trans hx)
        obtain ⟨⟨a0, a1, a2, a3⟩, _, _⟩ := box4 HBV.out
        have d1' : w2.cell? ⟨g2, o2 + i * 2 + 1, none⟩ = some (.int .u8 (K : Int)) := HXV.out.cell d1
        have b1'' : w2.cell? ⟨w.heap.size, 1, none⟩ = some (.slice (some ⟨g2, o2, none⟩) F.length c) := HXV.out.cell b1'
        replace HE := hid (HE.out.trans HXV.out)
        clear hx kc v0 v1 v2 v3 d0 d1 b1'
        by_cases hQ : Q = 0
        · subst hQ
          have HR := hid (ho.out.trans (HAT.out.trans (if_neg (fun h => h rfl))))
          by_cases hkk : k = K
          · have hkb : ((k : Int) != (K : Int)) = false := bne_eq_false_iff_eq.2 (by omega)
            have HR2 := hid (HR.out.trans (if_neg (fun h => h hkk)))
            clear hkk
            go_wp2_with fail
            go_quiet (fail)
            go_wp2_with fail
            go_roundw
            case rel => exact ⟨i + 1, by omega, by go_num, HR2, HE.out.trans (Ext.drewN _ _)⟩
            case measure => simp only [intOf]; omega
          · have hkb : ((k : Int) != (K : Int)) = true := bne_iff_ne.2 (by omega)
            have HR2 := hid (HR.out.trans (if_pos hkk))
            clear hkk
            go_wp2_with fail
            go_quiet (fail)
            go_wp2_with fail
            go_ret
            exact ⟨by rw [HR2.out]; rfl, (HX.out.trans HE.out).trans (Ext.drewN _ _)⟩
        · have HR := hid (ho.out.trans (HAT.out.trans (if_pos hQ)))
          have hq : (Q != 0) = true := bne_iff_ne.2 hQ
          clear hQ
          go_wp2_with fail
          go_ret
          exact ⟨by rw [HR.out]; rfl, HX.out.trans HE.out⟩
      · have hi' : i = V.length := by omega
        subst hi'
        go_wp2_with fail
        go_ret
        exact ⟨by rw [ho.out, List.drop_length, HL.out, List.drop_length]; rfl, HX.out.trans HE.out⟩
  · rw [if_pos hl] at ho
    subst ho
    have hl' : ((V.length : Int) != (F.length : Int)) = true := bne_iff_ne.2 (by omega)
    clear hl
    go_enter Try.func26, Try.ntmps26
    go_wp2_with fail
    go_ret
    exact ⟨rfl, Ext.alloc _ _⟩
end Go.Proofs.Ytggafdimbddflaa
