/- The document's Into and Sort of events, by their contracts. Conditions: few events. (Written by tools/mker6.py.) -/
import Derived.Test.YtnldgmpfinlikaaER4
import Derived.Test.YtnldgmpfinlikaaBase
namespace Go.Proofs.Ytnldgmpfinlikaa
open Go Go.RowKit

def Hold9 (p : Prop) : Prop := p
theorem hold9 {p : Prop} (h : Hold9 p) : p := h
theorem ecells_split {L : List EZ} {R : List Value} (h : R.length = L.length) (k : Nat) : ecells L R = ecells (L.take k) (R.take k) ++ ecells (L.drop k) (R.drop k) := by
  rw [← ecells_append _ _ _ _ (by rw [List.length_take, List.length_take, h]), List.take_append_drop, List.take_append_drop]
theorem ecells_take {L : List EZ} {R : List Value} (h : R.length = L.length) {k : Nat} (hk : k ≤ L.length) : (ecells L R).take (k * 5) = ecells (L.take k) (R.take k) := by
  rw [ecells_split h k, List.take_left' (by rw [ecells_len _ _ (by rw [List.length_take, List.length_take, h]), List.length_take, Nat.min_eq_left hk])]
theorem ecells_drop {L : List EZ} {R : List Value} (h : R.length = L.length) {k : Nat} (hk : k ≤ L.length) : (ecells L R).drop (k * 5) = ecells (L.drop k) (R.drop k) := by
  rw [ecells_split h k, List.drop_left' (by rw [ecells_len _ _ (by rw [List.length_take, List.length_take, h]), List.length_take, Nat.min_eq_left hk])]
theorem Lies.drop_at {w : World} {A : Option Addr} {xs : List Value} (h : Lies w A xs) (n : Nat) : Lies w (Option.map (fun x => x.add n) A) (xs.drop n) := fun hx => by
  obtain ⟨ad, rfl, hc⟩ := h (by rintro rfl; simp at hx)
  refine ⟨ad.add n, rfl, fun j u hu => ?_⟩
  rw [add_two]
  rw [List.getElem?_drop] at hu
  exact hc _ u hu
theorem RowsAt.take {w : World} {R : List Value} {L : List EZ} (h : RowsAt w R L) (k : Nat) : RowsAt w (R.take k) (L.take k) := by
  refine ⟨by rw [List.length_take, List.length_take, h.1], fun i h1 h2 => ?_⟩
  rw [List.getElem_take, List.getElem_take]
  rw [List.length_take] at h1
  exact h.2 i (by omega) (by rw [h.1]; omega)
theorem RowsAt.drop {w : World} {R : List Value} {L : List EZ} (h : RowsAt w R L) (k : Nat) : RowsAt w (R.drop k) (L.drop k) := by
  refine ⟨by rw [List.length_drop, List.length_drop, h.1], fun i h1 h2 => ?_⟩
  rw [List.getElem_drop, List.getElem_drop]
  rw [List.length_drop] at h1
  exact h.2 (k + i) (by omega) (by rw [h.1]; omega)
theorem ValsAt.one {w : World} {r : Value} {V : List VZ} (h : ValsAt w r V) : r.oneCell' = true := by
  obtain ⟨A, c, rfl, _⟩ := h
  rfl
theorem RowsAt.one {w : World} {R : List Value} {L : List EZ} (h : RowsAt w R L) : ∀ r ∈ R, r.oneCell' = true := by
  intro r hr
  obtain ⟨i, hi, rfl⟩ := List.getElem_of_mem hr
  exact (h.2 i (by rw [← h.1]; exact hi) hi).one
/-- values that stood ahead lie apart from a row that is made later -/
theorem apart_old {w : World} {r v : Value} {V : List VZ} {base : Nat} (h : ValsAt w r V) (hb : w.heap.size ≤ base) (hv : ∀ k, v.ownBlock = some k → base ≤ k) : ApartV r V v := by
  intro hV g o n c e he
  subst e
  have h1 := h.lt hV
  have h2 := hv g he
  omega
theorem infoE7 : (Try.prog.info? 43).map (fun i => (i.zero, i.size, i.bytes)) = some (some (.agg #[.int .i64 0, .int .i64 0, .int .i64 0, .string ⟨#[]⟩, .slice none 0 0]), 5, 64) := by kernel_rfl

def eintoG (g o n9 c9 k : Nat) (a b : EZ) (ra rb : Value) : Nat → Value → World → Prop
  | 0, v, _ => v = .int .i64 (k : Int)
  | 1, v, _ => v = .slice (some ⟨g, o, none⟩) n9 c9
  | 2, v, _ => v = .int .i64 (n9 : Int)
  | 3, v, _ => v = .bool true
  | 4, v, _ => v = .bool true
  | 5, v, _ => v = evv a ra
  | 6, v, _ => v = .slice (some ⟨g, o, none⟩) n9 c9
  | 7, v, _ => v = .int .i64 (k : Int)
  | 8, v, _ => v = .pointer (some ⟨g, o + k * 5, none⟩)
  | 9, v, _ => v = evv b rb
  | _, _, _ => True
theorem eintoG_st (g o n9 c9 k : Nat) (a b : EZ) (ra rb : Value) : ∀ i9 z9 x9 y9, eintoG g o n9 c9 k a b ra rb i9 z9 x9 → Ext x9 y9 → eintoG g o n9 c9 k a b ra rb i9 z9 y9 := by
  intro i9 z9 x9 y9 h e
  unfold eintoG at *
  split at h <;> first | exact h | exact h.ext e | trivial

set_option maxRecDepth 100000 in
set_option maxHeartbeats 8000000 in
theorem rinto7_any (L : List EZ) (a : EZ) (v ra : Value) (w : World) (hv : EventsAt w v L) (ha : ValsAt w ra a.v) (hl : L.length ≤ 1000) : Calls Try.prog 33 #[v, evv a ra] w (fun e w' => ∃ u, e = .returned u ∧ EventsAt w' u (intoE a L) ∧ Ext w w') := by
  have HV := hid hv
  obtain ⟨R, hR⟩ := id hv
  have HVA := hid ha
  obtain ⟨A, c, rfl, hlc, q1⟩ := hv.shape
  obtain ⟨AV, cV, hra, _, _, _⟩ := id ha
  have HVR := hid hR
  have HRW := hid (show RowsAt w R L by obtain ⟨_, _, _, _, _, h, _⟩ := hR; exact h)
  have HRL := hid HRW.out.1
  clear hv ha hR
  have hml : (L.length : Int) ≤ 9223372036854775807 := by omega
  have HX0 := hid (Ext.alloc w (Obj.cells #[.int .i64 a.m, .int .i64 a.o, .int .i64 a.q, .string a.n, ra] 43 (0, 0)))
  have HB0 := hid (heap_alloc_new w (Obj.cells #[.int .i64 a.m, .int .i64 a.o, .int .i64 a.q, .string a.n, ra] 43 (0, 0)))
  show Calls _ _ #[_, .agg #[.int .i64 a.m, .int .i64 a.o, .int .i64 a.q, .string a.n, ra]] _ _
  subst hra
  go_enter Try.func33, Try.ntmps33
  go_wp2_with fail
  obtain ⟨S, hS⟩ : ∃ S, S = w.heap.size := ⟨_, rfl⟩
  obtain ⟨W1, hW1⟩ : ∃ W1, W1 = w.alloc (Obj.cells #[.int .i64 a.m, .int .i64 a.o, .int .i64 a.q, .string a.n, .slice AV a.v.length cV] 43 (0, 0)) := ⟨_, rfl⟩
  rw [← hW1] at HX0 HB0 ⊢
  rw [← hS] at HB0 ⊢
  have HSS := hid hS
  clear hS hW1
  go_loopw [6] (fun x wr => ∃ k : Nat, k ≤ L.length ∧ x = .int .i64 (k : Int) ∧ Hid (∀ y ∈ L.take k, lessE a y = false) ∧ Ext W1 wr)
    (fun x _ => L.length - (intOf x).toNat)
  case atStart => exact ⟨0, by omega, rfl, hid (fun y hy => by cases hy), Ext.refl _⟩
  case round =>
    obtain ⟨k, hk, rfl, ho, hext⟩ := hrel
    have HE := hid hext
    have HB := hid (hext.block HB0.out)
    obtain ⟨⟨d0, d1, d2, d3, d4⟩, _, _⟩ := box5 HB.out
    clear hext
    by_cases hlt : k < L.length
    · obtain ⟨g, o, c', rb, e1, _, _, k0, k1, k2, k3, k4, hvb⟩ := ((HV.out.ext HX0.out).ext HE.out).open_ hlt
      obtain ⟨rfl, rfl⟩ : A = some ⟨g, o, none⟩ ∧ c = c' := by simpa using e1
      have HGET := hid (List.getElem?_eq_getElem hlt)
      have HTK := hid (List.take_succ_eq_append_getElem hlt)
      generalize hT : L[k] = b at *
      have hra : (Value.slice AV a.v.length cV) = .slice AV a.v.length cV := rfl
      generalize hRA : (Value.slice AV a.v.length cV) = ra at *
      clear e1 hT hvb hra
      go_wp2_with fail
      refine wp_region_tail 10 Ext (eintoG g o L.length c k a b ra rb) (by kernel_rfl) Ext.trans Ext.refl (Ext.drew _) (eintoG_st _ _ _ _ _ _ _ _ _) (by kernel_rfl) (by kernel_rfl) ?_ ?_
      · intro tmps df wq hle hfr jj oo hjj hoo hty
        have h0 : tmps[0]?.getD undef = .slice (some ⟨g, o, none⟩) L.length c := hfr 0 (by kernel_rfl)
        have h3 : tmps[3]?.getD undef = .pointer (some ⟨S, 0, none⟩) := hfr 3 (by kernel_rfl)
        have h6 : tmps[6]?.getD undef = .int .i64 (k : Int) := hfr 6 (by kernel_rfl)
        have d0 := hle.cell d0
        have d1 := hle.cell d1
        have d2 := hle.cell d2
        have d3 := hle.cell d3
        have d4 := hle.cell d4
        have k0 := hle.cell k0
        have k1 := hle.cell k1
        have k2 := hle.cell k2
        have k3 := hle.cell k3
        have k4 := hle.cell k4
        have hbx : (k : Int) < (L.length : Int) := by omega
        clear hfr
        match jj, hoo, hjj with
        | 0, hoo, _ =>
          obtain rfl := (Option.some.inj hoo)
          clear hty hoo
          refine step_pure (.int .i64 (k : Int)) (wanted_free rfl) ?_ (Ext.refl _) rfl
          simp [execOp, Act.eval, h6, go_sem]
        | 1, hoo, _ =>
          obtain rfl := (Option.some.inj hoo)
          clear hty hoo
          refine step_pure (.slice (some ⟨g, o, none⟩) L.length c) (wanted_free rfl) ?_ (Ext.refl _) rfl
          simp [execOp, Act.eval, h0, go_sem]
        | 2, hoo, _ =>
          have h8 : tmps[8]?.getD undef = .slice (some ⟨g, o, none⟩) L.length c := hty 1 8 (by kernel_rfl) (by obtain rfl := (Option.some.inj hoo); rfl)
          obtain rfl := (Option.some.inj hoo)
          clear hty hoo
          refine step_pure (.int .i64 (L.length : Int)) (wanted_free rfl) ?_ (Ext.refl _) rfl
          simp [execOp, Act.eval, h8, go_sem]
        | 3, hoo, _ =>
          have h7 : tmps[7]?.getD undef = .int .i64 (k : Int) := hty 0 7 (by kernel_rfl) (by obtain rfl := (Option.some.inj hoo); rfl)
          have h9 : tmps[9]?.getD undef = .int .i64 (L.length : Int) := hty 2 9 (by kernel_rfl) (by obtain rfl := (Option.some.inj hoo); rfl)
          obtain rfl := (Option.some.inj hoo)
          clear hty hoo
          refine step_pure (.bool true) (wanted_free rfl) ?_ (Ext.refl _) rfl
          simp [execOp, Act.eval, h7, h9, hbx, go_sem]
        | 4, hoo, _ =>
          have h10 : tmps[10]?.getD undef = .bool true := hty 3 10 (by kernel_rfl) (by obtain rfl := (Option.some.inj hoo); rfl)
          obtain rfl := (Option.some.inj hoo)
          clear hty hoo
          refine step_pure (.bool true) (wanted_free rfl) ?_ (Ext.refl _) rfl
          simp [execOp, Act.eval, h10, go_sem]
        | 5, hoo, _ =>
          have h11 : tmps[11]?.getD undef = .bool true := hty 4 11 (by kernel_rfl) (by obtain rfl := (Option.some.inj hoo); rfl)
          obtain rfl := (Option.some.inj hoo)
          clear hty hoo
          refine step_pure (evv a ra) (wanted_guard rfl rfl h11) ?_ (Ext.refl _) rfl
          simp [execOp, Act.eval, h3, evv, d0, d1, d2, d3, d4, go_sem]
        | 6, hoo, _ =>
          have h11 : tmps[11]?.getD undef = .bool true := hty 4 11 (by kernel_rfl) (by obtain rfl := (Option.some.inj hoo); rfl)
          obtain rfl := (Option.some.inj hoo)
          clear hty hoo
          refine step_pure (.slice (some ⟨g, o, none⟩) L.length c) (wanted_guard rfl rfl h11) ?_ (Ext.refl _) rfl
          simp [execOp, Act.eval, h0, go_sem]
        | 7, hoo, _ =>
          have h11 : tmps[11]?.getD undef = .bool true := hty 4 11 (by kernel_rfl) (by obtain rfl := (Option.some.inj hoo); rfl)
          obtain rfl := (Option.some.inj hoo)
          clear hty hoo
          refine step_pure (.int .i64 (k : Int)) (wanted_guard rfl rfl h11) ?_ (Ext.refl _) rfl
          simp [execOp, Act.eval, h6, go_sem]
        | 8, hoo, _ =>
          have h13 : tmps[13]?.getD undef = .slice (some ⟨g, o, none⟩) L.length c := hty 6 13 (by kernel_rfl) (by obtain rfl := (Option.some.inj hoo); rfl)
          have h14 : tmps[14]?.getD undef = .int .i64 (k : Int) := hty 7 14 (by kernel_rfl) (by obtain rfl := (Option.some.inj hoo); rfl)
          have h11 : tmps[11]?.getD undef = .bool true := hty 4 11 (by kernel_rfl) (by obtain rfl := (Option.some.inj hoo); rfl)
          obtain rfl := (Option.some.inj hoo)
          clear hty hoo
          refine step_pure (.pointer (some ⟨g, o + k * 5, none⟩)) (wanted_guard rfl rfl h11) ?_ (Ext.refl _) rfl
          simp [execOp, Act.eval, h13, h14, hbx, go_sem]
        | 9, hoo, _ =>
          have h15 : tmps[15]?.getD undef = .pointer (some ⟨g, o + k * 5, none⟩) := hty 8 15 (by kernel_rfl) (by obtain rfl := (Option.some.inj hoo); rfl)
          have h11 : tmps[11]?.getD undef = .bool true := hty 4 11 (by kernel_rfl) (by obtain rfl := (Option.some.inj hoo); rfl)
          obtain rfl := (Option.some.inj hoo)
          clear hty hoo
          refine step_pure (evv b rb) (wanted_guard rfl rfl h11) ?_ (Ext.refl _) rfl
          simp [execOp, Act.eval, h15, evv, k0, k1, k2, k3, k4, go_sem]
        | (jj + 10), _, hjj => omega
      · intro tmps w7 hle hs hfr hty
        have h11 : tmps[11]?.getD undef = .bool true := hty 4 11 (by kernel_rfl)
        have h12 : tmps[12]?.getD undef = evv a ra := hty 5 12 (by kernel_rfl)
        have h16 : tmps[16]?.getD undef = evv b rb := hty 9 16 (by kernel_rfl)
        have hfe := nframe_eq [7, 8, 9, 10, 11, 12, 13, 14, 15, 16] hs hfr (by kernel_rfl)
        rw [hfe]
        clear hfe hfr hs hty
        simp only [List.foldl_cons, List.foldl_nil]
        rw [h11, h12, h16]
        generalize tmps[7]?.getD undef = x7
        generalize tmps[8]?.getD undef = x8
        generalize tmps[9]?.getD undef = x9
        generalize tmps[10]?.getD undef = x10
        generalize tmps[13]?.getD undef = x13
        generalize tmps[14]?.getD undef = x14
        generalize tmps[15]?.getD undef = x15
        clear h11 h12 h16
        simp only [List.drop_succ_cons, List.drop_zero, List.setIfInBounds_toArray, List.set_cons_succ, List.set_cons_zero]
        have kk := rless7_any a b ra rb w7
        have HE7 := hid (HE.out.trans hle)
        generalize hZ : lessE a b = Z at *
        have HZ := hid hZ
        clear hle hZ
        cases Z
        · go_wp2_with (go_at_call 16; refine kk.mono ?_; rintro e8 w8 ⟨rfl, hx8⟩)
          go_roundw
          case rel => exact ⟨k + 1, by omega, by go_num, hid (fun y hy => by
            rw [HTK.out] at hy
            rcases List.mem_append.1 hy with hy | hy
            · exact ho.out y hy
            · rw [List.mem_singleton.1 hy]; exact HZ.out), HE7.out.trans hx8⟩
          case measure => simp only [intOf]; omega
        · go_wp2_with (first | (go_at_call 16; refine kk.mono ?_; rintro e8 w8 ⟨rfl, hx8⟩) | (at_builtin; (with_reducible show wpList _ _ _ (⟨some 26, _, _, _, _, _⟩ :: _) _ _); refine hold9 ?_))
          unfold Hold9
          have HH8 := hid ((HX0.out.trans HE7.out).trans hx8)
          have HBB8 := hid (hx8.block (HE7.out.block HB0.out))
          generalize hAA : (some (⟨g, o, none⟩ : Addr)) = A at *
          have hS8 : S + 1 ≤ w8.heap.size := (Array.getElem?_eq_some_iff.1 HBB8.out).1
          have HLI := hid (show Lies w8 A (ecells (L.take k) (R.take k)) by
            rw [← ecells_take HRL.out hk]
            exact (HVR.out.ext HH8.out).lies.take (k * 5))
          have HTL := hid (show (L.take k).length = k by rw [List.length_take]; omega)
          have HTR := hid ((HRW.out.ext HH8.out).take k)
          refine wpList_append_lies _ rfl (.tmp 22) (.tmp 25) 22 rfl (S + 1) 43 (.agg #[.int .i64 0, .int .i64 0, .int .i64 0, .string ⟨#[]⟩, .slice none 0 0]) 5 64 Try.underlying22 infoE7 rfl (by decide) (.slice none 0 0) 0 [] rfl (World.ownsRow_nil _ _ _ _) A k c (ecells (L.take k) (R.take k)) rfl (by rw [ecells_len _ _ HTR.out.1, HTL.out]) HLI.out (ecells_one _ _ HTR.out.one) (by unfold maxLen; omega) (by omega) (by omega) ?_
          intro v9 w9 hown9 hgrow9 hat9
          have HB9 := hid (show BuiltE w9 (S + 1) 43 v9 (L.take k) (R.take k) from BuiltE.more (v' := v9) (BuiltE.nil w8 (S + 1) 43) HTR.out (fun i h1 h2 => by intro hV g1 o1 n1 c1 e1 e2; cases e2) (Ext.refl _) hgrow9 (hat9.imp Eq.symm id) (by rw [HTL.out]; exact hown9))
          have HG9 := hid (Ext.grown (Ext.refl w8) hgrow9 (fun k hk => by cases hk))
          have HBX := hid (HG9.out.block HBB8.out)
          have hown := hid (show w9.ownsRow (S + 1) 43 5 v9 k (ecells (L.take k) (R.take k)) by simpa using hown9)
          have hS9 := HG9.out.size
          clear hown9 hgrow9 hat9
          obtain ⟨⟨p0, p1, p2, p3, p4⟩, _, _⟩ := box5 HBX.out
          have HL2 := hid (show Lies (w9.alloc (.cells #[.int .i64 a.m, .int .i64 a.o, .int .i64 a.q, .string a.n, ra] 43)) (some ⟨w9.heap.size, 0, none⟩) (ecell a ra) by
            have := Lies.of_row (heap_alloc_new w9 (.cells #[.int .i64 a.m, .int .i64 a.o, .int .i64 a.q, .string a.n, ra] 43)) 0 5
            simpa [ecell] using this)
          have HO1 := hid (ecells_one [a] [ra] (by intro r hr; rw [List.mem_singleton.1 hr]; exact HVA.out.one))
          go_wp2_with (at_builtin; refine wpList_append_lies _ rfl (.tmp 27) (.tmp 29) 22 rfl (S + 1) 43 (.agg #[.int .i64 0, .int .i64 0, .int .i64 0, .string ⟨#[]⟩, .slice none 0 0]) 5 64 Try.underlying22 infoE7 rfl (by decide) v9 k (ecells (L.take k) (R.take k)) rfl (hown.out.alloc _) (some ⟨w9.heap.size, 0, none⟩) 1 1 (ecell a ra) rfl rfl HL2.out HO1.out (by unfold maxLen; omega) (by omega) (by simp; omega) ?_)
          intro v10 w10 hown10 hgrow10 hat10
          have HVA9 := hid (HVA.out.ext (HH8.out.trans HG9.out))
          have HGE9 := hid (fun k hk => own_block_ge hown.out k hk)
          have HB10 := hid (BuiltE.more (v' := v10) (M := [a]) (S := [ra]) HB9.out ⟨rfl, fun i h1 h2 => by
              obtain rfl : i = 0 := by simpa using h1
              exact HVA9.out⟩ (fun i h1 h2 => by
              obtain rfl : i = 0 := by simpa using h1
              exact apart_old (base := S + 1) HVA.out (by have := HSS.out; omega) HGE9.out) (Ext.alloc _ _) hgrow10 (hat10.imp Eq.symm (fun h => by simpa using h)) (by simpa [HTL.out, ecells] using hown10))
          have HG10 := hid (Ext.grown (x := w) (((HH8.out.trans HG9.out).then_alloc _)) hgrow10 (fun k hk => by have := HGE9.out k hk; have := HSS.out; omega))
          have hown2 := hid (show w10.ownsRow (S + 1) 43 5 v10 (k + 1) (ecells (L.take k) (R.take k) ++ ecell a ra) from hown10)
          have hS10 : S + 1 ≤ w10.heap.size := by have := HG10.out.size; have h2 := hgrow10.size; simp at h2; omega
          clear hown10 hgrow10 hat10 p0 p1 p2 p3 p4
          go_wp2_with (at_builtin; (with_reducible show wpList _ _ _ (⟨some 35, _, _, _, _, _⟩ :: _) _ _); refine hold9 ?_)
          unfold Hold9
          have HDL := hid (show (L.drop k).length = L.length - k by rw [List.length_drop])
          have HDR := hid ((HRW.out.ext HG10.out).drop k)
          have HDI := hid (show Lies w10 (Option.map (fun x => x.add (k * 5)) A) (ecells (L.drop k) (R.drop k)) by
            rw [← ecells_drop HRL.out hk]
            exact (HVR.out.ext HG10.out).lies.drop_at (k * 5))
          refine wpList_append_lies _ rfl (.tmp 31) (.tmp 34) 22 rfl (S + 1) 43 (.agg #[.int .i64 0, .int .i64 0, .int .i64 0, .string ⟨#[]⟩, .slice none 0 0]) 5 64 Try.underlying22 infoE7 rfl (by decide) v10 (k + 1) _ rfl hown2.out (Option.map (fun x => x.add (k * 5)) A) (L.length - k) (c - k) (ecells (L.drop k) (R.drop k)) rfl (by rw [ecells_len _ _ HDR.out.1, HDL.out]) HDI.out (ecells_one _ _ HDR.out.one) (by unfold maxLen; omega) (by omega) (by omega) ?_
          intro v11 w11 hown11 hgrow11 hat11
          have HGE10 := hid (fun k hk => own_block_ge hown2.out k hk)
          have HB11 := hid (BuiltE.more (v' := v11) HB10.out HDR.out (fun i h1 h2 => apart_old (base := S + 1) ((HRW.out.drop k).2 i h1 h2) (by have := HSS.out; omega) HGE10.out) (Ext.refl _) hgrow11 (hat11.imp Eq.symm id) (by
            rw [ecells_append _ _ _ _ (by rw [List.length_take, List.length_take, HRL.out]), List.length_append, HTL.out, HDL.out]
            exact hown11))
          have HG11 := hid (Ext.grown (x := w) HG10.out hgrow11 (fun k hk => by have := HGE10.out k hk; have := HSS.out; omega))
          have HIN := hid (into_at a L k ho.out (fun x hx => by rw [HGET.out] at hx; rw [← Option.some.inj hx]; exact HZ.out))
          clear hown11 hgrow11 hat11
          go_wp2_with fail
          go_ret
          exact ⟨_, rfl, ⟨_, by rw [HIN.out, show L.take k ++ a :: L.drop k = L.take k ++ [a] ++ L.drop k by simp]; exact HB11.out.events⟩, HG11.out⟩
    · have hge : ¬ (k : Int) < (L.length : Int) := by omega
      have hge2 : decide ((k : Int) < (L.length : Int)) = false := decide_eq_false hge
      have hra : (Value.slice AV a.v.length cV) = .slice AV a.v.length cV := rfl
      generalize hRA : (Value.slice AV a.v.length cV) = ra at *
      clear hra
      by_cases hck : c = k
      · have hck2 : k = c := hck.symm
        clear hck
        subst hck2
        go_wp2_with fail
        go_quiet (fail)
        rename_i nq
        have HH8 := hid ((HX0.out.trans HE.out).trans (Ext.drewN wr nq))
        have HBB8 := hid ((Ext.drewN wr nq).block HB.out)
        generalize wr.drewN nq = wr9 at *
        clear d0 d1 d2 d3 d4
        go_wp2_with (at_builtin; (with_reducible show wpList _ _ _ (⟨some 26, _, _, _, _, _⟩ :: _) _ _); refine hold9 ?_)
        unfold Hold9
        have hS8 : S + 1 ≤ wr9.heap.size := (Array.getElem?_eq_some_iff.1 HBB8.out).1
        have HLI := hid (show Lies wr9 A (ecells (L.take k) (R.take k)) by
          rw [← ecells_take HRL.out hk]
          exact (HVR.out.ext HH8.out).lies.take (k * 5))
        have HTL := hid (show (L.take k).length = k by rw [List.length_take]; omega)
        have HTR := hid ((HRW.out.ext HH8.out).take k)
        refine wpList_append_lies _ rfl (.tmp 22) (.tmp 25) 22 rfl (S + 1) 43 (.agg #[.int .i64 0, .int .i64 0, .int .i64 0, .string ⟨#[]⟩, .slice none 0 0]) 5 64 Try.underlying22 infoE7 rfl (by decide) (.slice none 0 0) 0 [] rfl (World.ownsRow_nil _ _ _ _) A k k (ecells (L.take k) (R.take k)) rfl (by rw [ecells_len _ _ HTR.out.1, HTL.out]) HLI.out (ecells_one _ _ HTR.out.one) (by unfold maxLen; omega) (by omega) (by omega) ?_
        intro v9 w9 hown9 hgrow9 hat9
        have HB9 := hid (show BuiltE w9 (S + 1) 43 v9 (L.take k) (R.take k) from BuiltE.more (v' := v9) (BuiltE.nil wr9 (S + 1) 43) HTR.out (fun i h1 h2 => by intro hV g1 o1 n1 c1 e1 e2; cases e2) (Ext.refl _) hgrow9 (hat9.imp Eq.symm id) (by rw [HTL.out]; exact hown9))
        have HG9 := hid (Ext.grown (Ext.refl wr9) hgrow9 (fun k hk => by cases hk))
        have HBX := hid (HG9.out.block HBB8.out)
        have hown := hid (show w9.ownsRow (S + 1) 43 5 v9 k (ecells (L.take k) (R.take k)) by simpa using hown9)
        have hS9 := HG9.out.size
        clear hown9 hgrow9 hat9
        obtain ⟨⟨p0, p1, p2, p3, p4⟩, _, _⟩ := box5 HBX.out
        have HL2 := hid (show Lies (w9.alloc (.cells #[.int .i64 a.m, .int .i64 a.o, .int .i64 a.q, .string a.n, ra] 43)) (some ⟨w9.heap.size, 0, none⟩) (ecell a ra) by
          have := Lies.of_row (heap_alloc_new w9 (.cells #[.int .i64 a.m, .int .i64 a.o, .int .i64 a.q, .string a.n, ra] 43)) 0 5
          simpa [ecell] using this)
        have HO1 := hid (ecells_one [a] [ra] (by intro r hr; rw [List.mem_singleton.1 hr]; exact HVA.out.one))
        go_wp2_with (at_builtin; refine wpList_append_lies _ rfl (.tmp 27) (.tmp 29) 22 rfl (S + 1) 43 (.agg #[.int .i64 0, .int .i64 0, .int .i64 0, .string ⟨#[]⟩, .slice none 0 0]) 5 64 Try.underlying22 infoE7 rfl (by decide) v9 k (ecells (L.take k) (R.take k)) rfl (hown.out.alloc _) (some ⟨w9.heap.size, 0, none⟩) 1 1 (ecell a ra) rfl rfl HL2.out HO1.out (by unfold maxLen; omega) (by omega) (by simp; omega) ?_)
        intro v10 w10 hown10 hgrow10 hat10
        have HVA9 := hid (HVA.out.ext (HH8.out.trans HG9.out))
        have HGE9 := hid (fun k hk => own_block_ge hown.out k hk)
        have HB10 := hid (BuiltE.more (v' := v10) (M := [a]) (S := [ra]) HB9.out ⟨rfl, fun i h1 h2 => by
            obtain rfl : i = 0 := by simpa using h1
            exact HVA9.out⟩ (fun i h1 h2 => by
            obtain rfl : i = 0 := by simpa using h1
            exact apart_old (base := S + 1) HVA.out (by have := HSS.out; omega) HGE9.out) (Ext.alloc _ _) hgrow10 (hat10.imp Eq.symm (fun h => by simpa using h)) (by simpa [HTL.out, ecells] using hown10))
        have HG10 := hid (Ext.grown (x := w) (((HH8.out.trans HG9.out).then_alloc _)) hgrow10 (fun k hk => by have := HGE9.out k hk; have := HSS.out; omega))
        have hown2 := hid (show w10.ownsRow (S + 1) 43 5 v10 (k + 1) (ecells (L.take k) (R.take k) ++ ecell a ra) from hown10)
        have hS10 : S + 1 ≤ w10.heap.size := by have := HG10.out.size; have h2 := hgrow10.size; simp at h2; omega
        clear hown10 hgrow10 hat10 p0 p1 p2 p3 p4
        go_wp2_with (at_builtin; (with_reducible show wpList _ _ _ (⟨some 35, _, _, _, _, _⟩ :: _) _ _); refine hold9 ?_)
        unfold Hold9
        have HDL := hid (show (L.drop k).length = L.length - k by rw [List.length_drop])
        have HDR := hid ((HRW.out.ext HG10.out).drop k)
        have HDI := hid (show Lies w10 A (ecells (L.drop k) (R.drop k)) by
          rw [← ecells_drop HRL.out hk]
          rw [List.drop_eq_nil_of_le (by rw [ecells_len _ _ HRL.out]; omega)]; exact Lies.nil _ _)
        refine wpList_append_lies _ rfl (.tmp 31) (.tmp 34) 22 rfl (S + 1) 43 (.agg #[.int .i64 0, .int .i64 0, .int .i64 0, .string ⟨#[]⟩, .slice none 0 0]) 5 64 Try.underlying22 infoE7 rfl (by decide) v10 (k + 1) _ rfl hown2.out A (L.length - k) (k - k) (ecells (L.drop k) (R.drop k)) (by show Value.slice A 0 0 = Value.slice A (L.length - k) (k - k); rw [Nat.sub_self, show L.length - k = 0 by omega]) (by rw [ecells_len _ _ HDR.out.1, HDL.out]) HDI.out (ecells_one _ _ HDR.out.one) (by unfold maxLen; omega) (by omega) (by omega) ?_
        intro v11 w11 hown11 hgrow11 hat11
        have HGE10 := hid (fun k hk => own_block_ge hown2.out k hk)
        have HB11 := hid (BuiltE.more (v' := v11) HB10.out HDR.out (fun i h1 h2 => apart_old (base := S + 1) ((HRW.out.drop k).2 i h1 h2) (by have := HSS.out; omega) HGE10.out) (Ext.refl _) hgrow11 (hat11.imp Eq.symm id) (by
          rw [ecells_append _ _ _ _ (by rw [List.length_take, List.length_take, HRL.out]), List.length_append, HTL.out, HDL.out]
          exact hown11))
        have HG11 := hid (Ext.grown (x := w) HG10.out hgrow11 (fun k hk => by have := HGE10.out k hk; have := HSS.out; omega))
        have HIN := hid (into_at a L k ho.out (fun x hx => by rw [List.getElem?_eq_none (by omega)] at hx; cases hx))
        clear hown11 hgrow11 hat11
        go_wp2_with fail
        go_ret
        exact ⟨_, rfl, ⟨_, by rw [HIN.out, show L.take k ++ a :: L.drop k = L.take k ++ [a] ++ L.drop k by simp]; exact HB11.out.events⟩, HG11.out⟩
      · go_wp2_with fail
        go_quiet (fail)
        rename_i nq
        have HH8 := hid ((HX0.out.trans HE.out).trans (Ext.drewN wr nq))
        have HBB8 := hid ((Ext.drewN wr nq).block HB.out)
        generalize wr.drewN nq = wr9 at *
        clear d0 d1 d2 d3 d4
        go_wp2_with (at_builtin; (with_reducible show wpList _ _ _ (⟨some 26, _, _, _, _, _⟩ :: _) _ _); refine hold9 ?_)
        unfold Hold9
        have hS8 : S + 1 ≤ wr9.heap.size := (Array.getElem?_eq_some_iff.1 HBB8.out).1
        have HLI := hid (show Lies wr9 A (ecells (L.take k) (R.take k)) by
          rw [← ecells_take HRL.out hk]
          exact (HVR.out.ext HH8.out).lies.take (k * 5))
        have HTL := hid (show (L.take k).length = k by rw [List.length_take]; omega)
        have HTR := hid ((HRW.out.ext HH8.out).take k)
        refine wpList_append_lies _ rfl (.tmp 22) (.tmp 25) 22 rfl (S + 1) 43 (.agg #[.int .i64 0, .int .i64 0, .int .i64 0, .string ⟨#[]⟩, .slice none 0 0]) 5 64 Try.underlying22 infoE7 rfl (by decide) (.slice none 0 0) 0 [] rfl (World.ownsRow_nil _ _ _ _) A k c (ecells (L.take k) (R.take k)) rfl (by rw [ecells_len _ _ HTR.out.1, HTL.out]) HLI.out (ecells_one _ _ HTR.out.one) (by unfold maxLen; omega) (by omega) (by omega) ?_
        intro v9 w9 hown9 hgrow9 hat9
        have HB9 := hid (show BuiltE w9 (S + 1) 43 v9 (L.take k) (R.take k) from BuiltE.more (v' := v9) (BuiltE.nil wr9 (S + 1) 43) HTR.out (fun i h1 h2 => by intro hV g1 o1 n1 c1 e1 e2; cases e2) (Ext.refl _) hgrow9 (hat9.imp Eq.symm id) (by rw [HTL.out]; exact hown9))
        have HG9 := hid (Ext.grown (Ext.refl wr9) hgrow9 (fun k hk => by cases hk))
        have HBX := hid (HG9.out.block HBB8.out)
        have hown := hid (show w9.ownsRow (S + 1) 43 5 v9 k (ecells (L.take k) (R.take k)) by simpa using hown9)
        have hS9 := HG9.out.size
        clear hown9 hgrow9 hat9
        obtain ⟨⟨p0, p1, p2, p3, p4⟩, _, _⟩ := box5 HBX.out
        have HL2 := hid (show Lies (w9.alloc (.cells #[.int .i64 a.m, .int .i64 a.o, .int .i64 a.q, .string a.n, ra] 43)) (some ⟨w9.heap.size, 0, none⟩) (ecell a ra) by
          have := Lies.of_row (heap_alloc_new w9 (.cells #[.int .i64 a.m, .int .i64 a.o, .int .i64 a.q, .string a.n, ra] 43)) 0 5
          simpa [ecell] using this)
        have HO1 := hid (ecells_one [a] [ra] (by intro r hr; rw [List.mem_singleton.1 hr]; exact HVA.out.one))
        go_wp2_with (at_builtin; refine wpList_append_lies _ rfl (.tmp 27) (.tmp 29) 22 rfl (S + 1) 43 (.agg #[.int .i64 0, .int .i64 0, .int .i64 0, .string ⟨#[]⟩, .slice none 0 0]) 5 64 Try.underlying22 infoE7 rfl (by decide) v9 k (ecells (L.take k) (R.take k)) rfl (hown.out.alloc _) (some ⟨w9.heap.size, 0, none⟩) 1 1 (ecell a ra) rfl rfl HL2.out HO1.out (by unfold maxLen; omega) (by omega) (by simp; omega) ?_)
        intro v10 w10 hown10 hgrow10 hat10
        have HVA9 := hid (HVA.out.ext (HH8.out.trans HG9.out))
        have HGE9 := hid (fun k hk => own_block_ge hown.out k hk)
        have HB10 := hid (BuiltE.more (v' := v10) (M := [a]) (S := [ra]) HB9.out ⟨rfl, fun i h1 h2 => by
            obtain rfl : i = 0 := by simpa using h1
            exact HVA9.out⟩ (fun i h1 h2 => by
            obtain rfl : i = 0 := by simpa using h1
            exact apart_old (base := S + 1) HVA.out (by have := HSS.out; omega) HGE9.out) (Ext.alloc _ _) hgrow10 (hat10.imp Eq.symm (fun h => by simpa using h)) (by simpa [HTL.out, ecells] using hown10))
        have HG10 := hid (Ext.grown (x := w) (((HH8.out.trans HG9.out).then_alloc _)) hgrow10 (fun k hk => by have := HGE9.out k hk; have := HSS.out; omega))
        have hown2 := hid (show w10.ownsRow (S + 1) 43 5 v10 (k + 1) (ecells (L.take k) (R.take k) ++ ecell a ra) from hown10)
        have hS10 : S + 1 ≤ w10.heap.size := by have := HG10.out.size; have h2 := hgrow10.size; simp at h2; omega
        clear hown10 hgrow10 hat10 p0 p1 p2 p3 p4
        go_wp2_with (at_builtin; (with_reducible show wpList _ _ _ (⟨some 35, _, _, _, _, _⟩ :: _) _ _); refine hold9 ?_)
        unfold Hold9
        have HDL := hid (show (L.drop k).length = L.length - k by rw [List.length_drop])
        have HDR := hid ((HRW.out.ext HG10.out).drop k)
        have HDI := hid (show Lies w10 (Option.map (fun x => x.add (k * 5)) A) (ecells (L.drop k) (R.drop k)) by
          rw [← ecells_drop HRL.out hk]
          exact (HVR.out.ext HG10.out).lies.drop_at (k * 5))
        refine wpList_append_lies _ rfl (.tmp 31) (.tmp 34) 22 rfl (S + 1) 43 (.agg #[.int .i64 0, .int .i64 0, .int .i64 0, .string ⟨#[]⟩, .slice none 0 0]) 5 64 Try.underlying22 infoE7 rfl (by decide) v10 (k + 1) _ rfl hown2.out (Option.map (fun x => x.add (k * 5)) A) (L.length - k) (c - k) (ecells (L.drop k) (R.drop k)) rfl (by rw [ecells_len _ _ HDR.out.1, HDL.out]) HDI.out (ecells_one _ _ HDR.out.one) (by unfold maxLen; omega) (by omega) (by omega) ?_
        intro v11 w11 hown11 hgrow11 hat11
        have HGE10 := hid (fun k hk => own_block_ge hown2.out k hk)
        have HB11 := hid (BuiltE.more (v' := v11) HB10.out HDR.out (fun i h1 h2 => apart_old (base := S + 1) ((HRW.out.drop k).2 i h1 h2) (by have := HSS.out; omega) HGE10.out) (Ext.refl _) hgrow11 (hat11.imp Eq.symm id) (by
          rw [ecells_append _ _ _ _ (by rw [List.length_take, List.length_take, HRL.out]), List.length_append, HTL.out, HDL.out]
          exact hown11))
        have HG11 := hid (Ext.grown (x := w) HG10.out hgrow11 (fun k hk => by have := HGE10.out k hk; have := HSS.out; omega))
        have HIN := hid (into_at a L k ho.out (fun x hx => by rw [List.getElem?_eq_none (by omega)] at hx; cases hx))
        clear hown11 hgrow11 hat11
        go_wp2_with fail
        go_ret
        exact ⟨_, rfl, ⟨_, by rw [HIN.out, show L.take k ++ a :: L.drop k = L.take k ++ [a] ++ L.drop k by simp]; exact HB11.out.events⟩, HG11.out⟩

set_option maxRecDepth 100000 in
set_option maxHeartbeats 2000000 in
theorem rsort7_any (L : List EZ) (v : Value) (w : World) (hv : EventsAt w v L) (hl : L.length ≤ 1000) : Calls Try.prog 11 #[v] w (fun e w' => ∃ u, e = .returned u ∧ EventsAt w' u (sortE L) ∧ Ext w w') := by
  have HV := hid hv
  obtain ⟨A, c, rfl, hlc, q1⟩ := hv.shape
  clear hv
  have hml : (L.length : Int) ≤ 9223372036854775807 := by omega
  go_enter Try.func11, Try.ntmps11
  go_wp2_with fail
  go_loopw [3, 4] (fun x y wr => ∃ i : Nat, i ≤ L.length ∧ y = .int .i64 (i : Int) ∧ Hid (EventsAt wr x (sortE (L.take i))) ∧ Ext w wr)
    (fun _ y _ => L.length - (intOf y).toNat)
  case atStart => exact ⟨0, by omega, rfl, hid (EventsAt.nil _), Ext.refl _⟩
  case round =>
    obtain ⟨i, hi, rfl, ho, hext⟩ := hrel
    have HE := hid hext
    clear hext
    by_cases hlt : i < L.length
    · obtain ⟨g, o, c', ra, e1, _, _, d0, d1, d2, d3, d4, hva⟩ := (HV.out.ext HE.out).open_ hlt
      obtain ⟨rfl, rfl⟩ : A = some ⟨g, o, none⟩ ∧ c = c' := by simpa using e1
      have HS := hid (show sortE (L.take (i + 1)) = intoE L[i] (sortE (L.take i)) by rw [List.take_succ_eq_append_getElem hlt, sortE_snoc])
      have hsl : (sortE (L.take i)).length ≤ 1000 := by rw [sortE_length, List.length_take]; omega
      generalize sortE (L.take i) = M at *
      generalize hT : L[i] = a at *
      have kk := rinto7_any M a u3 ra wr ho.out hva hsl
      unfold evv at kk
      clear e1 hT hva
      go_wp2_with (go_at_call 33; refine kk.mono ?_; rintro e8 w8 ⟨u, rfl, hu, hx⟩)
      go_roundw
      case rel => exact ⟨i + 1, by omega, by go_num, hid (by rw [HS.out]; exact hu), HE.out.trans hx⟩
      case measure => simp only [intOf]; omega
    · have hi' : i = L.length := by omega
      subst hi'
      rw [List.take_length] at ho
      go_wp2_with fail
      go_ret
      exact ⟨_, rfl, ho.out, HE.out⟩
end Go.Proofs.Ytnldgmpfinlikaa
