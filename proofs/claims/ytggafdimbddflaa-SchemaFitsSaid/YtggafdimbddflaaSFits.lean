/- telltalelaw06.SchemaFits answers true. Conditions: none. -/
import Derived.Test.YtggafdimbddflaaSAwk
import Derived.Test.YtggafdimbddflaaVSmall
namespace Go.Proofs.Ytggafdimbddflaa
open Go Go.RowKit

theorem TypesAt.of_block {w : World} {g : Nat} {N : ByteArray} {r : Value} {F : List FZ} {t : TypeId} (h : w.heap[g]? = some (.cells #[.string N, r] t (0, 0))) (hf : FieldsAt w r F) : TypesAt w (.slice (some ⟨g, 0, none⟩) 1 1) [⟨N, F⟩] := by
  refine ⟨_, 1, rfl, Nat.le_refl _, by unfold maxLen; omega, fun i hi => ?_⟩
  have : i = 0 := by simp at hi; omega
  subst this
  exact ⟨g, 0, r, rfl, (box2 h).1.1, (box2 h).1.2, hf⟩
/-- a type lies behind this address -/
def PtrAt (w : World) (v : Value) (t : TZ) : Prop := ∃ g o r, v = .pointer (some ⟨g, o, none⟩) ∧ w.cell? ⟨g, o, none⟩ = some (.string t.n) ∧ w.cell? ⟨g, o + 1, none⟩ = some r ∧ FieldsAt w r t.f
theorem PtrAt.ext {w w' : World} {v : Value} {t : TZ} (h : PtrAt w v t) (e : Ext w w') : PtrAt w' v t := by
  obtain ⟨g, o, r, h1, h2, h3, h4⟩ := h
  exact ⟨g, o, r, h1, e.cell h2, e.cell h3, h4.ext e⟩
/-- what the slots of the region hold -/
def sfitsG (N : ByteArray) (F : List FZ) (V : List VZ) (A : Option Addr) (c : Nat) (vl : Value) (R : Int) : Nat → Value → World → Prop
  | 0, v, _ => v = .agg #[.string N, .slice A F.length c]
  | 1, v, w => TypesAt w v [(⟨N, F⟩ : TZ)]
  | 2, v, w => TypesAt w v [(⟨N, F⟩ : TZ)]
  | 3, v, w => PtrAt w v (⟨N, F⟩ : TZ)
  | 4, v, w => TypeV w v (⟨N, F⟩ : TZ)
  | 5, v, _ => v = vl
  | 6, v, w => ValsAt w v V
  | 7, v, _ => v = .int .i64 R
  | 8, v, _ => v = .agg #[.string N, .slice A F.length c]
  | 9, v, _ => v = vl
  | 10, v, _ => v = .int .i64 R
  | 11, v, _ => v = .bool true
  | 12, v, _ => v = .bool true
  | 13, v, _ => v = .bool true
  | 14, v, _ => v = .bool true
  | 15, v, _ => v = .bool true
  | _, _, _ => True
theorem sfitsG_st (N : ByteArray) (F : List FZ) (V : List VZ) (A : Option Addr) (c : Nat) (vl : Value) (R : Int) : ∀ i9 z9 x9 y9, sfitsG N F V A c vl R i9 z9 x9 → Ext x9 y9 → sfitsG N F V A c vl R i9 z9 y9 := by
  intro i9 z9 x9 y9 h e
  unfold sfitsG at *
  split at h <;> first | exact h | trivial | exact TypesAt.ext h e | exact fun h9 => TypesAt.ext (h h9) e | exact ValsAt.ext h e | exact fun h9 => ValsAt.ext (h h9) e | exact TypeV.ext h e | exact fun h9 => TypeV.ext (h h9) e | exact PtrAt.ext h e | exact fun h9 => PtrAt.ext (h h9) e

set_option maxRecDepth 100000 in
set_option maxHeartbeats 4000000 in
theorem sfits6_any (N : ByteArray) (F : List FZ) (V : List VZ) (A : Option Addr) (c : Nat) (vl : Value) (w : World) (hf : FieldsAt w (.slice A F.length c) F) (htok : TypeOk ⟨N, F⟩) (hvl : ValsAt w vl V) (hok : ValsOk V) :
    Calls Try.prog 4 #[.agg #[.string N, .slice A F.length c], vl] w (Says w (.bool true)) := by
  have HFL := hid hf
  have HVV := hid hvl
  obtain ⟨A2, c2, rfl, q3, q4, _⟩ := hvl
  have hml2 : (V.length : Int) ≤ 9223372036854775807 := by unfold maxLen at q4; omega
  have kov := fun W v (h : TypesAt W v [(⟨N, F⟩ : TZ)]) => over_any [⟨N, F⟩] v W h
  have hin := @in_small [⟨N, F⟩]
  have hov : overZ [⟨N, F⟩] = if typesIn [⟨N, F⟩] then 0 else 1 := rfl
  generalize typesIn [⟨N, F⟩] = IN at *
  generalize overZ [⟨N, F⟩] = OV at *
  cases IN
  · subst hov
    go_enter Try.func4, Try.ntmps4
    go_wp2_with fail
    refine (kov _ _ (TypesAt.of_block (heap_alloc2_new w _ _) (HFL.out.ext ((Ext.alloc _ _).then_alloc _)))).mono ?_
    rintro e w1 ⟨rfl, hx⟩
    have HX := hid (((Ext.alloc w _).then_alloc _).trans hx)
    clear hx
    go_wp2_with fail
    refine (sawake_any _).mono ?_
    rintro e w2 ⟨rfl, hx2⟩
    go_wp2_with fail
    go_ret
    exact ⟨rfl, HX.out.trans hx2⟩
  · subst hov
    have HSM := hin rfl (fun t ht => by rw [List.mem_singleton.1 ht]; exact htok)
    have HTS := HSM.2 _ (List.mem_singleton.2 rfl)
    by_cases h12 : 12 < V.length
    · have h12' : 12 < (V.length : Int) := by omega
      go_enter Try.func4, Try.ntmps4
      go_wp2_with fail
      refine (kov _ _ (TypesAt.of_block (heap_alloc2_new w _ _) (HFL.out.ext ((Ext.alloc _ _).then_alloc _)))).mono ?_
      rintro e w1 ⟨rfl, hx⟩
      have HX := hid (((Ext.alloc w _).then_alloc _).trans hx)
      clear hx
      go_wp2_with fail
      refine (sawake_any _).mono ?_
      rintro e w2 ⟨rfl, hx2⟩
      go_wp2_with fail
      go_ret
      exact ⟨rfl, HX.out.trans hx2⟩
    · have h12' : ¬ 12 < (V.length : Int) := by omega
      replace h12 : V.length ≤ 12 := by omega
      go_enter Try.func4, Try.ntmps4
      go_wp2_with fail
      refine (kov _ _ (TypesAt.of_block (heap_alloc2_new w _ _) (HFL.out.ext ((Ext.alloc _ _).then_alloc _)))).mono ?_
      rintro e w1 ⟨rfl, hx⟩
      have HX := hid (((Ext.alloc w _).then_alloc _).trans hx)
      have HB := hid (hx.block (heap_alloc2_old w _ _))
      clear hx
      obtain ⟨B, hB⟩ : ∃ B, B = w.heap.size := ⟨_, rfl⟩
      rw [← hB] at HB ⊢
      clear hB
      go_wp2_with fail
      go_loopw [5] (fun x wr => ∃ i : Nat, i ≤ V.length ∧ x = .int .i64 (i : Int) ∧ Ext w1 wr)
        (fun x _ => V.length - (intOf x).toNat)
      case atStart => exact ⟨0, by omega, rfl, Ext.refl _⟩
      case round =>
        obtain ⟨i, hi, rfl, hext⟩ := hrel
        have HE := hid hext
        clear hext
        by_cases hlt : i < V.length
        · obtain ⟨g, o, c', e1, v0, v1, v2, v3⟩ := ((HVV.out.ext HX.out).ext HE.out).open_ hlt
          obtain ⟨rfl, rfl⟩ : A2 = some ⟨g, o, none⟩ ∧ c2 = c' := by simpa using e1
          have ks := fun W => small_any V[i].k V[i].n V[i].b V[i].t W (hok _ (List.getElem_mem hlt)).2.2.2.2
          generalize V[i] = U at *
          obtain ⟨k, n, b, t⟩ := U
          dsimp only at *
          clear e1
          by_cases hz : 100 < t.size
          · rw [show max 0 ((t.size : Int) - 100) = (t.size : Int) - 100 by omega] at ks
            have hz' : 0 < (t.size : Int) - 100 := by omega
            generalize (t.size : Int) - 100 = Z at *
            go_wp2_with fail
            refine (ks _).mono ?_
            rintro e w2 ⟨rfl, hx⟩
            go_wp2_with fail
            refine (sawake_any _).mono ?_
            rintro e w3 ⟨rfl, hx2⟩
            go_wp2_with fail
            go_ret
            exact ⟨rfl, ((HX.out.trans HE.out).trans hx).trans hx2⟩
          · rw [show max 0 ((t.size : Int) - 100) = 0 by omega] at ks
            go_wp2_with fail
            refine (ks _).mono ?_
            rintro e w2 ⟨rfl, hx⟩
            go_wp2_with fail
            go_roundw
            case rel => exact ⟨i + 1, by omega, by go_num, HE.out.trans hx⟩
            case measure => simp only [intOf]; omega
        · have hi' : i = V.length := by omega
          subst hi'
          replace HB := hid (HE.out.block HB.out)
          replace HX := hid (HX.out.trans HE.out)
          have HF := hid (HFL.out.ext HX.out)
          have HVL := hid (HVV.out.ext HX.out)
          obtain ⟨R, hR⟩ : ∃ R, R = fitsZ F V := ⟨_, rfl⟩
          have HR := hid hR.symm
          clear hR
          go_wp2_with fail
          generalize hvl : Value.slice A2 V.length c2 = vl at *
          refine wp_region_slots Ext (sfitsG N F V A c vl R) (by kernel_rfl) Ext.trans Ext.refl (Ext.drew _) (sfitsG_st _ _ _ _ _ _ _) (by kernel_rfl) ?_ ?_
          · intro tmps wr hle hfr j o9 ho hty
            have h1 : tmps[1]?.getD undef = vl := hfr 1 (by kernel_rfl)
            have h2 : tmps[2]?.getD undef = .pointer (some ⟨B, 0, none⟩) := hfr 2 (by kernel_rfl)
            obtain ⟨⟨a0, a1⟩, _, _⟩ := box2 (hle.block HB.out)
            have HFW := HF.out.ext hle
            clear hfr
            match j, ho with
            | 0, ho =>
              obtain rfl := (Option.some.inj ho)
              clear hty ho
              refine step_pure (.agg #[.string N, .slice A F.length c]) (wanted_free rfl) ?_ (Ext.refl _) rfl
              simp [execOp, Act.eval, h2, a0, a1, go_sem]
            | 1, ho =>
              have h29 : tmps[29]?.getD undef = .agg #[.string N, .slice A F.length c] := hty 0 29 rfl (by obtain rfl := (Option.some.inj ho); rfl)
              obtain rfl := (Option.some.inj ho)
              clear hty ho
              refine step_make (.slice (some ⟨wr.heap.size, 0, none⟩) 1 1) (wr.alloc (Obj.cells #[.string N, .slice A F.length c] 35 (0, 0))) (wanted_free rfl) ?_ (Ext.alloc _ _) ?_
              · simp [execOp, Act.eval, h29, go_sem]
              · exact TypesAt.of_block (heap_alloc_new wr _) (HFW.ext (Ext.alloc _ _))
            | 2, ho =>
              have h30 : TypesAt wr (tmps[30]?.getD undef) [(⟨N, F⟩ : TZ)] := hty 1 30 rfl (by obtain rfl := (Option.some.inj ho); rfl)
              obtain rfl := (Option.some.inj ho)
              clear hty ho
              refine step_call 9 #[tmps[30]?.getD undef] (wanted_free rfl) ?_ ?_
              · simp [execOp, Act.eval, go_sem]
              · exact (own6_any _ _ _ h30 HSM).mono fun e w' ⟨u, h1, h2, h3⟩ => ⟨u, h1, h3, h2⟩
            | 3, ho =>
              have h31 : TypesAt wr (tmps[31]?.getD undef) [(⟨N, F⟩ : TZ)] := hty 2 31 rfl (by obtain rfl := (Option.some.inj ho); rfl)
              obtain rfl := (Option.some.inj ho)
              clear hty ho
              obtain ⟨g9, o9, c9, r9, e9, _, _, d0, d1, hf⟩ := h31.open_ (i := 0) (Nat.succ_pos _)
              refine step_pure (.pointer (some ⟨g9, o9, none⟩)) (wanted_free rfl) ?_ (Ext.refl _) ⟨g9, o9, r9, rfl, d0, d1, hf⟩
              simp [execOp, Act.eval, e9, go_sem]
            | 4, ho =>
              have h32 : PtrAt wr (tmps[32]?.getD undef) (⟨N, F⟩ : TZ) := hty 3 32 rfl (by obtain rfl := (Option.some.inj ho); rfl)
              obtain rfl := (Option.some.inj ho)
              clear hty ho
              obtain ⟨g9, o9, r9, e9, d0, d1, hf⟩ := h32
              have hf9 := hf
              obtain ⟨A9, c9, rfl, _, _, _⟩ := hf
              refine step_pure (.agg #[.string N, .slice A9 F.length c9]) (wanted_free rfl) ?_ (Ext.refl _) ⟨_, rfl, hf9⟩
              simp [execOp, Act.eval, e9, d0, d1, go_sem]
            | 5, ho =>
              obtain rfl := (Option.some.inj ho)
              clear hty ho
              refine step_pure (vl) (wanted_free rfl) ?_ (Ext.refl _) rfl
              simp [execOp, Act.eval, h1, go_sem]
            | 6, ho =>
              have h34 : tmps[34]?.getD undef = vl := hty 5 34 rfl (by obtain rfl := (Option.some.inj ho); rfl)
              obtain rfl := (Option.some.inj ho)
              clear hty ho
              refine step_call 27 #[vl] (wanted_free rfl) ?_ ?_
              · simp [execOp, Act.eval, h34, go_sem]
              · exact (vals_any V vl _ (HVL.out.ext hle) h12).mono fun e w' ⟨u, h1, h2, h3⟩ => ⟨u, h1, h3, h2⟩
            | 7, ho =>
              have h33 : TypeV wr (tmps[33]?.getD undef) (⟨N, F⟩ : TZ) := hty 4 33 rfl (by obtain rfl := (Option.some.inj ho); rfl)
              have h35 : ValsAt wr (tmps[35]?.getD undef) V := hty 6 35 rfl (by obtain rfl := (Option.some.inj ho); rfl)
              obtain rfl := (Option.some.inj ho)
              clear hty ho
              obtain ⟨r9, e9, hf9⟩ := h33
              refine step_call 26 #[.agg #[.string N, r9], tmps[35]?.getD undef] (wanted_free rfl) ?_ ?_
              · simp [execOp, Act.eval, e9, go_sem]
              · exact (sfits_any ⟨N, F⟩ V r9 _ _ hf9 h35 HTS hok h12).mono fun e w' ⟨h1, h2⟩ => ⟨_, h1, h2, by rw [HR.out]; rfl⟩
            | 8, ho =>
              obtain rfl := (Option.some.inj ho)
              clear hty ho
              refine step_pure (.agg #[.string N, .slice A F.length c]) (wanted_free rfl) ?_ (Ext.refl _) rfl
              simp [execOp, Act.eval, h2, a0, a1, go_sem]
            | 9, ho =>
              obtain rfl := (Option.some.inj ho)
              clear hty ho
              refine step_pure (vl) (wanted_free rfl) ?_ (Ext.refl _) rfl
              simp [execOp, Act.eval, h1, go_sem]
            | 10, ho =>
              have h37 : tmps[37]?.getD undef = .agg #[.string N, .slice A F.length c] := hty 8 37 rfl (by obtain rfl := (Option.some.inj ho); rfl)
              have h38 : tmps[38]?.getD undef = vl := hty 9 38 rfl (by obtain rfl := (Option.some.inj ho); rfl)
              obtain rfl := (Option.some.inj ho)
              clear hty ho
              refine step_call 28 #[.agg #[.string N, .slice A F.length c], vl] (wanted_free rfl) ?_ ?_
              · simp [execOp, Act.eval, h37, h38, go_sem]
              · exact (rfits6_any ⟨N, F⟩ V _ _ _ HFW (HVL.out.ext hle) hok).mono fun e w' ⟨h1, h2⟩ => ⟨_, h1, h2, by rw [HR.out]; rfl⟩
            | 11, ho =>
              have h36 : tmps[36]?.getD undef = .int .i64 R := hty 7 36 rfl (by obtain rfl := (Option.some.inj ho); rfl)
              have h39 : tmps[39]?.getD undef = .int .i64 R := hty 10 39 rfl (by obtain rfl := (Option.some.inj ho); rfl)
              obtain rfl := (Option.some.inj ho)
              clear hty ho
              refine step_pure (.bool true) (wanted_free rfl) ?_ (Ext.refl _) rfl
              simp [execOp, Act.eval, h36, h39, go_sem]
            | 12, ho =>
              have h40 : tmps[40]?.getD undef = .bool true := hty 11 40 rfl (by obtain rfl := (Option.some.inj ho); rfl)
              obtain rfl := (Option.some.inj ho)
              clear hty ho
              refine step_pure (.bool true) (wanted_free rfl) ?_ (Ext.refl _) rfl
              simp [execOp, Act.eval, h40, go_sem]
            | 13, ho =>
              have h41 : tmps[41]?.getD undef = .bool true := hty 12 41 rfl (by obtain rfl := (Option.some.inj ho); rfl)
              obtain rfl := (Option.some.inj ho)
              clear hty ho
              refine step_call 8 #[] (wanted_guard rfl rfl h41) ?_ ?_
              · simp [execOp, Act.eval, go_sem]
              · exact (sawake_any _).mono fun e w' ⟨h1, h2⟩ => ⟨_, h1, h2, rfl⟩
            | 14, ho =>
              have h41 : tmps[41]?.getD undef = .bool true := hty 12 41 rfl (by obtain rfl := (Option.some.inj ho); rfl)
              have h42 : tmps[42]?.getD undef = .bool true := hty 13 42 rfl (by obtain rfl := (Option.some.inj ho); rfl)
              obtain rfl := (Option.some.inj ho)
              clear hty ho
              refine step_pure (.bool true) (wanted_free rfl) ?_ (Ext.refl _) rfl
              simp [execOp, Act.eval, h41, h42, go_sem]
            | 15, ho =>
              have h43 : tmps[43]?.getD undef = .bool true := hty 14 43 rfl (by obtain rfl := (Option.some.inj ho); rfl)
              obtain rfl := (Option.some.inj ho)
              clear hty ho
              refine step_pure (.bool true) (wanted_free rfl) ?_ (Ext.refl _) rfl
              simp [execOp, Act.eval, h43, go_sem]
            | (j + 16), ho => exact absurd ho (by simp)
          · intro tmps w7 hle hs hfr hty
            have h0 : tmps[4]?.getD undef = .bool true := hty 15 4 rfl
            have hfe := frame_eq [29, 30, 31, 32, 33, 34, 35, 36, 37, 38, 39, 40, 41, 42, 43, 4] hs hfr (by kernel_rfl)
            rw [hfe]
            clear hfe hfr hs hty
            simp only [List.foldl_cons, List.foldl_nil]
            generalize tmps[29]?.getD undef = x29
            generalize tmps[30]?.getD undef = x30
            generalize tmps[31]?.getD undef = x31
            generalize tmps[32]?.getD undef = x32
            generalize tmps[33]?.getD undef = x33
            generalize tmps[34]?.getD undef = x34
            generalize tmps[35]?.getD undef = x35
            generalize tmps[36]?.getD undef = x36
            generalize tmps[37]?.getD undef = x37
            generalize tmps[38]?.getD undef = x38
            generalize tmps[39]?.getD undef = x39
            generalize tmps[40]?.getD undef = x40
            generalize tmps[41]?.getD undef = x41
            generalize tmps[42]?.getD undef = x42
            generalize tmps[43]?.getD undef = x43
            rw [h0]
            clear h0
            simp only [List.setIfInBounds_toArray, List.set_cons_succ, List.set_cons_zero]
            replace HX := hid (HX.out.trans hle)
            clear hle
            go_wp2_with fail
            go_ret
            exact ⟨rfl, HX.out⟩
end Go.Proofs.Ytggafdimbddflaa
