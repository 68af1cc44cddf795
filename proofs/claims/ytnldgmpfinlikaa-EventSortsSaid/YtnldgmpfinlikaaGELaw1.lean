/- Several texts in one: ELaw1, ELaw2. Conditions: those of each. -/
import Derived.Deep.RegionLaw
import Derived.Test.YtnldgmpfinlikaaER6
import Derived.Test.YtnldgmpfinlikaaGER7
import Derived.Test.YtnldgmpfinlikaaGVV1
/- telltalelaw07.Own and OwnAll: events of the program's out of the document's. Conditions: few values. (Written by tools/mkelaw1.py.) -/
namespace Go.Proofs.Ytnldgmpfinlikaa
open Go Go.RowKit

theorem infoE1 : (Try.prog.info? 37).map (fun i => (i.zero, i.size, i.bytes)) = some (some (.agg #[.int .i64 0, .int .i64 0, .int .i64 0, .string ⟨#[]⟩, .slice none 0 0]), 5, 64) := by kernel_rfl
theorem ValsAt.of_owned {w : World} {base : Nat} {e : TypeId} {u : Value} {V : List VZ} (h : w.ownsRow base e 4 u V.length (vcells V)) : ValsAt w u V := ValsAt.of_own h
/-- values that were built behind a row lie apart from it -/
theorem apart_new {w : World} {S : Nat} {e : TypeId} {u v : Value} {V : List VZ} {n : Nat} {xs : List Value} (h : w.ownsRow S e 4 u n xs) (hv : ∀ k, v.ownBlock = some k → k < S) : ApartV u V v := by
  intro _ g o n' c he hb
  subst he
  have h1 := hv g hb
  rcases h.2 with ⟨h2, _⟩ | ⟨g', cap, cur, h2, h3, _⟩
  · cases h2
  · cases h2
    omega
def eownG (S : Nat) (e : EZ) (r : Value) : Nat → Value → World → Prop
  | 0, v, _ => v = .pointer (some ⟨S, 0, none⟩)
  | 1, v, _ => v = .int .i64 e.m
  | 2, v, _ => v = .pointer (some ⟨S, 1, none⟩)
  | 3, v, _ => v = .int .i64 e.o
  | 4, v, _ => v = .pointer (some ⟨S, 2, none⟩)
  | 5, v, _ => v = .int .i64 e.q
  | 6, v, _ => v = .pointer (some ⟨S, 3, none⟩)
  | 7, v, _ => v = .string e.n
  | 8, v, _ => v = .pointer (some ⟨S, 4, none⟩)
  | 9, v, _ => v = r
  | 10, v, w => w.ownsRow (S + 2) 68 4 v e.v.length (vcells e.v)
  | _, _, _ => True
theorem eownG_st (S : Nat) (e : EZ) (r : Value) : ∀ i9 z9 x9 y9, eownG S e r i9 z9 x9 → Ext x9 y9 → eownG S e r i9 z9 y9 := by
  intro i9 z9 x9 y9 h e9
  unfold eownG at *
  split at h <;> first | exact h | exact own_later h e9 | trivial

set_option maxRecDepth 100000 in
set_option maxHeartbeats 4000000 in
theorem eown_any (e : EZ) (r : Value) (w : World) (hv : ValsAt w r e.v) (hle12 : e.v.length ≤ 12) : Calls Try.prog 24 #[evv e r] w (fun e' w' => ∃ u, e' = .returned (evv e u) ∧ w'.ownsRow w.heap.size 68 4 u e.v.length (vcells e.v) ∧ Ext w w') := by
  have HV := hid hv
  have HX := hid ((Ext.alloc w (Obj.cells #[.int .i64 e.m, .int .i64 e.o, .int .i64 e.q, .string e.n, r] 43 (0, 0))).then_alloc (Obj.cells #[.int .i64 0, .int .i64 0, .int .i64 0, .string ⟨#[]⟩, .slice none 0 0] 37 (0, 0)))
  have HB1 := hid (heap_alloc2_old w (Obj.cells #[.int .i64 e.m, .int .i64 e.o, .int .i64 e.q, .string e.n, r] 43 (0, 0)) (Obj.cells #[.int .i64 0, .int .i64 0, .int .i64 0, .string ⟨#[]⟩, .slice none 0 0] 37 (0, 0)))
  have HB2 := hid (heap_alloc2_new w (Obj.cells #[.int .i64 e.m, .int .i64 e.o, .int .i64 e.q, .string e.n, r] 43 (0, 0)) (Obj.cells #[.int .i64 0, .int .i64 0, .int .i64 0, .string ⟨#[]⟩, .slice none 0 0] 37 (0, 0)))
  obtain ⟨⟨d0, d1, d2, d3, d4⟩, _, _⟩ := box5 HB1.out
  unfold evv
  clear hv
  go_enter Try.func24, Try.ntmps24
  go_wp2_with fail
  obtain ⟨S, hS⟩ : ∃ S, S = w.heap.size := ⟨_, rfl⟩
  obtain ⟨W1, hW1⟩ : ∃ W1, W1 = (w.alloc (Obj.cells #[.int .i64 e.m, .int .i64 e.o, .int .i64 e.q, .string e.n, r] 43 (0, 0))).alloc (Obj.cells #[.int .i64 0, .int .i64 0, .int .i64 0, .string ⟨#[]⟩, .slice none 0 0] 37 (0, 0)) := ⟨_, rfl⟩
  have hsz : W1.heap.size = S + 2 := by rw [hW1, hS]; simp
  rw [← hW1] at HX HB1 HB2 d0 d1 d2 d3 d4 ⊢
  rw [← hS] at HB1 HB2 d0 d1 d2 d3 d4 ⊢
  have HSS := hid hS
  clear hS hW1
  refine wp_region_tail 11 Ext (eownG S e r) (by kernel_rfl) Ext.trans Ext.refl (Ext.drew _) (eownG_st _ _ _) (by kernel_rfl) (by kernel_rfl) ?_ ?_
  · intro tmps df wq hle hfr jj oo hjj hoo hty
    have h1 : tmps[1]?.getD undef = .pointer (some ⟨S, 0, none⟩) := hfr 1 (by kernel_rfl)
    have d0 := hle.cell d0
    have d1 := hle.cell d1
    have d2 := hle.cell d2
    have d3 := hle.cell d3
    have d4 := hle.cell d4
    clear hfr
    match jj, hoo, hjj with
    | 0, hoo, _ =>
      obtain rfl := (Option.some.inj hoo)
      clear hty hoo
      refine step_pure (.pointer (some ⟨S, 0, none⟩)) (wanted_free rfl) ?_ (Ext.refl _) rfl
      simp [execOp, Act.eval, h1, go_sem]
    | 1, hoo, _ =>
      have h3 : tmps[3]?.getD undef = .pointer (some ⟨S, 0, none⟩) := hty 0 3 (by kernel_rfl) (by obtain rfl := (Option.some.inj hoo); rfl)
      obtain rfl := (Option.some.inj hoo)
      clear hty hoo
      refine step_pure (.int .i64 e.m) (wanted_free rfl) ?_ (Ext.refl _) rfl
      simp [execOp, Act.eval, h3, d0, go_sem]
    | 2, hoo, _ =>
      obtain rfl := (Option.some.inj hoo)
      clear hty hoo
      refine step_pure (.pointer (some ⟨S, 1, none⟩)) (wanted_free rfl) ?_ (Ext.refl _) rfl
      simp [execOp, Act.eval, h1, go_sem]
    | 3, hoo, _ =>
      have h5 : tmps[5]?.getD undef = .pointer (some ⟨S, 1, none⟩) := hty 2 5 (by kernel_rfl) (by obtain rfl := (Option.some.inj hoo); rfl)
      obtain rfl := (Option.some.inj hoo)
      clear hty hoo
      refine step_pure (.int .i64 e.o) (wanted_free rfl) ?_ (Ext.refl _) rfl
      simp [execOp, Act.eval, h5, d1, go_sem]
    | 4, hoo, _ =>
      obtain rfl := (Option.some.inj hoo)
      clear hty hoo
      refine step_pure (.pointer (some ⟨S, 2, none⟩)) (wanted_free rfl) ?_ (Ext.refl _) rfl
      simp [execOp, Act.eval, h1, go_sem]
    | 5, hoo, _ =>
      have h7 : tmps[7]?.getD undef = .pointer (some ⟨S, 2, none⟩) := hty 4 7 (by kernel_rfl) (by obtain rfl := (Option.some.inj hoo); rfl)
      obtain rfl := (Option.some.inj hoo)
      clear hty hoo
      refine step_pure (.int .i64 e.q) (wanted_free rfl) ?_ (Ext.refl _) rfl
      simp [execOp, Act.eval, h7, d2, go_sem]
    | 6, hoo, _ =>
      obtain rfl := (Option.some.inj hoo)
      clear hty hoo
      refine step_pure (.pointer (some ⟨S, 3, none⟩)) (wanted_free rfl) ?_ (Ext.refl _) rfl
      simp [execOp, Act.eval, h1, go_sem]
    | 7, hoo, _ =>
      have h9 : tmps[9]?.getD undef = .pointer (some ⟨S, 3, none⟩) := hty 6 9 (by kernel_rfl) (by obtain rfl := (Option.some.inj hoo); rfl)
      obtain rfl := (Option.some.inj hoo)
      clear hty hoo
      refine step_pure (.string e.n) (wanted_free rfl) ?_ (Ext.refl _) rfl
      simp [execOp, Act.eval, h9, d3, go_sem]
    | 8, hoo, _ =>
      obtain rfl := (Option.some.inj hoo)
      clear hty hoo
      refine step_pure (.pointer (some ⟨S, 4, none⟩)) (wanted_free rfl) ?_ (Ext.refl _) rfl
      simp [execOp, Act.eval, h1, go_sem]
    | 9, hoo, _ =>
      have h11 : tmps[11]?.getD undef = .pointer (some ⟨S, 4, none⟩) := hty 8 11 (by kernel_rfl) (by obtain rfl := (Option.some.inj hoo); rfl)
      obtain rfl := (Option.some.inj hoo)
      clear hty hoo
      refine step_pure (r) (wanted_free rfl) ?_ (Ext.refl _) rfl
      simp [execOp, Act.eval, h11, d4, go_sem]
    | 10, hoo, _ =>
      have h12 : tmps[12]?.getD undef = r := hty 9 12 (by kernel_rfl) (by obtain rfl := (Option.some.inj hoo); rfl)
      obtain rfl := (Option.some.inj hoo)
      clear hty hoo
      refine step_call 45 #[r] (wanted_free rfl) ?_ ?_
      · simp [execOp, Act.eval, h12, go_sem]
      · exact (vals_own e.v r wq (HV.out.ext (HX.out.trans hle)) hle12).mono (fun e9 w9 => by rintro ⟨u9, h1, h2, h3⟩; exact ⟨u9, h1, h3, own_from h2 (by have := hle.size; omega)⟩)
    | (jj + 11), _, hjj => omega
  · intro tmps w7 hle hs hfr hty
    have h4 : tmps[4]?.getD undef = .int .i64 e.m := hty 1 4 (by kernel_rfl)
    have h6 : tmps[6]?.getD undef = .int .i64 e.o := hty 3 6 (by kernel_rfl)
    have h8 : tmps[8]?.getD undef = .int .i64 e.q := hty 5 8 (by kernel_rfl)
    have h10 : tmps[10]?.getD undef = .string e.n := hty 7 10 (by kernel_rfl)
    have h13 : w7.ownsRow (S + 2) 68 4 (tmps[13]?.getD undef) e.v.length (vcells e.v) := hty 10 13 (by kernel_rfl)
    have hfe := nframe_eq [3, 4, 5, 6, 7, 8, 9, 10, 11, 12, 13] hs hfr (by kernel_rfl)
    rw [hfe]
    clear hfe hfr hs hty
    simp only [List.foldl_cons, List.foldl_nil]
    rw [h4, h6, h8, h10]
    generalize tmps[3]?.getD undef = x3
    generalize tmps[5]?.getD undef = x5
    generalize tmps[7]?.getD undef = x7
    generalize tmps[9]?.getD undef = x9
    generalize tmps[11]?.getD undef = x11
    generalize tmps[12]?.getD undef = x12
    generalize tmps[13]?.getD undef = x13 at *
    clear h4 h6 h8 h10
    simp only [List.drop_succ_cons, List.drop_zero, List.setIfInBounds_toArray, List.set_cons_succ, List.set_cons_zero]
    have HX7 := hid (HX.out.trans hle)
    have HB7 := hid (hle.block HB2.out)
    obtain ⟨A9, c9, rfl, _, _, _⟩ := own_form h13
    have HOW := hid h13
    clear h13 hle
    obtain ⟨⟨b0, b1, b2, b3, b4⟩, ⟨m0, m1, m2, m3, m4⟩, _⟩ := box5 HB7.out
    go_wp2_with fail
    refine bodyPost_ret (ret_cell1 rfl _ _ (S + 1) 37 _ (0, 0) _ rfl (set5 HB7.out) Try.underlying37 rfl (by kernel_rfl)) rfl ?_
    refine ⟨_, rfl, ?_, ?_⟩
    · exact own_from (ownsRow_setCell_below (ownsRow_setCell_below (ownsRow_setCell_below (ownsRow_setCell_below (ownsRow_setCell_below HOW.out (Nat.lt_succ_self _) _) (Nat.lt_succ_self _) _) (Nat.lt_succ_self _) _) (Nat.lt_succ_self _) _) (Nat.lt_succ_self _) _) (by have := HSS.out; omega)
    · repeat (first | (with_reducible exact HX7.out) | (with_reducible refine Ext.setCell ?_ (by have := HSS.out; show w.heap.size ≤ S + 1; omega) _))

set_option maxRecDepth 100000 in
set_option maxHeartbeats 4000000 in
theorem eownall_any (L : List EZ) (v : Value) (w : World) (hv : EventsAt w v L) (hl : L.length ≤ 1000) (h12 : ∀ e ∈ L, e.v.length ≤ 12) : Calls Try.prog 7 #[v] w (fun e w' => ∃ u, e = .returned u ∧ EventsAt w' u L ∧ Ext w w') := by
  have HV := hid hv
  obtain ⟨A, c, rfl, hlc, q1⟩ := hv.shape
  clear hv
  have hml : (L.length : Int) ≤ 9223372036854775807 := by omega
  obtain ⟨iE, hiE, hzE0, hzE1, hzE2⟩ := info_parts infoE1
  go_enter Try.func7, Try.ntmps7
  go_wp2_with fail
  go_loopw [3, 4] (fun x y wr => ∃ (i : Nat) (R : List Value), i ≤ L.length ∧ y = .int .i64 (i : Int) ∧ Hid (BuiltE wr w.heap.size 37 x (L.take i) R) ∧ Ext w wr)
    (fun _ y _ => L.length - (intOf y).toNat)
  case atStart => exact ⟨0, [], by omega, rfl, BuiltE.nil _ _ _, Ext.refl _⟩
  case round =>
    obtain ⟨i, R, hi, rfl, hbu, hext⟩ := hrel
    have HE := hid hext
    have hsz := hext.size
    clear hext
    by_cases hlt : i < L.length
    · obtain ⟨g, o, c', ra, e1, _, _, d0, d1, d2, d3, d4, hva⟩ := (HV.out.ext HE.out).open_ hlt
      obtain ⟨rfl, rfl⟩ : A = some ⟨g, o, none⟩ ∧ c = c' := by simpa using e1
      have HS := hid (List.take_succ_eq_append_getElem hlt)
      have ha12 := h12 _ (List.getElem_mem hlt)
      have htl : (L.take i).length = i := by rw [List.length_take]; omega
      generalize hT : L[i] = a at *
      have kk := eown_any a ra wr hva ha12
      unfold evv at kk
      have HBL := hid (own_block_lt hbu.out.1)
      clear e1 hT hva
      go_wp2_with (first | (go_at_call 24; refine kk.mono ?_; rintro e8 w8 ⟨u, rfl, hu, hx⟩) | (at_builtin; (with_reducible show wpList _ _ _ (⟨some 18, _, _, _, _, _⟩ :: _) _ _); refine hold9 ?_))
      unfold Hold9
      obtain ⟨A9, c9, rfl, _, _, _⟩ := own_form hu
      have HB8 := hid (hbu.out.ext hx)
      have HAP := hid (apart_new (V := a.v) hu HBL.out)
      have HVU := hid (ValsAt.of_owned hu)
      have HX8 := hid (HE.out.trans hx)
      have hs8 := hx.size
      have hown := HB8.out.1
      rw [htl] at hown
      have HOW := hid hown
      clear hu hx kk hown
      refine Go.wpList_append_lies _ rfl (.tmp 11) (.tmp 17) 25 rfl w.heap.size 37 iE (.agg #[.int .i64 0, .int .i64 0, .int .i64 0, .string ⟨#[]⟩, .slice none 0 0]) 5 64 Try.underlying25 hiE hzE0 hzE1 hzE2 rfl (by decide) _ i _ rfl (HOW.out.alloc _) ⟨w8.heap.size, 0, none⟩ 1 1 (ecell a (.slice A9 a.v.length c9)) rfl rfl (fun j u h => World.news_of_block (heap_alloc_new w8 _) j u h) (by intro u hu; simp [ecell] at hu; rcases hu with rfl | rfl | rfl | rfl | rfl <;> rfl) (by decide) (by unfold maxLen; omega) (by omega) (by simp; omega) _ rfl ?_
      intro g9 cap9 w9 hown9 hgrow9 hat9 hlt9
      have HBM := hid (BuiltE.more (v' := .slice (some ⟨g9, 0, none⟩) (i + 1) cap9) (M := [a]) (S := [.slice A9 a.v.length c9]) HB8.out ⟨rfl, fun j h1 h2 => by
        obtain rfl : j = 0 := by simpa using h1
        exact HVU.out⟩ (fun j h1 h2 => by
        obtain rfl : j = 0 := by simpa using h1
        exact HAP.out) (Ext.alloc w8 _) hgrow9 (hat9.imp (fun h => h) (fun h => congrArg some (by simpa using h))) (by rw [htl]; exact hown9))
      have HG9 := hid (Ext.grown (x := w) (HX8.out.then_alloc _) hgrow9 (fun k hk => own_block_ge HOW.out k hk))
      clear hgrow9 hown9 hat9 hlt9
      go_wp2_with fail
      go_roundw
      case rel => exact ⟨i + 1, R ++ [.slice A9 a.v.length c9], by omega, by go_num, by rw [HS.out]; exact HBM, HG9.out⟩
      case measure => simp only [intOf]; omega
    · have hi' : i = L.length := by omega
      subst hi'
      rw [List.take_length] at hbu
      go_wp2_with fail
      go_ret
      exact ⟨_, rfl, ⟨R, hbu.out.events⟩, HE.out⟩
end Go.Proofs.Ytnldgmpfinlikaa

/- telltalelaw07.Back and BackAll: events of the document's out of the program's. Conditions: few values. -/
namespace Go.Proofs.Ytnldgmpfinlikaa
open Go Go.RowKit

theorem vcells_step {V : List VZ} {j : Nat} (h : j < V.length) : vcells (V.take (j + 1)) = vcells (V.take j) ++ [.int .u8 (V[j].k : Int), .int .i64 V[j].n, .int .u64 (V[j].b : Int), .string V[j].t] := by
  rw [List.take_succ_eq_append_getElem h, vcells_append]
  rfl

set_option maxRecDepth 100000 in
set_option maxHeartbeats 8000000 in
theorem eback_any (e : EZ) (r : Value) (w : World) (hv : ValsAt w r e.v) (hle12 : e.v.length ≤ 12) : Calls Try.prog 32 #[evv e r] w (fun e' w' => ∃ u, e' = .returned (evv e u) ∧ w'.ownsRow w.heap.size 62 4 u e.v.length (vcells e.v) ∧ Ext w w') := by
  obtain ⟨em, eo, eq, en, V⟩ := e
  dsimp only at *
  have HV := hid hv
  obtain ⟨A, c, rfl, _, q1, _⟩ := hv
  have hml : (V.length : Int) ≤ 9223372036854775807 := by omega
  obtain ⟨iV, hiV, hzV0, hzV1, hzV2⟩ := info_parts infoV8
  unfold evv
  dsimp only
  have HX2 := hid ((Ext.alloc w (Obj.cells #[.int .i64 em, .int .i64 eo, .int .i64 eq, .string en, .slice A V.length c] 37 (0, 0))).then_alloc (Obj.cells #[.int .i64 0, .int .i64 0, .int .i64 0, .string ⟨#[]⟩, .slice none 0 0] 43 (0, 0)))
  have HB1 := hid (heap_alloc2_old w (Obj.cells #[.int .i64 em, .int .i64 eo, .int .i64 eq, .string en, .slice A V.length c] 37 (0, 0)) (Obj.cells #[.int .i64 0, .int .i64 0, .int .i64 0, .string ⟨#[]⟩, .slice none 0 0] 43 (0, 0)))
  have HB2 := hid (heap_alloc2_new w (Obj.cells #[.int .i64 em, .int .i64 eo, .int .i64 eq, .string en, .slice A V.length c] 37 (0, 0)) (Obj.cells #[.int .i64 0, .int .i64 0, .int .i64 0, .string ⟨#[]⟩, .slice none 0 0] 43 (0, 0)))
  have hsz2 : ((w.alloc (Obj.cells #[.int .i64 em, .int .i64 eo, .int .i64 eq, .string en, .slice A V.length c] 37 (0, 0))).alloc (Obj.cells #[.int .i64 0, .int .i64 0, .int .i64 0, .string ⟨#[]⟩, .slice none 0 0] 43 (0, 0))).heap.size = w.heap.size + 2 := by simp
  have hXA := Ext.alloc ((w.alloc (Obj.cells #[.int .i64 em, .int .i64 eo, .int .i64 eq, .string en, .slice A V.length c] 37 (0, 0))).alloc (Obj.cells #[.int .i64 0, .int .i64 0, .int .i64 0, .string ⟨#[]⟩, .slice none 0 0] 43 (0, 0))) (Obj.cells #[.int .i64 em, .int .i64 eo, .int .i64 eq, .string en, .slice none 0 0] 43 (0, 0))
  have HB3 := hid (heap_alloc_new ((w.alloc (Obj.cells #[.int .i64 em, .int .i64 eo, .int .i64 eq, .string en, .slice A V.length c] 37 (0, 0))).alloc (Obj.cells #[.int .i64 0, .int .i64 0, .int .i64 0, .string ⟨#[]⟩, .slice none 0 0] 43 (0, 0))) (Obj.cells #[.int .i64 em, .int .i64 eo, .int .i64 eq, .string en, .slice none 0 0] 43 (0, 0)))
  rw [hsz2] at HB3
  have HX3 := hid (HX2.out.trans hXA)
  have HB13 := hid (hXA.block HB1.out)
  have HB23 := hid (hXA.block HB2.out)
  obtain ⟨⟨d0, d1, d2, d3, d4⟩, _, _⟩ := box5 HB1.out
  clear hXA HB1 HB2 HX2 hsz2
  go_enter Try.func32, Try.ntmps32
  go_wp2_with fail
  go_loopw [4] (fun y wq => ∃ (i : Nat) (v2 : Value), i ≤ V.length ∧ y = .int .i64 (i : Int) ∧ Hid (wq.heap[w.heap.size + 2]? = some (.cells #[.int .i64 em, .int .i64 eo, .int .i64 eq, .string en, v2] 43 (0, 0))) ∧
      Hid (wq.ownsRow (w.heap.size + 3) 62 4 v2 i (vcells (V.take i))) ∧ Hid (Ext w wq) ∧ Hid (wq.heap[w.heap.size]? = some (.cells #[.int .i64 em, .int .i64 eo, .int .i64 eq, .string en, .slice A V.length c] 37 (0, 0))) ∧
      Hid (wq.heap[w.heap.size + 1]? = some (.cells #[.int .i64 0, .int .i64 0, .int .i64 0, .string ⟨#[]⟩, .slice none 0 0] 43 (0, 0))))
    (fun y _ => V.length - (intOf y).toNat)
  case atStart => exact ⟨0, .slice none 0 0, by omega, rfl, HB3, World.ownsRow_nil _ _ _ _, HX3, HB13, HB23⟩
  case round =>
    obtain ⟨i, v2, hi, rfl, hblk, hown, hext, hb1, hb2⟩ := hrel
    obtain ⟨A5, c5, rfl, z1, z2, _⟩ := own_form hown.out
    obtain ⟨⟨d0, d1, d2, d3, d4⟩, _, _⟩ := box5 hb1.out
    obtain ⟨⟨b0, b1, b2, b3, b4⟩, ⟨m0, m1, m2, m3, m4⟩, blt⟩ := box5 hblk.out
    by_cases hlt : i < V.length
    · obtain ⟨g3, o3, c', e1, y0, y1, y2, y3⟩ := (HV.out.ext hext.out).open_ hlt
      obtain ⟨rfl, rfl⟩ : A = some ⟨g3, o3, none⟩ ∧ c = c' := by simpa using e1
      have HS2 := hid (vcells_step hlt)
      generalize V[i] = U at *
      obtain ⟨xk, xn, xb, xt⟩ := U
      dsimp only at *
      clear e1
      go_wp2_with fail
      go_region_law (refine step_append_lies _ rfl (.tmp 22) (.tmp 28) 41 rfl (w.heap.size + 3) 62 iV (.agg #[.int .u8 0, .int .i64 0, .int .u64 0, .string ⟨#[]⟩]) 4 40 Try.underlying41 hiV hzV0 hzV1 hzV2 rfl (by decide) (.slice A5 i c5) i _ (by simp [Act.eval]) (World.ownsRow.alloc (World.ownsRow.drew hown.out) _) ⟨wr.heap.size, 0, none⟩ 1 1 [.int .u8 (xk : Int), .int .i64 xn, .int .u64 (xb : Int), .string xt] (by simp [Act.eval]) rfl (fun j u h => World.news_of_block (heap_alloc_new _ _) j u h) (by intro u hu; simp at hu; rcases hu with rfl | rfl | rfl | rfl <;> rfl) (by decide) (by unfold maxLen; omega) (by omega) (by simp; omega) _ rfl ?_; intro g9 cap9 w9 hown9 hgrow9 hat9 hlt9; have hblk9 := grown_block ((Ext.drew wr).then_alloc _) hgrow9 (fun k hk => own_block_ge hown.out k hk) hblk.out (Nat.lt_succ_self _); obtain ⟨⟨e0, e1, e2, e3, e4⟩, ⟨f0, f1, f2, f3, f4⟩, f5⟩ := box5 hblk9)
      all_goals
        have HG9 := hid (Ext.grown (Ext.trans hext.out ((Ext.drew wr).then_alloc _)) hgrow9 (fun k hk => by have := own_block_ge hown.out k hk; omega))
        have HW9 := hid hown9
        have HBK := hid hblk9
        have HB19 := hid (grown_block ((Ext.drew wr).then_alloc _) hgrow9 (fun k hk => own_block_ge hown.out k hk) hb1.out (by omega))
        have HB29 := hid (grown_block ((Ext.drew wr).then_alloc _) hgrow9 (fun k hk => own_block_ge hown.out k hk) hb2.out (by omega))
        clear hgrow9 hown9 hat9 hlt9 hblk9 e0 e1 e2 e3 e4 f0 f1 f2 f3 f4
        go_wp2_with fail
        go_roundw
        case rel => exact ⟨i + 1, _, by omega, by go_num, hid (by simpa using heap_setCell_same w9 (w.heap.size + 2) 4 _ _ _ HBK.out), hid (by rw [HS2.out]; exact ownsRow_setCell_below (a := ⟨w.heap.size + 2, 4, none⟩) HW9.out (Nat.lt_succ_self _) _), hid (Ext.setCell HG9.out (by show _ ≤ w.heap.size + 2; omega) _),
          hid ((heap_setCell_other w9 ⟨w.heap.size + 2, 4, none⟩ w.heap.size _ (by show w.heap.size ≠ w.heap.size + 2; omega)).trans HB19.out), hid ((heap_setCell_other w9 ⟨w.heap.size + 2, 4, none⟩ (w.heap.size + 1) _ (by show w.heap.size + 1 ≠ w.heap.size + 2; omega)).trans HB29.out)⟩
        case measure => simp only [intOf]; omega
    · have hi' : i = V.length := by omega
      subst hi'
      obtain ⟨⟨p0, p1, p2, p3, p4⟩, ⟨n0, n1, n2, n3, n4⟩, _⟩ := box5 hb2.out
      have hown' := hown.out
      rw [List.take_length] at hown'
      have HOW := hid hown'
      clear hown'
      go_wp2_with fail
      refine bodyPost_ret (ret_cell1 rfl _ _ (w.heap.size + 1) 43 _ (0, 0) _ rfl (set5 hb2.out) Try.underlying43 rfl (by kernel_rfl)) rfl ?_
      refine ⟨_, rfl, ?_, ?_⟩
      · exact own_from (ownsRow_setCell_below (ownsRow_setCell_below (ownsRow_setCell_below (ownsRow_setCell_below (ownsRow_setCell_below HOW.out (show w.heap.size + 1 < w.heap.size + 3 by omega) _) (show w.heap.size + 1 < w.heap.size + 3 by omega) _) (show w.heap.size + 1 < w.heap.size + 3 by omega) _) (show w.heap.size + 1 < w.heap.size + 3 by omega) _) (show w.heap.size + 1 < w.heap.size + 3 by omega) _) (by omega)
      · repeat (first | (with_reducible exact hext.out) | (with_reducible refine Ext.setCell ?_ (by simp) _))

set_option maxRecDepth 100000 in
set_option maxHeartbeats 4000000 in
theorem ebackall_any (L : List EZ) (v : Value) (w : World) (hv : EventsAt w v L) (hl : L.length ≤ 1000) (h12 : ∀ e ∈ L, e.v.length ≤ 12) : Calls Try.prog 10 #[v] w (fun e w' => ∃ u, e = .returned u ∧ EventsAt w' u L ∧ Ext w w') := by
  have HV := hid hv
  obtain ⟨A, c, rfl, hlc, q1⟩ := hv.shape
  clear hv
  have hml : (L.length : Int) ≤ 9223372036854775807 := by omega
  obtain ⟨iE, hiE, hzE0, hzE1, hzE2⟩ := info_parts infoE7
  go_enter Try.func10, Try.ntmps10
  go_wp2_with fail
  go_loopw [3, 4] (fun x y wr => ∃ (i : Nat) (R : List Value), i ≤ L.length ∧ y = .int .i64 (i : Int) ∧ Hid (BuiltE wr w.heap.size 43 x (L.take i) R) ∧ Ext w wr)
    (fun _ y _ => L.length - (intOf y).toNat)
  case atStart => exact ⟨0, [], by omega, rfl, BuiltE.nil _ _ _, Ext.refl _⟩
  case round =>
    obtain ⟨i, R, hi, rfl, hbu, hext⟩ := hrel
    have HE := hid hext
    have hsz := hext.size
    clear hext
    by_cases hlt : i < L.length
    · obtain ⟨g, o, c', ra, e1, _, _, d0, d1, d2, d3, d4, hva⟩ := (HV.out.ext HE.out).open_ hlt
      obtain ⟨rfl, rfl⟩ : A = some ⟨g, o, none⟩ ∧ c = c' := by simpa using e1
      have HS := hid (List.take_succ_eq_append_getElem hlt)
      have ha12 := h12 _ (List.getElem_mem hlt)
      have htl : (L.take i).length = i := by rw [List.length_take]; omega
      generalize hT : L[i] = a at *
      have kk := eback_any a ra wr hva ha12
      unfold evv at kk
      have HBL := hid (own_block_lt hbu.out.1)
      clear e1 hT hva
      go_wp2_with (first | (go_at_call 32; refine kk.mono ?_; rintro e8 w8 ⟨u, rfl, hu, hx⟩) | (at_builtin; (with_reducible show wpList _ _ _ (⟨some 18, _, _, _, _, _⟩ :: _) _ _); refine hold9 ?_))
      unfold Hold9
      obtain ⟨A9, c9, rfl, _, _, _⟩ := own_form hu
      have HB8 := hid (hbu.out.ext hx)
      have HAP := hid (apart_new (V := a.v) hu HBL.out)
      have HVU := hid (ValsAt.of_owned hu)
      have HX8 := hid (HE.out.trans hx)
      have hs8 := hx.size
      have hown := HB8.out.1
      rw [htl] at hown
      have HOW := hid hown
      clear hu hx kk hown
      refine Go.wpList_append_lies _ rfl (.tmp 11) (.tmp 17) 22 rfl w.heap.size 43 iE (.agg #[.int .i64 0, .int .i64 0, .int .i64 0, .string ⟨#[]⟩, .slice none 0 0]) 5 64 Try.underlying22 hiE hzE0 hzE1 hzE2 rfl (by decide) _ i _ rfl (HOW.out.alloc _) ⟨w8.heap.size, 0, none⟩ 1 1 (ecell a (.slice A9 a.v.length c9)) rfl rfl (fun j u h => World.news_of_block (heap_alloc_new w8 _) j u h) (by intro u hu; simp [ecell] at hu; rcases hu with rfl | rfl | rfl | rfl | rfl <;> rfl) (by decide) (by unfold maxLen; omega) (by omega) (by simp; omega) _ rfl ?_
      intro g9 cap9 w9 hown9 hgrow9 hat9 hlt9
      have HBM := hid (BuiltE.more (v' := .slice (some ⟨g9, 0, none⟩) (i + 1) cap9) (M := [a]) (S := [.slice A9 a.v.length c9]) HB8.out ⟨rfl, fun j h1 h2 => by
        obtain rfl : j = 0 := by simpa using h1
        exact HVU.out⟩ (fun j h1 h2 => by
        obtain rfl : j = 0 := by simpa using h1
        exact HAP.out) (Ext.alloc w8 _) hgrow9 (hat9.imp (fun h => h) (fun h => congrArg some (by simpa using h))) (by rw [htl]; exact hown9))
      have HG9 := hid (Ext.grown (x := w) (HX8.out.then_alloc _) hgrow9 (fun k hk => own_block_ge HOW.out k hk))
      clear hgrow9 hown9 hat9 hlt9
      go_wp2_with fail
      go_roundw
      case rel => exact ⟨i + 1, R ++ [.slice A9 a.v.length c9], by omega, by go_num, by rw [HS.out]; exact HBM, HG9.out⟩
      case measure => simp only [intOf]; omega
    · have hi' : i = L.length := by omega
      subst hi'
      rw [List.take_length] at hbu
      go_wp2_with fail
      go_ret
      exact ⟨_, rfl, ⟨R, hbu.out.events⟩, HE.out⟩
end Go.Proofs.Ytnldgmpfinlikaa

