/- telltalelaw07.Own and OwnAll: events of the program's out of the document's. Conditions: few values. (Written by tools/mkelaw1.py.) -/
import Derived.Test.YtnldgmpfinlikaaGreatGER1
import Derived.Test.YtnldgmpfinlikaaGreatGER7
import Derived.Test.YtnldgmpfinlikaaGreatGVV1
namespace Go.Proofs.YtnldgmpfinlikaaGreat
open Go Go.RowKit

theorem infoE1 : (Tryz.prog.info? 34).map (fun i => (i.zero, i.size, i.bytes)) = some (some (.agg #[.int .i64 0, .int .i64 0, .int .i64 0, .string ⟨#[]⟩, .slice none 0 0]), 5, 64) := by kernel_rfl
theorem ValsAt.of_owned {w : World} {base : Nat} {e : TypeId} {u : Value} {V : List VZ} (h : w.ownsRow base e 4 u V.length (vcells V)) : ValsAt w u V := ValsAt.of_own h
def eownG (S : Nat) (e : EZ) (r : Value) : Nat → Value → World → Prop
  | 0, v, _ => v = .pointer (some ⟨S, 0, none⟩)
  | 1, v, _ => v = .int .i64 e.m
  | 2, v, _ => v = .pointer (some ⟨S, 1, none⟩)
  | 3, v, _ => v = .int .i64 e.o
  | 4, v, _ => v = .pointer (some ⟨S, 2, none⟩)
  | 5, v, _ => v = .int .i64 e.q
  | 6, v, _ => v = .pointer (some ⟨S, 3, none⟩)
  | 7, v, _ => v = .string e.n
  | 8, v, _ => v = .pointer (some ⟨S, 4, none⟩)
  | 9, v, _ => v = r
  | 10, v, w => w.ownsRow (S + 2) 44 4 v e.v.length (vcells e.v)
  | _, _, _ => True
theorem eownG_st (S : Nat) (e : EZ) (r : Value) : ∀ i9 z9 x9 y9, eownG S e r i9 z9 x9 → Ext x9 y9 → eownG S e r i9 z9 y9 := by
  intro i9 z9 x9 y9 h e9
  unfold eownG at *
  split at h <;> first | exact h | exact own_later h e9 | trivial

set_option maxRecDepth 100000 in
set_option maxHeartbeats 4000000 in
theorem eown_any (e : EZ) (r : Value) (w : World) (hv : ValsAt w r e.v) (hle12 : e.v.length ≤ 12) : Calls Tryz.prog 9 #[evv e r] w (fun e' w' => ∃ u, e' = .returned (evv e u) ∧ w'.ownsRow w.heap.size 44 4 u e.v.length (vcells e.v) ∧ Ext w w') := by
  have HV := hid hv
  have HX := hid ((Ext.alloc w (Obj.cells #[.int .i64 e.m, .int .i64 e.o, .int .i64 e.q, .string e.n, r] 25 (0, 0))).then_alloc (Obj.cells #[.int .i64 0, .int .i64 0, .int .i64 0, .string ⟨#[]⟩, .slice none 0 0] 34 (0, 0)))
  have HB1 := hid (heap_alloc2_old w (Obj.cells #[.int .i64 e.m, .int .i64 e.o, .int .i64 e.q, .string e.n, r] 25 (0, 0)) (Obj.cells #[.int .i64 0, .int .i64 0, .int .i64 0, .string ⟨#[]⟩, .slice none 0 0] 34 (0, 0)))
  have HB2 := hid (heap_alloc2_new w (Obj.cells #[.int .i64 e.m, .int .i64 e.o, .int .i64 e.q, .string e.n, r] 25 (0, 0)) (Obj.cells #[.int .i64 0, .int .i64 0, .int .i64 0, .string ⟨#[]⟩, .slice none 0 0] 34 (0, 0)))
  obtain ⟨⟨d0, d1, d2, d3, d4⟩, _, _⟩ := box5 HB1.out
  unfold evv
  clear hv
  go_enter Tryz.func9, Tryz.ntmps9
  go_wp2_with fail
  obtain ⟨S, hS⟩ : ∃ S, S = w.heap.size := ⟨_, rfl⟩
  obtain ⟨W1, hW1⟩ : ∃ W1, W1 = (w.alloc (Obj.cells #[.int .i64 e.m, .int .i64 e.o, .int .i64 e.q, .string e.n, r] 25 (0, 0))).alloc (Obj.cells #[.int .i64 0, .int .i64 0, .int .i64 0, .string ⟨#[]⟩, .slice none 0 0] 34 (0, 0)) := ⟨_, rfl⟩
  have hsz : W1.heap.size = S + 2 := by rw [hW1, hS]; simp
  rw [← hW1] at HX HB1 HB2 d0 d1 d2 d3 d4 ⊢
  rw [← hS] at HB1 HB2 d0 d1 d2 d3 d4 ⊢
  have HSS := hid hS
  clear hS hW1
  refine wp_region_tail 11 Ext (eownG S e r) (by kernel_rfl) Ext.trans Ext.refl (Ext.drew _) (eownG_st _ _ _) (by kernel_rfl) (by kernel_rfl) ?_ ?_
  · intro tmps df wq hle hfr jj oo hjj hoo hty
    have h1 : tmps[1]?.getD undef = .pointer (some ⟨S, 0, none⟩) := hfr 1 (by kernel_rfl)
    have d0 := hle.cell d0
    have d1 := hle.cell d1
    have d2 := hle.cell d2
    have d3 := hle.cell d3
    have d4 := hle.cell d4
    clear hfr
    match jj, hoo, hjj with
    | 0, hoo, _ =>
      obtain rfl := (Option.some.inj hoo)
      clear hty hoo
      refine step_pure (.pointer (some ⟨S, 0, none⟩)) (wanted_free rfl) ?_ (Ext.refl _) rfl
      simp [execOp, Act.eval, h1, go_sem]
    | 1, hoo, _ =>
      have h3 : tmps[3]?.getD undef = .pointer (some ⟨S, 0, none⟩) := hty 0 3 (by kernel_rfl) (by obtain rfl := (Option.some.inj hoo); rfl)
      obtain rfl := (Option.some.inj hoo)
      clear hty hoo
      refine step_pure (.int .i64 e.m) (wanted_free rfl) ?_ (Ext.refl _) rfl
      simp [execOp, Act.eval, h3, d0, go_sem]
    | 2, hoo, _ =>
      obtain rfl := (Option.some.inj hoo)
      clear hty hoo
      refine step_pure (.pointer (some ⟨S, 1, none⟩)) (wanted_free rfl) ?_ (Ext.refl _) rfl
      simp [execOp, Act.eval, h1, go_sem]
    | 3, hoo, _ =>
      have h5 : tmps[5]?.getD undef = .pointer (some ⟨S, 1, none⟩) := hty 2 5 (by kernel_rfl) (by obtain rfl := (Option.some.inj hoo); rfl)
      obtain rfl := (Option.some.inj hoo)
      clear hty hoo
      refine step_pure (.int .i64 e.o) (wanted_free rfl) ?_ (Ext.refl _) rfl
      simp [execOp, Act.eval, h5, d1, go_sem]
    | 4, hoo, _ =>
      obtain rfl := (Option.some.inj hoo)
      clear hty hoo
      refine step_pure (.pointer (some ⟨S, 2, none⟩)) (wanted_free rfl) ?_ (Ext.refl _) rfl
      simp [execOp, Act.eval, h1, go_sem]
    | 5, hoo, _ =>
      have h7 : tmps[7]?.getD undef = .pointer (some ⟨S, 2, none⟩) := hty 4 7 (by kernel_rfl) (by obtain rfl := (Option.some.inj hoo); rfl)
      obtain rfl := (Option.some.inj hoo)
      clear hty hoo
      refine step_pure (.int .i64 e.q) (wanted_free rfl) ?_ (Ext.refl _) rfl
      simp [execOp, Act.eval, h7, d2, go_sem]
    | 6, hoo, _ =>
      obtain rfl := (Option.some.inj hoo)
      clear hty hoo
      refine step_pure (.pointer (some ⟨S, 3, none⟩)) (wanted_free rfl) ?_ (Ext.refl _) rfl
      simp [execOp, Act.eval, h1, go_sem]
    | 7, hoo, _ =>
      have h9 : tmps[9]?.getD undef = .pointer (some ⟨S, 3, none⟩) := hty 6 9 (by kernel_rfl) (by obtain rfl := (Option.some.inj hoo); rfl)
      obtain rfl := (Option.some.inj hoo)
      clear hty hoo
      refine step_pure (.string e.n) (wanted_free rfl) ?_ (Ext.refl _) rfl
      simp [execOp, Act.eval, h9, d3, go_sem]
    | 8, hoo, _ =>
      obtain rfl := (Option.some.inj hoo)
      clear hty hoo
      refine step_pure (.pointer (some ⟨S, 4, none⟩)) (wanted_free rfl) ?_ (Ext.refl _) rfl
      simp [execOp, Act.eval, h1, go_sem]
    | 9, hoo, _ =>
      have h11 : tmps[11]?.getD undef = .pointer (some ⟨S, 4, none⟩) := hty 8 11 (by kernel_rfl) (by obtain rfl := (Option.some.inj hoo); rfl)
      obtain rfl := (Option.some.inj hoo)
      clear hty hoo
      refine step_pure (r) (wanted_free rfl) ?_ (Ext.refl _) rfl
      simp [execOp, Act.eval, h11, d4, go_sem]
    | 10, hoo, _ =>
      have h12 : tmps[12]?.getD undef = r := hty 9 12 (by kernel_rfl) (by obtain rfl := (Option.some.inj hoo); rfl)
      obtain rfl := (Option.some.inj hoo)
      clear hty hoo
      refine step_call 25 #[r] (wanted_free rfl) ?_ ?_
      · simp [execOp, Act.eval, h12, go_sem]
      · exact (vals_own e.v r wq (HV.out.ext (HX.out.trans hle)) hle12).mono (fun e9 w9 => by rintro ⟨u9, h1, h2, h3⟩; exact ⟨u9, h1, h3, own_from h2 (by have := hle.size; omega)⟩)
    | (jj + 11), _, hjj => omega
  · intro tmps w7 hle hs hfr hty
    have h4 : tmps[4]?.getD undef = .int .i64 e.m := hty 1 4 (by kernel_rfl)
    have h6 : tmps[6]?.getD undef = .int .i64 e.o := hty 3 6 (by kernel_rfl)
    have h8 : tmps[8]?.getD undef = .int .i64 e.q := hty 5 8 (by kernel_rfl)
    have h10 : tmps[10]?.getD undef = .string e.n := hty 7 10 (by kernel_rfl)
    have h13 : w7.ownsRow (S + 2) 44 4 (tmps[13]?.getD undef) e.v.length (vcells e.v) := hty 10 13 (by kernel_rfl)
    have hfe := nframe_eq [3, 4, 5, 6, 7, 8, 9, 10, 11, 12, 13] hs hfr (by kernel_rfl)
    rw [hfe]
    clear hfe hfr hs hty
    simp only [List.foldl_cons, List.foldl_nil]
    rw [h4, h6, h8, h10]
    generalize tmps[3]?.getD undef = x3
    generalize tmps[5]?.getD undef = x5
    generalize tmps[7]?.getD undef = x7
    generalize tmps[9]?.getD undef = x9
    generalize tmps[11]?.getD undef = x11
    generalize tmps[12]?.getD undef = x12
    generalize tmps[13]?.getD undef = x13 at *
    clear h4 h6 h8 h10
    simp only [List.drop_succ_cons, List.drop_zero, List.setIfInBounds_toArray, List.set_cons_succ, List.set_cons_zero]
    have HX7 := hid (HX.out.trans hle)
    have HB7 := hid (hle.block HB2.out)
    obtain ⟨A9, c9, rfl, _, _, _⟩ := own_form h13
    have HOW := hid h13
    clear h13 hle
    obtain ⟨⟨b0, b1, b2, b3, b4⟩, ⟨m0, m1, m2, m3, m4⟩, _⟩ := box5 HB7.out
    go_wp2_with fail
    refine bodyPost_ret (ret_cell1 rfl _ _ (S + 1) 34 _ (0, 0) _ rfl (set5 HB7.out) Tryz.underlying34 rfl (by kernel_rfl)) rfl ?_
    refine ⟨_, rfl, ?_, ?_⟩
    · exact own_from (ownsRow_setCell_below (ownsRow_setCell_below (ownsRow_setCell_below (ownsRow_setCell_below (ownsRow_setCell_below HOW.out (Nat.lt_succ_self _) _) (Nat.lt_succ_self _) _) (Nat.lt_succ_self _) _) (Nat.lt_succ_self _) _) (Nat.lt_succ_self _) _) (by have := HSS.out; omega)
    · repeat (first | (with_reducible exact HX7.out) | (with_reducible refine Ext.setCell ?_ (by have := HSS.out; show w.heap.size ≤ S + 1; omega) _))

end Go.Proofs.YtnldgmpfinlikaaGreat
