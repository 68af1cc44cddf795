/- The landed program's Check and Value of an event, by their contracts. Conditions: small types, small events. -/
import Derived.Test.YtnldgmpfinlikaaGreatGEP1
import Derived.Test.YtnldgmpfinlikaaGreatGER1
import Derived.Test.YtnldgmpfinlikaaGreatGSLaw1
import Derived.Test.YtnldgmpfinlikaaGreatGVSmall
namespace Go.Proofs.YtnldgmpfinlikaaGreat
open Go Go.RowKit

/-- an event that is small -/
def EvSmall (e : EZ) : Prop := e.n.size ≤ 40 ∧ e.v.length ≤ 12 ∧ ∀ v ∈ e.v, v.t.size ≤ 300
set_option maxRecDepth 100000 in
set_option maxHeartbeats 2000000 in
theorem echeckp_any (T : List TZ) (e : EZ) (tv r : Value) (w : World) (hT : TypesAt w tv T) (hv : ValsAt w r e.v) (hsm : TypesSmall T) (hn : e.n.size ≤ 40) (hvo : ValsOk e.v) : Calls Tryz.prog 14 #[tv, evv e r] w (Says w (.int .i64 (checkE T e))) := by
  have kc := fun W (h : Ext w W) => schecks_any T tv W (hT.ext h) hsm.mid
  have kf := fun W (h : Ext w W) => sfind_any T tv e.n W (hT.ext h) hsm hn
  have ki := fun W => eid_any e r W
  have kr := fun W => einrange_any e W
  have kfi := fun W s (h : Ext w W) (hf : FieldsAt W s (findZ e.n T).1.f) => sfitsv_any (findZ e.n T).1 e.v s r W hf (hv.ext h) hvo
  have ho : checkE T e = if checkZ T ≠ 0 then 2 else if decide (boundE e) = true then 8 else if (findZ e.n T).2 = false then 6 else fitsZ (findZ e.n T).1.f e.v := by simp only [decide_eq_true_iff]; rfl
  generalize checkE T e = R at *
  generalize decide (boundE e) = BD at *
  unfold SaysTy at kf
  generalize findZ e.n T = FT at *
  obtain ⟨ft, fb⟩ := FT
  dsimp only at *
  generalize fitsZ ft.f e.v = FI at *
  unfold idv at *
  obtain ⟨em, eo, eq, en, ev⟩ := e
  obtain ⟨A, c, rfl, _, _, _⟩ := hv
  unfold evv at *
  dsimp only at *
  have HX := hid (Ext.alloc w (Obj.cells #[.int .i64 em, .int .i64 eo, .int .i64 eq, .string en, .slice A ev.length c] 34 (0, 0)))
  have HB := hid (heap_alloc_new w (Obj.cells #[.int .i64 em, .int .i64 eo, .int .i64 eq, .string en, .slice A ev.length c] 34 (0, 0)))
  have HO := hid ho
  obtain ⟨AT, cT, rfl, _, _, _⟩ := hT
  clear ho
  generalize checkZ T = CT at *
  go_enter Tryz.func14, Tryz.ntmps14
  go_wp2_with fail
  refine (kc _ HX.out).mono ?_
  rintro e1 w1 ⟨rfl, hx⟩
  replace HB := hid (hx.block HB.out)
  replace HX := hid (HX.out.trans hx)
  clear hx kc
  obtain ⟨⟨b0, b1, b2, b3, b4⟩, _, _⟩ := box5 HB.out
  by_cases hz : CT = 0
  · have HR1 := hid (HO.out.trans (if_neg (fun h => h hz)))
    subst hz
    go_wp2_with fail
    refine (ki _).mono ?_
    rintro e2 w2 ⟨rfl, hx⟩
    replace HB := hid (hx.block HB.out)
    replace HX := hid (HX.out.trans hx)
    clear hx ki
    go_wp2_with fail
    refine (kr _).mono ?_
    rintro e3 w3 ⟨rfl, hx⟩
    replace HB := hid (hx.block HB.out)
    replace HX := hid (HX.out.trans hx)
    clear hx kr b0 b1 b2 b3 b4
    obtain ⟨⟨b0, b1, b2, b3, b4⟩, _, _⟩ := box5 HB.out
    cases BD
    · have HR2 := hid (HR1.out.trans (if_neg (by decide)))
      go_wp2_with fail
      refine (kf _ HX.out).mono ?_
      rintro e2 w2 ⟨v2, rfl, ⟨r2, rfl, hf2⟩, hx⟩
      replace HB := hid (hx.block HB.out)
      replace HX := hid (HX.out.trans hx)
      obtain ⟨A2, c2, hr2, _, _, _⟩ := id hf2
      subst hr2
      have hx2 := Ext.alloc w2 (Obj.cells #[.string ft.n, .slice A2 ft.f.length c2] 68 (0, 0))
      have HB2 := hid (heap_alloc_new w2 (Obj.cells #[.string ft.n, .slice A2 ft.f.length c2] 68 (0, 0)))
      have kfi := kfi _ _ (HX.out.trans hx2) (hf2.ext hx2)
      replace HB := hid (hx2.block HB.out)
      replace HX := hid (HX.out.trans hx2)
      clear hx hx2 kf b0 b1 b2 b3 b4
      obtain ⟨⟨b0, b1, b2, b3, b4⟩, _, _⟩ := box5 HB.out
      obtain ⟨⟨t0, t1⟩, _, _⟩ := box2 HB2.out
      cases fb
      · have HR := hid (HR2.out.trans (if_pos rfl))
        go_wp2_with fail
        go_ret
        exact ⟨by rw [HR.out]; rfl, HX.out⟩
      · have HR := hid (HR2.out.trans (if_neg (by decide)))
        go_wp2_with (go_at_call 40; refine kfi.mono ?_; rintro e3 w3 ⟨rfl, hx⟩)
        go_ret
        exact ⟨by rw [HR.out]; rfl, HX.out.trans hx⟩
    · have HR := hid (HR1.out.trans (if_pos rfl))
      go_wp2_with fail
      go_ret
      exact ⟨by rw [HR.out]; rfl, HX.out⟩
  · have HR := hid (HO.out.trans (if_pos hz))
    have hq : (CT != 0) = true := bne_iff_ne.2 hz
    clear hz
    go_wp2_with fail
    go_ret
    exact ⟨by rw [HR.out]; rfl, HX.out⟩

set_option maxRecDepth 100000 in
set_option maxHeartbeats 2000000 in
theorem evaluep_any (T : List TZ) (e : EZ) (field : ByteArray) (tv r : Value) (w : World) (hT : TypesAt w tv T) (hv : ValsAt w r e.v) (hsm : TypesSmall T) (hn : e.n.size ≤ 40) : Calls Tryz.prog 12 #[evv e r, tv, .string field] w (SaysVal w (valueE T e field)) := by
  have kf := fun W (h : Ext w W) => sfind_any T tv e.n W (hT.ext h) hsm hn
  have ka := fun W s (hf : FieldsAt W s (findZ e.n T).1.f) => sfieldf_any (findZ e.n T).1 s field W hf
  have ho : valueE T e field = if (atZ field 0 (findZ e.n T).1.f).1 < 0 ∨ (e.v.length : Int) ≤ (atZ field 0 (findZ e.n T).1.f).1 then (VZ.none, false) else (e.v.getD (atZ field 0 (findZ e.n T).1.f).1.toNat VZ.none, true) := rfl
  generalize valueE T e field = R at *
  unfold SaysTy at kf
  unfold SaysAt at ka
  generalize findZ e.n T = FT at *
  obtain ⟨ft, fb⟩ := FT
  dsimp only at *
  generalize atZ field 0 ft.f = AT at *
  obtain ⟨at1, ak⟩ := AT
  obtain ⟨em, eo, eq, en, V⟩ := e
  dsimp only at *
  have HV := hid hv
  obtain ⟨A, c, rfl, _, q1, _⟩ := hv
  have hml : (V.length : Int) ≤ 9223372036854775807 := by unfold maxLen at q1; omega
  obtain ⟨A2, c2, rfl, _, _, _⟩ := hT
  show Calls _ _ #[.agg #[.int .i64 em, .int .i64 eo, .int .i64 eq, .string en, .slice A V.length c], _, _] _ _
  have HO := hid ho
  clear ho
  have HX := hid ((Ext.alloc w (Obj.cells #[.int .i64 em, .int .i64 eo, .int .i64 eq, .string en, .slice A V.length c] 34 (0, 0))).then_alloc (Obj.cells #[.int .u8 0, .int .i64 0, .int .u64 0, .string noText] 44 (0, 0)))
  have HB2 := hid (heap_alloc2_new w (Obj.cells #[.int .i64 em, .int .i64 eo, .int .i64 eq, .string en, .slice A V.length c] 34 (0, 0)) (Obj.cells #[.int .u8 0, .int .i64 0, .int .u64 0, .string noText] 44 (0, 0)))
  have HB1 := hid (heap_alloc2_old w (Obj.cells #[.int .i64 em, .int .i64 eo, .int .i64 eq, .string en, .slice A V.length c] 34 (0, 0)) (Obj.cells #[.int .u8 0, .int .i64 0, .int .u64 0, .string noText] 44 (0, 0)))
  obtain ⟨⟨b0, b1, b2, b3, b4⟩, _, _⟩ := box5 HB1.out
  go_enter Tryz.func12, Tryz.ntmps12
  go_wp2_with fail
  refine (kf _ HX.out).mono ?_
  rintro e2 w2 ⟨v2, rfl, ⟨r2, rfl, hf2⟩, hx⟩
  have hxa := hx.then_alloc (Obj.cells #[.string ft.n, r2] 68 (0, 0))
  have HBT := hid (heap_alloc_new w2 (Obj.cells #[.string ft.n, r2] 68 (0, 0)))
  replace HB1 := hid (hxa.block HB1.out)
  replace HB2 := hid (hxa.block HB2.out)
  replace HX := hid (HX.out.trans hxa)
  have hf3 := hf2.ext (Ext.alloc w2 (Obj.cells #[.string ft.n, r2] 68 (0, 0)))
  obtain ⟨A4, c4, hr2, _, _, _⟩ := id hf2
  subst hr2
  have ka := ka _ _ hf3
  obtain ⟨⟨t0, t1⟩, _, _⟩ := box2 HBT.out
  clear hx hxa kf b0 b1 b2 b3 b4 hf2 hf3
  go_wp2_with fail
  refine ka.mono ?_
  rintro e3 w3 ⟨rfl, hx⟩
  replace HB1 := hid (hx.block HB1.out)
  replace HB2 := hid (hx.block HB2.out)
  replace HX := hid (HX.out.trans hx)
  clear hx ka t0 t1
  obtain ⟨⟨b0, b1, b2, b3, b4⟩, _, _⟩ := box5 HB1.out
  obtain ⟨⟨y0, y1, y2, y3⟩, ⟨m0, m1, m2, m3⟩, _⟩ := box4 HB2.out
  by_cases hbad : at1 < 0 ∨ (V.length : Int) ≤ at1
  · have HR := hid (HO.out.trans (if_pos hbad))
    rcases (show at1 < 0 ∨ (0 ≤ at1 ∧ (V.length : Int) ≤ at1) by omega) with h1 | ⟨h1, h2⟩
    all_goals
      clear hbad
      go_wp2_with fail
      refine bodyPost_ret (ret_cell_tmp rfl _ _ (w.heap.size + 1) 44 _ (0, 0) _ rfl (set4 HB2.out) Tryz.underlying44 rfl (by kernel_rfl)) rfl ?_
      refine ⟨by rw [HR.out]; rfl, ?_⟩
      repeat (first | (with_reducible exact HX.out) | (with_reducible refine Ext.setCell ?_ (by simp) _))
  · have HR := hid (HO.out.trans (if_neg hbad))
    have h1 : 0 ≤ at1 := by omega
    have h2 : at1 < (V.length : Int) := by omega
    clear hbad
    obtain ⟨i, rfl⟩ : ∃ i : Nat, at1 = (i : Int) := ⟨at1.toNat, by omega⟩
    have hi : i < V.length := by omega
    have h1' : ¬ (i : Int) < 0 := by omega
    have h2' : ¬ (V.length : Int) ≤ (i : Int) := by omega
    obtain ⟨g, o, c', e1, v0, v1, v2, v3⟩ := (HV.out.ext HX.out).open_ hi
    obtain ⟨rfl, rfl⟩ : A = some ⟨g, o, none⟩ ∧ c = c' := by simpa using e1
    have hget : V.getD i VZ.none = V[i] := by rw [List.getD_eq_getElem?_getD, List.getElem?_eq_getElem hi]; rfl
    rw [Int.toNat_natCast, hget] at HR
    generalize hT : V[i] = x at *
    obtain ⟨xk, xn, xb, xt⟩ := x
    dsimp only at *
    clear e1 hT hget
    go_wp2_with fail
    refine bodyPost_ret (ret_cell_tmp rfl _ _ (w.heap.size + 1) 44 _ (0, 0) _ rfl (set4 HB2.out) Tryz.underlying44 rfl (by kernel_rfl)) rfl ?_
    refine ⟨by rw [HR.out]; rfl, ?_⟩
    repeat (first | (with_reducible exact HX.out) | (with_reducible refine Ext.setCell ?_ (by simp) _))
end Go.Proofs.YtnldgmpfinlikaaGreat
