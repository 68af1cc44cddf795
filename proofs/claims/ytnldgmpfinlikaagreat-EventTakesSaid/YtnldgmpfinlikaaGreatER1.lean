/- The document's Less, Check, Value of events, by their contracts. Conditions: numbers within their kinds. -/
import Derived.Test.YtnldgmpfinlikaaGreatSOpen
import Derived.Test.YtnldgmpfinlikaaGreatLaw
import Derived.Test.YtnldgmpfinlikaaGreatBase
import Derived.Test.YtnldgmpfinlikaaGreatGSMem2
import Derived.Test.YtnldgmpfinlikaaGreatGSR1
import Derived.Lib.SmallJoins
import Derived.Deep.Slices
import Derived.BigQuiet
namespace Go.Proofs.YtnldgmpfinlikaaGreat
open Go Go.RowKit

theorem box5 {w1 : World} {g : Nat} {a b c d e : Value} {t : TypeId} (h : w1.heap[g]? = some (.cells #[a, b, c, d, e] t (0, 0))) :
    (w1.cell? ⟨g, 0, none⟩ = some a ∧ w1.cell? ⟨g, 1, none⟩ = some b ∧ w1.cell? ⟨g, 2, none⟩ = some c ∧ w1.cell? ⟨g, 3, none⟩ = some d ∧ w1.cell? ⟨g, 4, none⟩ = some e) ∧
    (w1.frozen? ⟨g, 0, none⟩ = false ∧ w1.frozen? ⟨g, 1, none⟩ = false ∧ w1.frozen? ⟨g, 2, none⟩ = false ∧ w1.frozen? ⟨g, 3, none⟩ = false ∧ w1.frozen? ⟨g, 4, none⟩ = false) ∧ g < w1.heap.size :=
  ⟨⟨cell_of_row _ _ 0 _ _ _ h, cell_of_row _ _ 1 _ _ _ h, cell_of_row _ _ 2 _ _ _ h, cell_of_row _ _ 3 _ _ _ h, cell_of_row _ _ 4 _ _ _ h⟩,
   ⟨frozen_of_row _ _ 0 _ _ h, frozen_of_row _ _ 1 _ _ h, frozen_of_row _ _ 2 _ _ h, frozen_of_row _ _ 3 _ _ h, frozen_of_row _ _ 4 _ _ h⟩, (Array.getElem?_eq_some_iff.1 h).1⟩
/-- an event's value -/
def evv (e : EZ) (r : Value) : Value := .agg #[.int .i64 e.m, .int .i64 e.o, .int .i64 e.q, .string e.n, r]
theorem order3 (a b : Int) : (a ≠ b ∧ (a != b) = true ∧ (a == b) = false) ∨ (a = b ∧ (a != b) = false ∧ (a == b) = true) := by
  by_cases h : a = b
  · exact .inr ⟨h, bne_eq_false_iff_eq.2 h, beq_iff_eq.2 h⟩
  · exact .inl ⟨h, bne_iff_ne.2 h, beq_eq_false_iff_ne.2 h⟩

set_option maxRecDepth 100000 in
set_option maxHeartbeats 4000000 in
theorem rcheck7_any (T : List TZ) (e : EZ) (tv r : Value) (w : World) (hT : TypesAt w tv T) (hv : ValsAt w r e.v) (hok : TypesOk T) (hvo : ValsOk e.v) : Calls Tryz.prog 15 #[tv, evv e r] w (Says w (.int .i64 (checkE T e))) := by
  have kc := fun W (h : Ext w W) => rchecks_any T tv W (hT.ext h) hok
  have kf := fun W (h : Ext w W) => rfinds_any T tv e.n W (hT.ext h)
  have kfi := fun W s (h : Ext w W) (hf : FieldsAt W s (findZ e.n T).1.f) => rfits6_any (findZ e.n T).1 e.v s r W hf (hv.ext h) hvo
  have ho : checkE T e = if checkZ T ≠ 0 then 2 else if decide (boundE e) = true then 8 else if (findZ e.n T).2 = false then 6 else fitsZ (findZ e.n T).1.f e.v := by simp only [decide_eq_true_iff]; rfl
  have hbd : decide (boundE e) = true ↔ (e.m < 0 ∨ 1099511627776 < e.m ∨ e.o < 0 ∨ 16 ≤ e.o ∨ e.q < 0 ∨ 1099511627776 < e.q) := decide_eq_true_iff
  generalize checkE T e = R at *
  generalize decide (boundE e) = BD at *
  unfold SaysTy at kf
  generalize findZ e.n T = FT at *
  obtain ⟨ft, fb⟩ := FT
  dsimp only at *
  generalize fitsZ ft.f e.v = FI at *
  obtain ⟨em, eo, eq, en, ev⟩ := e
  obtain ⟨A, c, rfl, _, _, _⟩ := hv
  dsimp only at *
  show Calls _ _ #[tv, .agg #[.int .i64 em, .int .i64 eo, .int .i64 eq, .string en, .slice A ev.length c]] _ _
  have HX := hid (Ext.alloc w (Obj.cells #[.int .i64 em, .int .i64 eo, .int .i64 eq, .string en, .slice A ev.length c] 25 (0, 0)))
  have HB := hid (heap_alloc_new w (Obj.cells #[.int .i64 em, .int .i64 eo, .int .i64 eq, .string en, .slice A ev.length c] 25 (0, 0)))
  have HO := hid ho
  have HBD := hid hbd
  obtain ⟨AT, cT, rfl, _, _, _⟩ := hT
  clear ho hbd
  generalize checkZ T = CT at *
  go_enter Tryz.func15, Tryz.ntmps15
  go_wp2_with fail
  refine (kc _ HX.out).mono ?_
  rintro e1 w1 ⟨rfl, hx⟩
  replace HB := hid (hx.block HB.out)
  replace HX := hid (HX.out.trans hx)
  clear hx kc
  obtain ⟨⟨b0, b1, b2, b3, b4⟩, _, _⟩ := box5 HB.out
  by_cases hz : CT = 0
  · have HR1 := hid (HO.out.trans (if_neg (fun h => h hz)))
    subst hz
    by_cases hb : BD = true
    · have HR := hid (HR1.out.trans (if_pos hb))
      have hw := HBD.out.1 hb
      clear hb
      rcases (show em < 0 ∨ (0 ≤ em ∧ 1099511627776 < em) ∨ (0 ≤ em ∧ em ≤ 1099511627776 ∧ eo < 0) ∨ (0 ≤ em ∧ em ≤ 1099511627776 ∧ 0 ≤ eo ∧ 16 ≤ eo) ∨ (0 ≤ em ∧ em ≤ 1099511627776 ∧ 0 ≤ eo ∧ eo < 16 ∧ eq < 0) ∨ (0 ≤ em ∧ em ≤ 1099511627776 ∧ 0 ≤ eo ∧ eo < 16 ∧ 0 ≤ eq ∧ 1099511627776 < eq) by omega) with h1 | ⟨h1, h2⟩ | ⟨h1, h2, h3⟩ | ⟨h1, h2, h3, h4⟩ | ⟨h1, h2, h3, h4, h5⟩ | ⟨h1, h2, h3, h4, h5, h6⟩
      all_goals
        clear hw
        go_wp2_with fail
        go_ret
        exact ⟨by rw [HR.out]; rfl, HX.out⟩
    · have HR2 := hid (HR1.out.trans (if_neg hb))
      have hw : 0 ≤ em ∧ em ≤ 1099511627776 ∧ 0 ≤ eo ∧ eo < 16 ∧ 0 ≤ eq ∧ eq ≤ 1099511627776 := by
        refine Classical.byContradiction fun hn => hb (HBD.out.2 ?_)
        omega
      obtain ⟨h1, h2, h3, h4, h5, h6⟩ := hw
      clear hb
      have h1' : ¬ em < 0 := by omega
      have h2' : ¬ 1099511627776 < em := by omega
      have h3' : ¬ eo < 0 := by omega
      have h4' : ¬ 16 ≤ eo := by omega
      have h5' : ¬ eq < 0 := by omega
      have h6' : ¬ 1099511627776 < eq := by omega
      go_wp2_with fail
      refine (kf _ HX.out).mono ?_
      rintro e2 w2 ⟨v2, rfl, ⟨r2, rfl, hf2⟩, hx⟩
      replace HB := hid (hx.block HB.out)
      replace HX := hid (HX.out.trans hx)
      obtain ⟨A2, c2, hr2, _, _, _⟩ := id hf2
      subst hr2
      have hx2 := Ext.alloc w2 (Obj.cells #[.string ft.n, .slice A2 ft.f.length c2] 62 (0, 0))
      have HB2 := hid (heap_alloc_new w2 (Obj.cells #[.string ft.n, .slice A2 ft.f.length c2] 62 (0, 0)))
      have kfi := kfi _ _ (HX.out.trans hx2) (hf2.ext hx2)
      replace HB := hid (hx2.block HB.out)
      replace HX := hid (HX.out.trans hx2)
      clear hx hx2 kf b0 b1 b2 b3 b4
      obtain ⟨⟨b0, b1, b2, b3, b4⟩, _, _⟩ := box5 HB.out
      obtain ⟨⟨t0, t1⟩, _, _⟩ := box2 HB2.out
      cases fb
      · have HR := hid (HR2.out.trans (if_pos rfl))
        go_wp2_with fail
        go_ret
        exact ⟨by rw [HR.out]; rfl, HX.out⟩
      · have HR := hid (HR2.out.trans (if_neg (by decide)))
        go_wp2_with (go_at_call 42; refine kfi.mono ?_; rintro e3 w3 ⟨rfl, hx⟩)
        go_ret
        exact ⟨by rw [HR.out]; rfl, HX.out.trans hx⟩
  · have HR := hid (HO.out.trans (if_pos hz))
    have hq : (CT != 0) = true := bne_iff_ne.2 hz
    clear hz
    go_wp2_with fail
    go_ret
    exact ⟨by rw [HR.out]; rfl, HX.out⟩
end Go.Proofs.YtnldgmpfinlikaaGreat
