/- telltalelaw07.awake answers true, and changes nothing that was there. Conditions: none. (Written by tools/mkeawk.py.) -/
import Derived.Test.YtnldgmpfinlikaaGEP11
import Derived.Test.YtnldgmpfinlikaaGVV1
import Derived.BigQuiet
namespace Go.Proofs.Ytnldgmpfinlikaa
open Go Go.RowKit

theorem ValsAt.nil9 (w : World) : ValsAt w (.slice none 0 0) [] := ⟨none, 0, rfl, Nat.le_refl _, by unfold maxLen; omega, fun _ h => absurd h (Nat.not_lt_zero _)⟩
/-! ### what the awake calls tell -/
def eawkT : List TZ := [⟨⟨#[115, 116, 111, 112]⟩, []⟩, ⟨⟨#[98, 117, 121]⟩, [⟨⟨#[110]⟩, 1⟩]⟩]
def eawkX : EZ := ⟨7, 1, 0, ⟨#[98, 117, 121]⟩, [⟨1, 3, 0, ⟨#[]⟩⟩]⟩
def eawkL : List EZ := [⟨2, 0, 0, ⟨#[]⟩, []⟩, ⟨1, 1, 0, ⟨#[]⟩, []⟩, ⟨1, 0, 3, ⟨#[]⟩, []⟩]
def eawkS : List EZ := [⟨1, 0, 3, ⟨#[]⟩, []⟩, ⟨1, 1, 0, ⟨#[]⟩, []⟩, ⟨2, 0, 0, ⟨#[]⟩, []⟩]
theorem ea_put : putE [] eawkT ⟨5, 0, 1, ⟨#[115, 116, 111, 112]⟩, []⟩ = ([5, 0, 1, 0], 0) := by kernel_rfl
theorem ea_take : takeEv eawkT ⟨#[7, 1, 0, 1, 1, 6]⟩ 0 = (eawkX, 6, 0) := by kernel_rfl
theorem ea_none : takeEv eawkT ⟨#[7, 1, 0, 2]⟩ 0 = (EZ.none, 0, 6) := by kernel_rfl
theorem ea_value : valueE eawkT eawkX ⟨#[110]⟩ = (⟨1, 3, 0, ⟨#[]⟩⟩, true) := by kernel_rfl
theorem ea_sort : sortE eawkL = eawkS := by kernel_rfl
theorem ea_sorted : sortedE eawkS = true := by kernel_rfl
theorem ea_check : checkE eawkT ⟨0, 0, 0, ⟨#[115, 101, 108, 108]⟩, []⟩ = 6 := by kernel_rfl
theorem eawk_small : TypesSmall eawkT := ⟨by decide, fun t ht => by
  rcases List.mem_cons.1 ht with rfl | ht
  · exact ⟨by decide, by decide, fun f hf => by cases hf⟩
  · rcases List.mem_cons.1 ht with rfl | ht
    · refine ⟨by decide, by decide, fun f hf => ?_⟩
      rcases List.mem_cons.1 hf with rfl | hf
      · exact ⟨by decide, by decide⟩
      · cases hf
    · cases ht⟩
theorem ea_eqv (w : World) : (binOp .eql 68 (.agg #[.int .u8 1, .int .i64 3, .int .u64 0, .string ⟨#[]⟩]) (.agg #[.int .u8 1, .int .i64 3, .int .u64 0, .string ⟨#[]⟩])).run Try.prog w = .ok (.bool true) w := by
  simp [go_sem]
theorem ea_guardv (x y : Operand) (a b : Array Value) (w : World) : (eqGuard .eql 68 x y (.agg a) (.agg b)).run Try.prog w = .ok () w := run_eqGuard_agg w .eql 68 x y _ _ (by kernel_rfl)
theorem ea_eqi (w : World) : (binOp .eql 34 (.agg #[.int .i64 7, .int .i64 1, .int .i64 0]) (.agg #[.int .i64 7, .int .i64 1, .int .i64 0])).run Try.prog w = .ok (.bool true) w := by
  simp [go_sem]
theorem ea_guardi (x y : Operand) (a b : Array Value) (w : World) : (eqGuard .eql 34 x y (.agg a) (.agg b)).run Try.prog w = .ok () w := run_eqGuard_agg w .eql 34 x y _ _ (by kernel_rfl)
theorem eawk_types {w : World} {g h : Nat} {t t2 : TypeId} (hf : w.heap[g]? = some (.cells #[.string ⟨#[110]⟩, .int .u8 1] t (0, 0))) (ht : w.heap[h]? = some (.cells #[.string ⟨#[115, 116, 111, 112]⟩, .slice none 0 0, .string ⟨#[98, 117, 121]⟩, .slice (some ⟨g, 0, none⟩) 1 1] t2 (0, 0))) : TypesAt w (.slice (some ⟨h, 0, none⟩) 2 2) eawkT := by
  obtain ⟨⟨a0, a1⟩, _, _⟩ := box2 hf
  obtain ⟨⟨b0, b1, b2, b3⟩, _, _⟩ := box4 ht
  refine ⟨_, 2, rfl, Nat.le_refl _, by unfold maxLen; omega, fun i hi => ?_⟩
  match i, hi with
  | 0, _ => exact ⟨h, 0, _, rfl, b0, b1, FieldsAt.nil w⟩
  | 1, _ =>
    refine ⟨h, 0, _, rfl, b2, b3, _, 1, rfl, Nat.le_refl _, by unfold maxLen; omega, fun j hj => ?_⟩
    match j, hj with
    | 0, _ => exact ⟨g, 0, rfl, a0, a1⟩
theorem eawk_events {w : World} {g : Nat} {t : TypeId} (h : w.heap[g]? = some (.cells #[.int .i64 2, .int .i64 0, .int .i64 0, .string ⟨#[]⟩, .slice none 0 0, .int .i64 1, .int .i64 1, .int .i64 0, .string ⟨#[]⟩, .slice none 0 0, .int .i64 1, .int .i64 0, .int .i64 3, .string ⟨#[]⟩, .slice none 0 0] t (0, 0))) : EventsAt w (.slice (some ⟨g, 0, none⟩) 3 3) eawkL := by
  refine ⟨[.slice none 0 0, .slice none 0 0, .slice none 0 0], _, 3, rfl, Nat.le_refl _, by unfold maxLen; omega, ⟨rfl, fun i h1 h2 => ?_⟩, fun i h1 h2 => ?_⟩
  · match i, h1 with
    | 0, _ => exact ValsAt.nil9 w
    | 1, _ => exact ValsAt.nil9 w
    | 2, _ => exact ValsAt.nil9 w
  · match i, h1 with
    | 0, _ => exact ⟨g, 0, rfl, cell_of_row _ _ 0 _ _ _ h, cell_of_row _ _ 1 _ _ _ h, cell_of_row _ _ 2 _ _ _ h, cell_of_row _ _ 3 _ _ _ h, cell_of_row _ _ 4 _ _ _ h⟩
    | 1, _ => exact ⟨g, 0, rfl, cell_of_row _ _ 5 _ _ _ h, cell_of_row _ _ 6 _ _ _ h, cell_of_row _ _ 7 _ _ _ h, cell_of_row _ _ 8 _ _ _ h, cell_of_row _ _ 9 _ _ _ h⟩
    | 2, _ => exact ⟨g, 0, rfl, cell_of_row _ _ 10 _ _ _ h, cell_of_row _ _ 11 _ _ _ h, cell_of_row _ _ 12 _ _ _ h, cell_of_row _ _ 13 _ _ _ h, cell_of_row _ _ 14 _ _ _ h⟩

theorem eawk_put {W : World} {tv : Value} (h : TypesAt W tv eawkT) : Calls Try.prog 22 #[.slice none 0 0, tv, .agg #[.int .i64 5, .int .i64 0, .int .i64 1, .string ⟨#[115, 116, 111, 112]⟩, .slice none 0 0]] W (fun e w' => ∃ A c, e = .returned (.tuple #[.slice A 4 c, .int .i64 0]) ∧ Bytes w' (.slice A 4 c) [5, 0, 1, 0] ∧ Ext W w') := by
  have k := eputp_any eawkT ⟨5, 0, 1, ⟨#[115, 116, 111, 112]⟩, []⟩ tv (.slice none 0 0) none [] 0 W h (ValsAt.nil9 W) eawk_small (by decide) (fun x hx => by cases hx) (Lies.nil _ _) (by decide)
  rw [ea_put] at k
  refine k.mono ?_
  rintro e w' ⟨v, rfl, hown, hx⟩
  have hb := Bytes.of_own hown
  obtain ⟨A, c, rfl, _, _, _⟩ := own_form hown
  exact ⟨A, c, rfl, hb, hx⟩
theorem eawk_take1 {W : World} {tv : Value} (h : TypesAt W tv eawkT) : Calls Try.prog 21 #[tv, .string ⟨#[7, 1, 0, 1, 1, 6]⟩, .int .i64 0] W (fun e w' => ∃ A c, e = .returned (.tuple #[.agg #[.int .i64 7, .int .i64 1, .int .i64 0, .string ⟨#[98, 117, 121]⟩, .slice A 1 c], .int .i64 6, .int .i64 0]) ∧ ValsAt w' (.slice A 1 c) eawkX.v ∧ Ext W w') := by
  have k := etakep_any eawkT tv ⟨#[7, 1, 0, 1, 1, 6]⟩ 0 W h eawk_small (by decide)
  rw [ea_take] at k
  refine k.mono ?_
  rintro e w' ⟨v, rfl, ⟨r, rfl, hva⟩, hx⟩
  obtain ⟨A, c, rfl, _, _, _⟩ := id hva
  exact ⟨A, c, rfl, hva, hx⟩
theorem eawk_take2 {W : World} {tv : Value} (h : TypesAt W tv eawkT) : Calls Try.prog 21 #[tv, .string ⟨#[7, 1, 0, 2]⟩, .int .i64 0] W (fun e w' => ∃ A c, e = .returned (.tuple #[.agg #[.int .i64 0, .int .i64 0, .int .i64 0, .string ⟨#[]⟩, .slice A 0 c], .int .i64 0, .int .i64 6]) ∧ Ext W w') := by
  have k := etakep_any eawkT tv ⟨#[7, 1, 0, 2]⟩ 0 W h eawk_small (by decide)
  rw [ea_none] at k
  refine k.mono ?_
  rintro e w' ⟨v, rfl, ⟨r, rfl, hva⟩, hx⟩
  obtain ⟨A, c, rfl, _, _, _⟩ := id hva
  exact ⟨A, c, rfl, hx⟩
theorem eawk_value {W : World} {tv : Value} {A : Option Addr} {c : Nat} (h : TypesAt W tv eawkT) (hv : ValsAt W (.slice A 1 c) eawkX.v) : Calls Try.prog 26 #[.agg #[.int .i64 7, .int .i64 1, .int .i64 0, .string ⟨#[98, 117, 121]⟩, .slice A 1 c], tv, .string ⟨#[110]⟩] W (fun e w' => e = .returned (.tuple #[.agg #[.int .u8 1, .int .i64 3, .int .u64 0, .string ⟨#[]⟩], .bool true]) ∧ Ext W w') := by
  have k := evaluep_any eawkT eawkX ⟨#[110]⟩ tv (.slice A 1 c) W h hv eawk_small (by decide)
  rw [ea_value] at k
  exact k
theorem eawk_sort {W : World} {v : Value} (h : EventsAt W v eawkL) : Calls Try.prog 8 #[v] W (fun e w' => ∃ g o c, e = .returned (.slice (some ⟨g, o, none⟩) 3 c) ∧ EventsAt w' (.slice (some ⟨g, o, none⟩) 3 c) eawkS ∧ w'.cell? ⟨g, o + 2, none⟩ = some (.int .i64 3) ∧ Ext W w') := by
  have k := esortp_any eawkL v W h (by decide)
  rw [ea_sort] at k
  refine k.mono ?_
  rintro e w' ⟨u, rfl, hu, hx⟩
  obtain ⟨g, o, c, r, rfl, _, _, _, _, q2, _⟩ := hu.open_ (i := 0) (by decide)
  exact ⟨g, o, c, rfl, hu, q2, hx⟩

/-- what the slots of the region hold -/
def eawkG (gt _gx _gv gs os cs c2 : Nat) (A2 A5 : Option Addr) (c5 : Nat) : Nat → Value → World → Prop
  | 0, v, _ => v = .int .i64 0
  | 1, v, _ => v = .bool true
  | 2, v, _ => v = .bool true
  | 3, v, _ => v = .slice A2 4 c2
  | 4, v, _ => v = .string ⟨([5, 0, 1, 0]).toArray⟩
  | 5, v, _ => v = .bool true
  | 6, v, _ => v = .bool true
  | 7, v, _ => v = .bool true
  | 8, v, _ => v = .int .i64 0
  | 9, v, _ => v = .bool true
  | 10, v, _ => v = .bool true
  | 11, v, _ => v = .bool true
  | 12, v, _ => v = .int .i64 6
  | 13, v, _ => v = .bool true
  | 14, v, _ => v = .bool true
  | 15, v, _ => v = .bool true
  | 16, v, _ => v = .bool true
  | 17, v, _ => v = .bool true
  | 18, v, _ => v = .bool true
  | 19, v, _ => v = .agg #[.int .u8 1, .int .i64 3, .int .u64 0, .string ⟨#[]⟩]
  | 20, v, _ => v = .agg #[.int .u8 1, .int .i64 3, .int .u64 0, .string ⟨#[]⟩]
  | 21, v, _ => v = .bool true
  | 22, v, _ => v = .bool true
  | 23, v, _ => v = .bool true
  | 24, v, _ => v = .int .i64 6
  | 25, v, _ => v = .bool true
  | 26, v, _ => v = .bool true
  | 27, v, _ => v = .bool true
  | 28, v, _ => v = .slice (some ⟨gs, os, none⟩) 3 cs
  | 29, v, _ => v = .int .i64 3
  | 30, v, _ => v = .bool true
  | 31, v, _ => v = .bool true
  | 32, v, _ => v = .bool true
  | 33, v, _ => v = .slice (some ⟨gs, os, none⟩) 3 cs
  | 34, v, _ => v = .pointer (some ⟨gs, os, none⟩)
  | 35, v, _ => v = .pointer (some ⟨gs, os + 2, none⟩)
  | 36, v, _ => v = .int .i64 3
  | 37, v, _ => v = .bool true
  | 38, v, _ => v = .bool true
  | 39, v, _ => v = .bool true
  | 40, v, _ => v = .slice (some ⟨gs, os, none⟩) 3 cs
  | 41, v, _ => v = .bool true
  | 42, v, _ => v = .bool true
  | 43, v, _ => v = .bool true
  | 44, v, _ => v = .slice (some ⟨gt, 0, none⟩) 2 2
  | 45, v, _ => v = .agg #[.int .i64 0, .int .i64 0, .int .i64 0, .string ⟨#[115, 101, 108, 108]⟩, .slice none 0 0]
  | 46, v, _ => v = .int .i64 6
  | 47, v, _ => v = .bool true
  | 48, v, _ => v = .bool true
  | 49, v, _ => v = .bool true
  | 50, v, _ => v = .agg #[.int .i64 7, .int .i64 1, .int .i64 0, .string ⟨#[98, 117, 121]⟩, .slice A5 1 c5]
  | 51, v, _ => v = .agg #[.int .i64 7, .int .i64 1, .int .i64 0]
  | 52, v, _ => v = .agg #[.int .i64 7, .int .i64 1, .int .i64 0]
  | 53, v, _ => v = .bool true
  | 54, v, _ => v = .bool true
  | 55, v, _ => v = .bool true
  | 56, v, _ => v = .bool true
  | 57, v, _ => v = .bool true
  | _, _, _ => True
theorem eawkG_st (gt gx gv gs os cs c2 : Nat) (A2 A5 : Option Addr) (c5 : Nat) : ∀ i9 z9 x9 y9, eawkG gt gx gv gs os cs c2 A2 A5 c5 i9 z9 x9 → Ext x9 y9 → eawkG gt gx gv gs os cs c2 A2 A5 c5 i9 z9 y9 := by
  intro i9 z9 x9 y9 h e
  unfold eawkG at *
  split at h <;> first | exact h | trivial

set_option maxRecDepth 100000 in
set_option maxHeartbeats 8000000 in
theorem eawake_any (w : World) : Calls Try.prog 6 #[] w (Says w (.bool true)) := by
  go_enter Try.func6, Try.ntmps6
  go_wp2_with fail
  have hf0 := heap_alloc2_old w (Obj.cells #[.string ⟨#[110]⟩, .int .u8 1] 67 (0, 0)) (Obj.cells #[.string ⟨#[115, 116, 111, 112]⟩, .slice none 0 0, .string ⟨#[98, 117, 121]⟩, .slice (some ⟨w.heap.size, 0, none⟩) 1 1] 65 (0, 0))
  have ht0 := heap_alloc2_new w (Obj.cells #[.string ⟨#[110]⟩, .int .u8 1] 67 (0, 0)) (Obj.cells #[.string ⟨#[115, 116, 111, 112]⟩, .slice none 0 0, .string ⟨#[98, 117, 121]⟩, .slice (some ⟨w.heap.size, 0, none⟩) 1 1] 65 (0, 0))
  have HTY := hid (eawk_types hf0 ht0)
  have HX := hid ((Ext.alloc w (Obj.cells #[.string ⟨#[110]⟩, .int .u8 1] 67 (0, 0))).then_alloc (Obj.cells #[.string ⟨#[115, 116, 111, 112]⟩, .slice none 0 0, .string ⟨#[98, 117, 121]⟩, .slice (some ⟨w.heap.size, 0, none⟩) 1 1] 65 (0, 0)))
  obtain ⟨gt, hgt⟩ : ∃ g, g = w.heap.size + 1 := ⟨_, rfl⟩
  rw [← hgt] at HTY ⊢
  obtain ⟨w1, hw1⟩ : ∃ w1, w1 = (w.alloc (Obj.cells #[.string ⟨#[110]⟩, .int .u8 1] 67 (0, 0))).alloc (Obj.cells #[.string ⟨#[115, 116, 111, 112]⟩, .slice none 0 0, .string ⟨#[98, 117, 121]⟩, .slice (some ⟨w.heap.size, 0, none⟩) 1 1] 65 (0, 0)) := ⟨_, rfl⟩
  rw [← hw1] at HTY HX ⊢
  clear hf0 ht0 hgt hw1
  refine (eawk_put HTY.out).mono ?_
  rintro e2 w2 ⟨A2, c2, rfl, hby, hx⟩
  have HBY := hid hby
  replace HTY := hid (HTY.out.ext hx)
  replace HX := hid (HX.out.trans hx)
  clear hx hby
  go_wp2_with fail
  refine (eawk_take1 HTY.out).mono ?_
  rintro e3 w3 ⟨A5, c5, rfl, hva, hx⟩
  have HVA := hid hva
  replace HTY := hid (HTY.out.ext hx)
  replace HBY := hid (HBY.out.ext hx)
  replace HX := hid (HX.out.trans hx)
  clear hx hva
  have hxa := Ext.alloc w3 (Obj.cells #[.int .i64 7, .int .i64 1, .int .i64 0, .string ⟨#[98, 117, 121]⟩, .slice A5 1 c5] 37 (0, 0))
  have HBX := hid (heap_alloc_new w3 (Obj.cells #[.int .i64 7, .int .i64 1, .int .i64 0, .string ⟨#[98, 117, 121]⟩, .slice A5 1 c5] 37 (0, 0)))
  replace HTY := hid (HTY.out.ext hxa)
  replace HBY := hid (HBY.out.ext hxa)
  replace HVA := hid (HVA.out.ext hxa)
  replace HX := hid (HX.out.trans hxa)
  go_wp2_with fail
  obtain ⟨gx, hgx⟩ : ∃ g, g = w3.heap.size := ⟨_, rfl⟩
  rw [← hgx] at HBX ⊢
  obtain ⟨w4, hw4⟩ : ∃ w4, w4 = w3.alloc (Obj.cells #[.int .i64 7, .int .i64 1, .int .i64 0, .string ⟨#[98, 117, 121]⟩, .slice A5 1 c5] 37 (0, 0)) := ⟨_, rfl⟩
  rw [← hw4] at HTY HBY HVA HX HBX ⊢
  clear hxa hgx hw4
  refine (eawk_take2 HTY.out).mono ?_
  rintro e5 w5 ⟨A6, c6, rfl, hx⟩
  replace hx := hx.then_alloc (Obj.cells #[.int .i64 0, .int .i64 0, .int .i64 0, .string ⟨#[]⟩, .slice A6 0 c6] 37 (0, 0))
  replace HTY := hid (HTY.out.ext hx)
  replace HBY := hid (HBY.out.ext hx)
  replace HVA := hid (HVA.out.ext hx)
  replace HBX := hid (hx.block HBX.out)
  replace HX := hid (HX.out.trans hx)
  obtain ⟨⟨x0, x1, x2, x3, x4⟩, _, _⟩ := box5 HBX.out
  go_wp2_with fail
  obtain ⟨w6, hw6⟩ : ∃ w6, w6 = w5.alloc (Obj.cells #[.int .i64 0, .int .i64 0, .int .i64 0, .string ⟨#[]⟩, .slice A6 0 c6] 37 (0, 0)) := ⟨_, rfl⟩
  rw [← hw6] at HTY HBY HVA HX HBX ⊢
  clear hx hw6 x0 x1 x2 x3 x4
  refine (eawk_value HTY.out HVA.out).mono ?_
  rintro e7 w7 ⟨rfl, hx⟩
  have HBV := hid (heap_alloc2_old w7 (Obj.cells #[.int .u8 1, .int .i64 3, .int .u64 0, .string ⟨#[]⟩] 68 (0, 0)) (Obj.cells #[.int .i64 2, .int .i64 0, .int .i64 0, .string ⟨#[]⟩, .slice none 0 0, .int .i64 1, .int .i64 1, .int .i64 0, .string ⟨#[]⟩, .slice none 0 0, .int .i64 1, .int .i64 0, .int .i64 3, .string ⟨#[]⟩, .slice none 0 0] 37 (0, 0)))
  have HEL := hid (eawk_events (heap_alloc2_new w7 (Obj.cells #[.int .u8 1, .int .i64 3, .int .u64 0, .string ⟨#[]⟩] 68 (0, 0)) (Obj.cells #[.int .i64 2, .int .i64 0, .int .i64 0, .string ⟨#[]⟩, .slice none 0 0, .int .i64 1, .int .i64 1, .int .i64 0, .string ⟨#[]⟩, .slice none 0 0, .int .i64 1, .int .i64 0, .int .i64 3, .string ⟨#[]⟩, .slice none 0 0] 37 (0, 0))))
  replace hx := (hx.then_alloc (Obj.cells #[.int .u8 1, .int .i64 3, .int .u64 0, .string ⟨#[]⟩] 68 (0, 0))).then_alloc (Obj.cells #[.int .i64 2, .int .i64 0, .int .i64 0, .string ⟨#[]⟩, .slice none 0 0, .int .i64 1, .int .i64 1, .int .i64 0, .string ⟨#[]⟩, .slice none 0 0, .int .i64 1, .int .i64 0, .int .i64 3, .string ⟨#[]⟩, .slice none 0 0] 37 (0, 0))
  replace HTY := hid (HTY.out.ext hx)
  replace HBY := hid (HBY.out.ext hx)
  replace HBX := hid (hx.block HBX.out)
  replace HX := hid (HX.out.trans hx)
  clear HVA
  go_wp2_with fail
  obtain ⟨gv, hgv⟩ : ∃ g, g = w7.heap.size := ⟨_, rfl⟩
  rw [← hgv] at HBV HEL ⊢
  obtain ⟨w8, hw8⟩ : ∃ w8, w8 = (w7.alloc (Obj.cells #[.int .u8 1, .int .i64 3, .int .u64 0, .string ⟨#[]⟩] 68 (0, 0))).alloc (Obj.cells #[.int .i64 2, .int .i64 0, .int .i64 0, .string ⟨#[]⟩, .slice none 0 0, .int .i64 1, .int .i64 1, .int .i64 0, .string ⟨#[]⟩, .slice none 0 0, .int .i64 1, .int .i64 0, .int .i64 3, .string ⟨#[]⟩, .slice none 0 0] 37 (0, 0)) := ⟨_, rfl⟩
  rw [← hw8] at HTY HBY HX HBX HBV HEL ⊢
  clear hx hw8 hgv
  refine (eawk_sort HEL.out).mono ?_
  rintro e9 w9 ⟨gs, os, cs, rfl, hes, s2, hx⟩
  have HES := hid hes
  replace HTY := hid (HTY.out.ext hx)
  replace HBY := hid (HBY.out.ext hx)
  replace HBX := hid (hx.block HBX.out)
  replace HBV := hid (hx.block HBV.out)
  replace HX := hid (HX.out.trans hx)
  clear hx hes HEL
  go_wp2_with fail
  refine wp_region_slots Ext (eawkG gt gx gv gs os cs c2 A2 A5 c5) (by kernel_rfl) Ext.trans Ext.refl (Ext.drew _) (eawkG_st _ _ _ _ _ _ _ _ _ _) (by kernel_rfl) ?_ ?_
  · intro tmps wr hle hfr j o9 ho hty
    have h1 : tmps[1]?.getD undef = .slice (some ⟨gt, 0, none⟩) 2 2 := hfr 1 (by kernel_rfl)
    have h2 : tmps[2]?.getD undef = .slice A2 4 c2 := hfr 2 (by kernel_rfl)
    have h3 : tmps[3]?.getD undef = .int .i64 0 := hfr 3 (by kernel_rfl)
    have h4 : tmps[4]?.getD undef = .pointer (some ⟨gx, 0, none⟩) := hfr 4 (by kernel_rfl)
    have h5 : tmps[5]?.getD undef = .int .i64 6 := hfr 5 (by kernel_rfl)
    have h6 : tmps[6]?.getD undef = .int .i64 0 := hfr 6 (by kernel_rfl)
    have h9 : tmps[9]?.getD undef = .int .i64 6 := hfr 9 (by kernel_rfl)
    have h10 : tmps[10]?.getD undef = .pointer (some ⟨gv, 0, none⟩) := hfr 10 (by kernel_rfl)
    have h11 : tmps[11]?.getD undef = .bool true := hfr 11 (by kernel_rfl)
    have h12 : tmps[12]?.getD undef = .slice (some ⟨gs, os, none⟩) 3 cs := hfr 12 (by kernel_rfl)
    obtain ⟨⟨x0, x1, x2, x3, x4⟩, _, _⟩ := box5 (hle.block HBX.out)
    obtain ⟨⟨v0, v1, v2, v3⟩, _, _⟩ := box4 (hle.block HBV.out)
    have s2 := hle.cell s2
    clear hfr
    match j, ho with
    | 0, ho =>
      obtain rfl := (Option.some.inj ho)
      clear hty ho
      refine step_pure (.int .i64 0) (wanted_free rfl) ?_ (Ext.refl _) rfl
      simp [execOp, Act.eval, h3, go_sem]
    | 1, ho =>
      have h47 : tmps[47]?.getD undef = .int .i64 0 := hty 0 47 rfl (by obtain rfl := (Option.some.inj ho); rfl)
      obtain rfl := (Option.some.inj ho)
      clear hty ho
      refine step_pure (.bool true) (wanted_free rfl) ?_ (Ext.refl _) rfl
      simp [execOp, Act.eval, h47, go_sem]
    | 2, ho =>
      have h48 : tmps[48]?.getD undef = .bool true := hty 1 48 rfl (by obtain rfl := (Option.some.inj ho); rfl)
      obtain rfl := (Option.some.inj ho)
      clear hty ho
      refine step_pure (.bool true) (wanted_free rfl) ?_ (Ext.refl _) rfl
      simp [execOp, Act.eval, h48, go_sem]
    | 3, ho =>
      have h49 : tmps[49]?.getD undef = .bool true := hty 2 49 rfl (by obtain rfl := (Option.some.inj ho); rfl)
      obtain rfl := (Option.some.inj ho)
      clear hty ho
      refine step_pure (.slice A2 4 c2) (wanted_guard rfl rfl h49) ?_ (Ext.refl _) rfl
      simp [execOp, Act.eval, h2, go_sem]
    | 4, ho =>
      have h50 : tmps[50]?.getD undef = .slice A2 4 c2 := hty 3 50 rfl (by obtain rfl := (Option.some.inj ho); rfl)
      have h49 : tmps[49]?.getD undef = .bool true := hty 2 49 rfl (by obtain rfl := (Option.some.inj ho); rfl)
      obtain rfl := (Option.some.inj ho)
      clear hty ho
      refine step_pure (.string ⟨([5, 0, 1, 0]).toArray⟩) (wanted_guard rfl rfl h49) ?_ (Ext.refl _) rfl
      have hcv := run_string_bytes Try.underlying53 Try.underlying5 Try.underlying9 (HBY.out.ext hle)
      simp [execOp, Act.eval, h50, hcv, go_sem]
    | 5, ho =>
      have h51 : tmps[51]?.getD undef = .string ⟨([5, 0, 1, 0]).toArray⟩ := hty 4 51 rfl (by obtain rfl := (Option.some.inj ho); rfl)
      have h49 : tmps[49]?.getD undef = .bool true := hty 2 49 rfl (by obtain rfl := (Option.some.inj ho); rfl)
      obtain rfl := (Option.some.inj ho)
      clear hty ho
      refine step_pure (.bool true) (wanted_guard rfl rfl h49) ?_ (Ext.refl _) rfl
      simp [execOp, Act.eval, h51, go_sem]
    | 6, ho =>
      have h49 : tmps[49]?.getD undef = .bool true := hty 2 49 rfl (by obtain rfl := (Option.some.inj ho); rfl)
      have h52 : tmps[52]?.getD undef = .bool true := hty 5 52 rfl (by obtain rfl := (Option.some.inj ho); rfl)
      obtain rfl := (Option.some.inj ho)
      clear hty ho
      refine step_pure (.bool true) (wanted_free rfl) ?_ (Ext.refl _) rfl
      simp [execOp, Act.eval, h49, h52, go_sem]
    | 7, ho =>
      have h53 : tmps[53]?.getD undef = .bool true := hty 6 53 rfl (by obtain rfl := (Option.some.inj ho); rfl)
      obtain rfl := (Option.some.inj ho)
      clear hty ho
      refine step_pure (.bool true) (wanted_free rfl) ?_ (Ext.refl _) rfl
      simp [execOp, Act.eval, h53, go_sem]
    | 8, ho =>
      have h54 : tmps[54]?.getD undef = .bool true := hty 7 54 rfl (by obtain rfl := (Option.some.inj ho); rfl)
      obtain rfl := (Option.some.inj ho)
      clear hty ho
      refine step_pure (.int .i64 0) (wanted_guard rfl rfl h54) ?_ (Ext.refl _) rfl
      simp [execOp, Act.eval, h6, go_sem]
    | 9, ho =>
      have h55 : tmps[55]?.getD undef = .int .i64 0 := hty 8 55 rfl (by obtain rfl := (Option.some.inj ho); rfl)
      have h54 : tmps[54]?.getD undef = .bool true := hty 7 54 rfl (by obtain rfl := (Option.some.inj ho); rfl)
      obtain rfl := (Option.some.inj ho)
      clear hty ho
      refine step_pure (.bool true) (wanted_guard rfl rfl h54) ?_ (Ext.refl _) rfl
      simp [execOp, Act.eval, h55, go_sem]
    | 10, ho =>
      have h54 : tmps[54]?.getD undef = .bool true := hty 7 54 rfl (by obtain rfl := (Option.some.inj ho); rfl)
      have h56 : tmps[56]?.getD undef = .bool true := hty 9 56 rfl (by obtain rfl := (Option.some.inj ho); rfl)
      obtain rfl := (Option.some.inj ho)
      clear hty ho
      refine step_pure (.bool true) (wanted_free rfl) ?_ (Ext.refl _) rfl
      simp [execOp, Act.eval, h54, h56, go_sem]
    | 11, ho =>
      have h57 : tmps[57]?.getD undef = .bool true := hty 10 57 rfl (by obtain rfl := (Option.some.inj ho); rfl)
      obtain rfl := (Option.some.inj ho)
      clear hty ho
      refine step_pure (.bool true) (wanted_free rfl) ?_ (Ext.refl _) rfl
      simp [execOp, Act.eval, h57, go_sem]
    | 12, ho =>
      have h58 : tmps[58]?.getD undef = .bool true := hty 11 58 rfl (by obtain rfl := (Option.some.inj ho); rfl)
      obtain rfl := (Option.some.inj ho)
      clear hty ho
      refine step_pure (.int .i64 6) (wanted_guard rfl rfl h58) ?_ (Ext.refl _) rfl
      simp [execOp, Act.eval, h5, go_sem]
    | 13, ho =>
      have h59 : tmps[59]?.getD undef = .int .i64 6 := hty 12 59 rfl (by obtain rfl := (Option.some.inj ho); rfl)
      have h58 : tmps[58]?.getD undef = .bool true := hty 11 58 rfl (by obtain rfl := (Option.some.inj ho); rfl)
      obtain rfl := (Option.some.inj ho)
      clear hty ho
      refine step_pure (.bool true) (wanted_guard rfl rfl h58) ?_ (Ext.refl _) rfl
      simp [execOp, Act.eval, h59, go_sem]
    | 14, ho =>
      have h58 : tmps[58]?.getD undef = .bool true := hty 11 58 rfl (by obtain rfl := (Option.some.inj ho); rfl)
      have h60 : tmps[60]?.getD undef = .bool true := hty 13 60 rfl (by obtain rfl := (Option.some.inj ho); rfl)
      obtain rfl := (Option.some.inj ho)
      clear hty ho
      refine step_pure (.bool true) (wanted_free rfl) ?_ (Ext.refl _) rfl
      simp [execOp, Act.eval, h58, h60, go_sem]
    | 15, ho =>
      have h61 : tmps[61]?.getD undef = .bool true := hty 14 61 rfl (by obtain rfl := (Option.some.inj ho); rfl)
      obtain rfl := (Option.some.inj ho)
      clear hty ho
      refine step_pure (.bool true) (wanted_free rfl) ?_ (Ext.refl _) rfl
      simp [execOp, Act.eval, h61, go_sem]
    | 16, ho =>
      have h62 : tmps[62]?.getD undef = .bool true := hty 15 62 rfl (by obtain rfl := (Option.some.inj ho); rfl)
      obtain rfl := (Option.some.inj ho)
      clear hty ho
      refine step_pure (.bool true) (wanted_guard rfl rfl h62) ?_ (Ext.refl _) rfl
      simp [execOp, Act.eval, h11, go_sem]
    | 17, ho =>
      have h62 : tmps[62]?.getD undef = .bool true := hty 15 62 rfl (by obtain rfl := (Option.some.inj ho); rfl)
      have h63 : tmps[63]?.getD undef = .bool true := hty 16 63 rfl (by obtain rfl := (Option.some.inj ho); rfl)
      obtain rfl := (Option.some.inj ho)
      clear hty ho
      refine step_pure (.bool true) (wanted_free rfl) ?_ (Ext.refl _) rfl
      simp [execOp, Act.eval, h62, h63, go_sem]
    | 18, ho =>
      have h64 : tmps[64]?.getD undef = .bool true := hty 17 64 rfl (by obtain rfl := (Option.some.inj ho); rfl)
      obtain rfl := (Option.some.inj ho)
      clear hty ho
      refine step_pure (.bool true) (wanted_free rfl) ?_ (Ext.refl _) rfl
      simp [execOp, Act.eval, h64, go_sem]
    | 19, ho =>
      have h65 : tmps[65]?.getD undef = .bool true := hty 18 65 rfl (by obtain rfl := (Option.some.inj ho); rfl)
      obtain rfl := (Option.some.inj ho)
      clear hty ho
      refine step_pure (.agg #[.int .u8 1, .int .i64 3, .int .u64 0, .string ⟨#[]⟩]) (wanted_guard rfl rfl h65) ?_ (Ext.refl _) rfl
      simp [execOp, Act.eval, h10, v0, v1, v2, v3, go_sem]
    | 20, ho =>
      have h65 : tmps[65]?.getD undef = .bool true := hty 18 65 rfl (by obtain rfl := (Option.some.inj ho); rfl)
      obtain rfl := (Option.some.inj ho)
      clear hty ho
      refine step_call 27 #[.int .i64 3] (wanted_guard rfl rfl h65) ?_ ?_
      · simp [execOp, Act.eval, go_sem]
      · exact (vofint_any 3 _ (by decide) (by decide)).mono fun e w' ⟨h1, h2⟩ => ⟨_, h1, h2, rfl⟩
    | 21, ho =>
      have h66 : tmps[66]?.getD undef = .agg #[.int .u8 1, .int .i64 3, .int .u64 0, .string ⟨#[]⟩] := hty 19 66 rfl (by obtain rfl := (Option.some.inj ho); rfl)
      have h67 : tmps[67]?.getD undef = .agg #[.int .u8 1, .int .i64 3, .int .u64 0, .string ⟨#[]⟩] := hty 20 67 rfl (by obtain rfl := (Option.some.inj ho); rfl)
      have h65 : tmps[65]?.getD undef = .bool true := hty 18 65 rfl (by obtain rfl := (Option.some.inj ho); rfl)
      obtain rfl := (Option.some.inj ho)
      clear hty ho
      refine step_pure (.bool true) (wanted_guard rfl rfl h65) ?_ (Ext.refl _) rfl
      simp [execOp, Act.eval, h66, h67, ea_guardv, ea_eqv, go_sem]
    | 22, ho =>
      have h65 : tmps[65]?.getD undef = .bool true := hty 18 65 rfl (by obtain rfl := (Option.some.inj ho); rfl)
      have h68 : tmps[68]?.getD undef = .bool true := hty 21 68 rfl (by obtain rfl := (Option.some.inj ho); rfl)
      obtain rfl := (Option.some.inj ho)
      clear hty ho
      refine step_pure (.bool true) (wanted_free rfl) ?_ (Ext.refl _) rfl
      simp [execOp, Act.eval, h65, h68, go_sem]
    | 23, ho =>
      have h69 : tmps[69]?.getD undef = .bool true := hty 22 69 rfl (by obtain rfl := (Option.some.inj ho); rfl)
      obtain rfl := (Option.some.inj ho)
      clear hty ho
      refine step_pure (.bool true) (wanted_free rfl) ?_ (Ext.refl _) rfl
      simp [execOp, Act.eval, h69, go_sem]
    | 24, ho =>
      have h70 : tmps[70]?.getD undef = .bool true := hty 23 70 rfl (by obtain rfl := (Option.some.inj ho); rfl)
      obtain rfl := (Option.some.inj ho)
      clear hty ho
      refine step_pure (.int .i64 6) (wanted_guard rfl rfl h70) ?_ (Ext.refl _) rfl
      simp [execOp, Act.eval, h9, go_sem]
    | 25, ho =>
      have h71 : tmps[71]?.getD undef = .int .i64 6 := hty 24 71 rfl (by obtain rfl := (Option.some.inj ho); rfl)
      have h70 : tmps[70]?.getD undef = .bool true := hty 23 70 rfl (by obtain rfl := (Option.some.inj ho); rfl)
      obtain rfl := (Option.some.inj ho)
      clear hty ho
      refine step_pure (.bool true) (wanted_guard rfl rfl h70) ?_ (Ext.refl _) rfl
      simp [execOp, Act.eval, h71, go_sem]
    | 26, ho =>
      have h70 : tmps[70]?.getD undef = .bool true := hty 23 70 rfl (by obtain rfl := (Option.some.inj ho); rfl)
      have h72 : tmps[72]?.getD undef = .bool true := hty 25 72 rfl (by obtain rfl := (Option.some.inj ho); rfl)
      obtain rfl := (Option.some.inj ho)
      clear hty ho
      refine step_pure (.bool true) (wanted_free rfl) ?_ (Ext.refl _) rfl
      simp [execOp, Act.eval, h70, h72, go_sem]
    | 27, ho =>
      have h73 : tmps[73]?.getD undef = .bool true := hty 26 73 rfl (by obtain rfl := (Option.some.inj ho); rfl)
      obtain rfl := (Option.some.inj ho)
      clear hty ho
      refine step_pure (.bool true) (wanted_free rfl) ?_ (Ext.refl _) rfl
      simp [execOp, Act.eval, h73, go_sem]
    | 28, ho =>
      have h74 : tmps[74]?.getD undef = .bool true := hty 27 74 rfl (by obtain rfl := (Option.some.inj ho); rfl)
      obtain rfl := (Option.some.inj ho)
      clear hty ho
      refine step_pure (.slice (some ⟨gs, os, none⟩) 3 cs) (wanted_guard rfl rfl h74) ?_ (Ext.refl _) rfl
      simp [execOp, Act.eval, h12, go_sem]
    | 29, ho =>
      have h75 : tmps[75]?.getD undef = .slice (some ⟨gs, os, none⟩) 3 cs := hty 28 75 rfl (by obtain rfl := (Option.some.inj ho); rfl)
      have h74 : tmps[74]?.getD undef = .bool true := hty 27 74 rfl (by obtain rfl := (Option.some.inj ho); rfl)
      obtain rfl := (Option.some.inj ho)
      clear hty ho
      refine step_pure (.int .i64 3) (wanted_guard rfl rfl h74) ?_ (Ext.refl _) rfl
      simp [execOp, Act.eval, h75, go_sem]
    | 30, ho =>
      have h76 : tmps[76]?.getD undef = .int .i64 3 := hty 29 76 rfl (by obtain rfl := (Option.some.inj ho); rfl)
      have h74 : tmps[74]?.getD undef = .bool true := hty 27 74 rfl (by obtain rfl := (Option.some.inj ho); rfl)
      obtain rfl := (Option.some.inj ho)
      clear hty ho
      refine step_pure (.bool true) (wanted_guard rfl rfl h74) ?_ (Ext.refl _) rfl
      simp [execOp, Act.eval, h76, go_sem]
    | 31, ho =>
      have h74 : tmps[74]?.getD undef = .bool true := hty 27 74 rfl (by obtain rfl := (Option.some.inj ho); rfl)
      have h77 : tmps[77]?.getD undef = .bool true := hty 30 77 rfl (by obtain rfl := (Option.some.inj ho); rfl)
      obtain rfl := (Option.some.inj ho)
      clear hty ho
      refine step_pure (.bool true) (wanted_free rfl) ?_ (Ext.refl _) rfl
      simp [execOp, Act.eval, h74, h77, go_sem]
    | 32, ho =>
      have h78 : tmps[78]?.getD undef = .bool true := hty 31 78 rfl (by obtain rfl := (Option.some.inj ho); rfl)
      obtain rfl := (Option.some.inj ho)
      clear hty ho
      refine step_pure (.bool true) (wanted_free rfl) ?_ (Ext.refl _) rfl
      simp [execOp, Act.eval, h78, go_sem]
    | 33, ho =>
      have h79 : tmps[79]?.getD undef = .bool true := hty 32 79 rfl (by obtain rfl := (Option.some.inj ho); rfl)
      obtain rfl := (Option.some.inj ho)
      clear hty ho
      refine step_pure (.slice (some ⟨gs, os, none⟩) 3 cs) (wanted_guard rfl rfl h79) ?_ (Ext.refl _) rfl
      simp [execOp, Act.eval, h12, go_sem]
    | 34, ho =>
      have h80 : tmps[80]?.getD undef = .slice (some ⟨gs, os, none⟩) 3 cs := hty 33 80 rfl (by obtain rfl := (Option.some.inj ho); rfl)
      have h79 : tmps[79]?.getD undef = .bool true := hty 32 79 rfl (by obtain rfl := (Option.some.inj ho); rfl)
      obtain rfl := (Option.some.inj ho)
      clear hty ho
      refine step_pure (.pointer (some ⟨gs, os, none⟩)) (wanted_guard rfl rfl h79) ?_ (Ext.refl _) rfl
      simp [execOp, Act.eval, h80, go_sem]
    | 35, ho =>
      have h81 : tmps[81]?.getD undef = .pointer (some ⟨gs, os, none⟩) := hty 34 81 rfl (by obtain rfl := (Option.some.inj ho); rfl)
      have h79 : tmps[79]?.getD undef = .bool true := hty 32 79 rfl (by obtain rfl := (Option.some.inj ho); rfl)
      obtain rfl := (Option.some.inj ho)
      clear hty ho
      refine step_pure (.pointer (some ⟨gs, os + 2, none⟩)) (wanted_guard rfl rfl h79) ?_ (Ext.refl _) rfl
      simp [execOp, Act.eval, h81, go_sem]
    | 36, ho =>
      have h82 : tmps[82]?.getD undef = .pointer (some ⟨gs, os + 2, none⟩) := hty 35 82 rfl (by obtain rfl := (Option.some.inj ho); rfl)
      have h79 : tmps[79]?.getD undef = .bool true := hty 32 79 rfl (by obtain rfl := (Option.some.inj ho); rfl)
      obtain rfl := (Option.some.inj ho)
      clear hty ho
      refine step_pure (.int .i64 3) (wanted_guard rfl rfl h79) ?_ (Ext.refl _) rfl
      simp [execOp, Act.eval, h82, s2, go_sem]
    | 37, ho =>
      have h83 : tmps[83]?.getD undef = .int .i64 3 := hty 36 83 rfl (by obtain rfl := (Option.some.inj ho); rfl)
      have h79 : tmps[79]?.getD undef = .bool true := hty 32 79 rfl (by obtain rfl := (Option.some.inj ho); rfl)
      obtain rfl := (Option.some.inj ho)
      clear hty ho
      refine step_pure (.bool true) (wanted_guard rfl rfl h79) ?_ (Ext.refl _) rfl
      simp [execOp, Act.eval, h83, go_sem]
    | 38, ho =>
      have h79 : tmps[79]?.getD undef = .bool true := hty 32 79 rfl (by obtain rfl := (Option.some.inj ho); rfl)
      have h84 : tmps[84]?.getD undef = .bool true := hty 37 84 rfl (by obtain rfl := (Option.some.inj ho); rfl)
      obtain rfl := (Option.some.inj ho)
      clear hty ho
      refine step_pure (.bool true) (wanted_free rfl) ?_ (Ext.refl _) rfl
      simp [execOp, Act.eval, h79, h84, go_sem]
    | 39, ho =>
      have h85 : tmps[85]?.getD undef = .bool true := hty 38 85 rfl (by obtain rfl := (Option.some.inj ho); rfl)
      obtain rfl := (Option.some.inj ho)
      clear hty ho
      refine step_pure (.bool true) (wanted_free rfl) ?_ (Ext.refl _) rfl
      simp [execOp, Act.eval, h85, go_sem]
    | 40, ho =>
      have h86 : tmps[86]?.getD undef = .bool true := hty 39 86 rfl (by obtain rfl := (Option.some.inj ho); rfl)
      obtain rfl := (Option.some.inj ho)
      clear hty ho
      refine step_pure (.slice (some ⟨gs, os, none⟩) 3 cs) (wanted_guard rfl rfl h86) ?_ (Ext.refl _) rfl
      simp [execOp, Act.eval, h12, go_sem]
    | 41, ho =>
      have h87 : tmps[87]?.getD undef = .slice (some ⟨gs, os, none⟩) 3 cs := hty 40 87 rfl (by obtain rfl := (Option.some.inj ho); rfl)
      have h86 : tmps[86]?.getD undef = .bool true := hty 39 86 rfl (by obtain rfl := (Option.some.inj ho); rfl)
      obtain rfl := (Option.some.inj ho)
      clear hty ho
      refine step_call 12 #[.slice (some ⟨gs, os, none⟩) 3 cs] (wanted_guard rfl rfl h86) ?_ ?_
      · simp [execOp, Act.eval, h87, go_sem]
      · exact (esorted_any eawkS _ _ (HES.out.ext hle)).mono fun e w' ⟨h1, h2⟩ => ⟨_, h1, h2, show Value.bool (sortedE eawkS) = .bool true by rw [ea_sorted]⟩
    | 42, ho =>
      have h86 : tmps[86]?.getD undef = .bool true := hty 39 86 rfl (by obtain rfl := (Option.some.inj ho); rfl)
      have h88 : tmps[88]?.getD undef = .bool true := hty 41 88 rfl (by obtain rfl := (Option.some.inj ho); rfl)
      obtain rfl := (Option.some.inj ho)
      clear hty ho
      refine step_pure (.bool true) (wanted_free rfl) ?_ (Ext.refl _) rfl
      simp [execOp, Act.eval, h86, h88, go_sem]
    | 43, ho =>
      have h89 : tmps[89]?.getD undef = .bool true := hty 42 89 rfl (by obtain rfl := (Option.some.inj ho); rfl)
      obtain rfl := (Option.some.inj ho)
      clear hty ho
      refine step_pure (.bool true) (wanted_free rfl) ?_ (Ext.refl _) rfl
      simp [execOp, Act.eval, h89, go_sem]
    | 44, ho =>
      have h90 : tmps[90]?.getD undef = .bool true := hty 43 90 rfl (by obtain rfl := (Option.some.inj ho); rfl)
      obtain rfl := (Option.some.inj ho)
      clear hty ho
      refine step_pure (.slice (some ⟨gt, 0, none⟩) 2 2) (wanted_guard rfl rfl h90) ?_ (Ext.refl _) rfl
      simp [execOp, Act.eval, h1, go_sem]
    | 45, ho =>
      have h90 : tmps[90]?.getD undef = .bool true := hty 43 90 rfl (by obtain rfl := (Option.some.inj ho); rfl)
      obtain rfl := (Option.some.inj ho)
      clear hty ho
      refine step_pure (.agg #[.int .i64 0, .int .i64 0, .int .i64 0, .string ⟨#[115, 101, 108, 108]⟩, .slice none 0 0]) (wanted_guard rfl rfl h90) ?_ (Ext.refl _) rfl
      simp [execOp, Act.eval, go_sem]
    | 46, ho =>
      have h91 : tmps[91]?.getD undef = .slice (some ⟨gt, 0, none⟩) 2 2 := hty 44 91 rfl (by obtain rfl := (Option.some.inj ho); rfl)
      have h92 : tmps[92]?.getD undef = .agg #[.int .i64 0, .int .i64 0, .int .i64 0, .string ⟨#[115, 101, 108, 108]⟩, .slice none 0 0] := hty 45 92 rfl (by obtain rfl := (Option.some.inj ho); rfl)
      have h90 : tmps[90]?.getD undef = .bool true := hty 43 90 rfl (by obtain rfl := (Option.some.inj ho); rfl)
      obtain rfl := (Option.some.inj ho)
      clear hty ho
      refine step_call 23 #[.slice (some ⟨gt, 0, none⟩) 2 2, .agg #[.int .i64 0, .int .i64 0, .int .i64 0, .string ⟨#[115, 101, 108, 108]⟩, .slice none 0 0]] (wanted_guard rfl rfl h90) ?_ ?_
      · simp [execOp, Act.eval, h91, h92, go_sem]
      · exact (echeckp_any eawkT ⟨0, 0, 0, ⟨#[115, 101, 108, 108]⟩, []⟩ _ (.slice none 0 0) _ (HTY.out.ext hle) (ValsAt.nil9 _) eawk_small (by decide) (fun x hx => by cases hx)).mono fun e w' ⟨h1, h2⟩ => ⟨_, h1, h2, show Value.int .i64 (checkE eawkT ⟨0, 0, 0, ⟨#[115, 101, 108, 108]⟩, []⟩) = .int .i64 6 by rw [ea_check]⟩
    | 47, ho =>
      have h93 : tmps[93]?.getD undef = .int .i64 6 := hty 46 93 rfl (by obtain rfl := (Option.some.inj ho); rfl)
      have h90 : tmps[90]?.getD undef = .bool true := hty 43 90 rfl (by obtain rfl := (Option.some.inj ho); rfl)
      obtain rfl := (Option.some.inj ho)
      clear hty ho
      refine step_pure (.bool true) (wanted_guard rfl rfl h90) ?_ (Ext.refl _) rfl
      simp [execOp, Act.eval, h93, go_sem]
    | 48, ho =>
      have h90 : tmps[90]?.getD undef = .bool true := hty 43 90 rfl (by obtain rfl := (Option.some.inj ho); rfl)
      have h94 : tmps[94]?.getD undef = .bool true := hty 47 94 rfl (by obtain rfl := (Option.some.inj ho); rfl)
      obtain rfl := (Option.some.inj ho)
      clear hty ho
      refine step_pure (.bool true) (wanted_free rfl) ?_ (Ext.refl _) rfl
      simp [execOp, Act.eval, h90, h94, go_sem]
    | 49, ho =>
      have h95 : tmps[95]?.getD undef = .bool true := hty 48 95 rfl (by obtain rfl := (Option.some.inj ho); rfl)
      obtain rfl := (Option.some.inj ho)
      clear hty ho
      refine step_pure (.bool true) (wanted_free rfl) ?_ (Ext.refl _) rfl
      simp [execOp, Act.eval, h95, go_sem]
    | 50, ho =>
      have h96 : tmps[96]?.getD undef = .bool true := hty 49 96 rfl (by obtain rfl := (Option.some.inj ho); rfl)
      obtain rfl := (Option.some.inj ho)
      clear hty ho
      refine step_pure (.agg #[.int .i64 7, .int .i64 1, .int .i64 0, .string ⟨#[98, 117, 121]⟩, .slice A5 1 c5]) (wanted_guard rfl rfl h96) ?_ (Ext.refl _) rfl
      simp [execOp, Act.eval, h4, x0, x1, x2, x3, x4, go_sem]
    | 51, ho =>
      have h97 : tmps[97]?.getD undef = .agg #[.int .i64 7, .int .i64 1, .int .i64 0, .string ⟨#[98, 117, 121]⟩, .slice A5 1 c5] := hty 50 97 rfl (by obtain rfl := (Option.some.inj ho); rfl)
      have h96 : tmps[96]?.getD undef = .bool true := hty 49 96 rfl (by obtain rfl := (Option.some.inj ho); rfl)
      obtain rfl := (Option.some.inj ho)
      clear hty ho
      refine step_call 14 #[.agg #[.int .i64 7, .int .i64 1, .int .i64 0, .string ⟨#[98, 117, 121]⟩, .slice A5 1 c5]] (wanted_guard rfl rfl h96) ?_ ?_
      · simp [execOp, Act.eval, h97, go_sem]
      · exact (eid_any eawkX (.slice A5 1 c5) _).mono fun e w' ⟨h1, h2⟩ => ⟨_, h1, h2, rfl⟩
    | 52, ho =>
      have h96 : tmps[96]?.getD undef = .bool true := hty 49 96 rfl (by obtain rfl := (Option.some.inj ho); rfl)
      obtain rfl := (Option.some.inj ho)
      clear hty ho
      refine step_pure (.agg #[.int .i64 7, .int .i64 1, .int .i64 0]) (wanted_guard rfl rfl h96) ?_ (Ext.refl _) rfl
      simp [execOp, Act.eval, go_sem]
    | 53, ho =>
      have h98 : tmps[98]?.getD undef = .agg #[.int .i64 7, .int .i64 1, .int .i64 0] := hty 51 98 rfl (by obtain rfl := (Option.some.inj ho); rfl)
      have h99 : tmps[99]?.getD undef = .agg #[.int .i64 7, .int .i64 1, .int .i64 0] := hty 52 99 rfl (by obtain rfl := (Option.some.inj ho); rfl)
      have h96 : tmps[96]?.getD undef = .bool true := hty 49 96 rfl (by obtain rfl := (Option.some.inj ho); rfl)
      obtain rfl := (Option.some.inj ho)
      clear hty ho
      refine step_pure (.bool true) (wanted_guard rfl rfl h96) ?_ (Ext.refl _) rfl
      simp [execOp, Act.eval, h98, h99, ea_guardi, ea_eqi, go_sem]
    | 54, ho =>
      have h96 : tmps[96]?.getD undef = .bool true := hty 49 96 rfl (by obtain rfl := (Option.some.inj ho); rfl)
      have h100 : tmps[100]?.getD undef = .bool true := hty 53 100 rfl (by obtain rfl := (Option.some.inj ho); rfl)
      obtain rfl := (Option.some.inj ho)
      clear hty ho
      refine step_pure (.bool true) (wanted_free rfl) ?_ (Ext.refl _) rfl
      simp [execOp, Act.eval, h96, h100, go_sem]
    | 55, ho =>
      have h101 : tmps[101]?.getD undef = .bool true := hty 54 101 rfl (by obtain rfl := (Option.some.inj ho); rfl)
      obtain rfl := (Option.some.inj ho)
      clear hty ho
      refine step_pure (.bool true) (wanted_free rfl) ?_ (Ext.refl _) rfl
      simp [execOp, Act.eval, h101, go_sem]
    | 56, ho =>
      have h102 : tmps[102]?.getD undef = .bool true := hty 55 102 rfl (by obtain rfl := (Option.some.inj ho); rfl)
      obtain rfl := (Option.some.inj ho)
      clear hty ho
      refine step_pure (.bool true) (wanted_free rfl) ?_ (Ext.refl _) rfl
      simp [execOp, Act.eval, h102, go_sem]
    | 57, ho =>
      have h103 : tmps[103]?.getD undef = .bool true := hty 56 103 rfl (by obtain rfl := (Option.some.inj ho); rfl)
      obtain rfl := (Option.some.inj ho)
      clear hty ho
      refine step_pure (.bool true) (wanted_free rfl) ?_ (Ext.refl _) rfl
      simp [execOp, Act.eval, h103, go_sem]
    | (j + 58), ho => exact absurd ho (by simp)
  · intro tmps wz hle hs hfr hty
    have h0 : tmps[0]?.getD undef = .bool true := hty 57 0 rfl
    have hfe := frame_eq [0, 47, 48, 49, 50, 51, 52, 53, 54, 55, 56, 57, 58, 59, 60, 61, 62, 63, 64, 65, 66, 67, 68, 69, 70, 71, 72, 73, 74, 75, 76, 77, 78, 79, 80, 81, 82, 83, 84, 85, 86, 87, 88, 89, 90, 91, 92, 93, 94, 95, 96, 97, 98, 99, 100, 101, 102, 103] hs hfr (by kernel_rfl)
    rw [hfe]
    clear hfe hfr hs hty
    simp only [List.foldl_cons, List.foldl_nil]
    rw [h0]
    clear h0
    generalize tmps[47]?.getD undef = x47
    generalize tmps[48]?.getD undef = x48
    generalize tmps[49]?.getD undef = x49
    generalize tmps[50]?.getD undef = x50
    generalize tmps[51]?.getD undef = x51
    generalize tmps[52]?.getD undef = x52
    generalize tmps[53]?.getD undef = x53
    generalize tmps[54]?.getD undef = x54
    generalize tmps[55]?.getD undef = x55
    generalize tmps[56]?.getD undef = x56
    generalize tmps[57]?.getD undef = x57
    generalize tmps[58]?.getD undef = x58
    generalize tmps[59]?.getD undef = x59
    generalize tmps[60]?.getD undef = x60
    generalize tmps[61]?.getD undef = x61
    generalize tmps[62]?.getD undef = x62
    generalize tmps[63]?.getD undef = x63
    generalize tmps[64]?.getD undef = x64
    generalize tmps[65]?.getD undef = x65
    generalize tmps[66]?.getD undef = x66
    generalize tmps[67]?.getD undef = x67
    generalize tmps[68]?.getD undef = x68
    generalize tmps[69]?.getD undef = x69
    generalize tmps[70]?.getD undef = x70
    generalize tmps[71]?.getD undef = x71
    generalize tmps[72]?.getD undef = x72
    generalize tmps[73]?.getD undef = x73
    generalize tmps[74]?.getD undef = x74
    generalize tmps[75]?.getD undef = x75
    generalize tmps[76]?.getD undef = x76
    generalize tmps[77]?.getD undef = x77
    generalize tmps[78]?.getD undef = x78
    generalize tmps[79]?.getD undef = x79
    generalize tmps[80]?.getD undef = x80
    generalize tmps[81]?.getD undef = x81
    generalize tmps[82]?.getD undef = x82
    generalize tmps[83]?.getD undef = x83
    generalize tmps[84]?.getD undef = x84
    generalize tmps[85]?.getD undef = x85
    generalize tmps[86]?.getD undef = x86
    generalize tmps[87]?.getD undef = x87
    generalize tmps[88]?.getD undef = x88
    generalize tmps[89]?.getD undef = x89
    generalize tmps[90]?.getD undef = x90
    generalize tmps[91]?.getD undef = x91
    generalize tmps[92]?.getD undef = x92
    generalize tmps[93]?.getD undef = x93
    generalize tmps[94]?.getD undef = x94
    generalize tmps[95]?.getD undef = x95
    generalize tmps[96]?.getD undef = x96
    generalize tmps[97]?.getD undef = x97
    generalize tmps[98]?.getD undef = x98
    generalize tmps[99]?.getD undef = x99
    generalize tmps[100]?.getD undef = x100
    generalize tmps[101]?.getD undef = x101
    generalize tmps[102]?.getD undef = x102
    generalize tmps[103]?.getD undef = x103
    simp only [List.setIfInBounds_toArray, List.set_cons_succ, List.set_cons_zero]
    go_wp2_with fail
    go_ret
    exact ⟨rfl, HX.out.trans hle⟩
end Go.Proofs.Ytnldgmpfinlikaa
