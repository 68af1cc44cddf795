/- telltalelaw06.awake answers true, and changes nothing that was there. Conditions: none. -/
import Derived.Test.YtggafdimbddflaaSSch
import Derived.Test.YtggafdimbddflaaBase
import Derived.Test.YtggafdimbddflaaVV1
import Derived.Test.YtggafdimbddflaaVV4
import Derived.BigQuiet
namespace Go.Proofs.Ytggafdimbddflaa
open Go Go.RowKit

theorem ValsAt.nil (w : World) : ValsAt w (.slice none 0 0) [] := ⟨none, 0, rfl, Nat.le_refl _, by unfold maxLen; omega, fun _ h => absurd h (Nat.not_lt_zero _)⟩
theorem ValsAt.of_block {w : World} {g : Nat} {V : List VZ} {t : TypeId} {fr : Nat × Nat} (h : w.heap[g]? = some (.cells (vcells V).toArray t fr)) (hm : V.length ≤ maxLen) : ValsAt w (.slice (some ⟨g, 0, none⟩) V.length V.length) V := by
  refine ⟨_, _, rfl, Nat.le_refl _, hm, fun i hi => ⟨g, 0, rfl, ?_⟩⟩
  obtain ⟨q1, q2, q3, q4⟩ := vcells_at hi
  refine ⟨?_, ?_, ?_, ?_⟩
  · rw [cell_of_row w g _ _ _ _ h, ← q1]; simp
  · rw [cell_of_row w g _ _ _ _ h, ← q2]; simp
  · rw [cell_of_row w g _ _ _ _ h, ← q3]; simp
  · rw [cell_of_row w g _ _ _ _ h, ← q4]; simp

/-! ### what the awake calls tell -/
def sawkT0 : TZ := ⟨⟨#[98, 117, 121]⟩, [⟨⟨#[112, 114, 105, 99, 101]⟩, 1⟩, ⟨⟨#[119, 104, 111]⟩, 4⟩]⟩
def sawkT1 : TZ := ⟨⟨#[115, 116, 111, 112]⟩, []⟩
def sawkL : List TZ := [sawkT0, sawkT1]
def sawkS : ByteArray := ⟨#[98, 117, 121, 32, 112, 114, 105, 99, 101, 58, 105, 110, 116, 32, 119, 104, 111, 58, 116, 101, 120, 116, 10, 115, 116, 111, 112, 10]⟩
theorem sa_parse : parseZ sawkS.data.toList = (sawkL, 0) := by kernel_rfl
theorem sa_twice : parseZ (⟨#[98, 117, 121, 32, 112, 114, 105, 99, 101, 58, 105, 110, 116, 32, 112, 114, 105, 99, 101, 58, 102, 108, 97, 103, 10]⟩ : ByteArray).data.toList = ([], 21) := by kernel_rfl
theorem sa_form : parseZ (⟨#[98, 117, 121]⟩ : ByteArray).data.toList = ([], 4) := by kernel_rfl
theorem sa_text : (ofTextV ⟨#[97]⟩).v = vv 4 0 0 ⟨#[97]⟩ := by kernel_rfl
theorem sa_at : atZ ⟨#[119, 104, 111]⟩ 0 sawkT0.f = (1, 4) := by kernel_rfl
theorem sa_find : (findZ ⟨#[115, 101, 108, 108]⟩ sawkL).2 = false := by kernel_rfl
theorem sa_fits1 : fitsZ sawkT0.f [⟨1, 1, 0, noText⟩, ⟨4, 0, 0, ⟨#[97]⟩⟩] = 0 := by kernel_rfl
theorem sa_fits2 : fitsZ sawkT0.f [⟨4, 0, 0, ⟨#[97]⟩⟩, ⟨1, 1, 0, noText⟩] = 19 := by kernel_rfl
theorem sa_print : bytesA (printZ sawkL) = sawkS := by kernel_rfl
theorem sa_name1 : nameZ ⟨#[97, 95, 49]⟩ = true := by kernel_rfl
theorem sa_name2 : nameZ ⟨#[119, 105, 116, 104, 105, 110]⟩ = false := by kernel_rfl
theorem sa_res : reservedZ ⟨#[98, 121]⟩ = true := by kernel_rfl
theorem sawk_small0 : TypeSmall sawkT0 := ⟨by decide, by decide, fun f hf => by
  rcases List.mem_cons.1 hf with rfl | hf
  · exact ⟨by decide, by decide⟩
  · rcases List.mem_cons.1 hf with rfl | hf
    · exact ⟨by decide, by decide⟩
    · cases hf⟩
theorem sawk_small1 : TypeSmall sawkT1 := ⟨by decide, by decide, fun f hf => by cases hf⟩
theorem sawk_smallL : TypesSmall sawkL := ⟨by decide, fun t ht => by
  rcases List.mem_cons.1 ht with rfl | ht
  · exact sawk_small0
  · rcases List.mem_cons.1 ht with rfl | ht
    · exact sawk_small1
    · cases ht⟩
theorem sawk_ok1 : ValsOk [⟨1, 1, 0, noText⟩, ⟨4, 0, 0, ⟨#[97]⟩⟩] := fun v hv => by
  rcases List.mem_cons.1 hv with rfl | hv
  · exact ⟨by decide, by decide, by decide, by decide, by decide⟩
  · rcases List.mem_cons.1 hv with rfl | hv
    · exact ⟨by decide, by decide, by decide, by decide, by decide⟩
    · cases hv
theorem sawk_ok2 : ValsOk [⟨4, 0, 0, ⟨#[97]⟩⟩, ⟨1, 1, 0, noText⟩] := fun v hv => by
  rcases List.mem_cons.1 hv with rfl | hv
  · exact ⟨by decide, by decide, by decide, by decide, by decide⟩
  · rcases List.mem_cons.1 hv with rfl | hv
    · exact ⟨by decide, by decide, by decide, by decide, by decide⟩
    · cases hv

/-- what the slots of the region hold -/
def sawkG (g o c c0 c1 : Nat) (A0 A1 : Option Addr) : Nat → Value → World → Prop
  | 0, v, _ => v = .int .i64 21
  | 1, v, _ => v = .bool true
  | 2, v, _ => v = .bool true
  | 3, v, _ => v = .int .i64 4
  | 4, v, _ => v = .bool true
  | 5, v, _ => v = .bool true
  | 6, v, _ => v = .bool true
  | 7, v, _ => v = .int .i64 1
  | 8, v, _ => v = .bool true
  | 9, v, _ => v = .bool true
  | 10, v, _ => v = .bool true
  | 11, v, _ => v = .int .u8 4
  | 12, v, _ => v = .bool true
  | 13, v, _ => v = .bool true
  | 14, v, _ => v = .bool true
  | 15, v, _ => v = .bool false
  | 16, v, _ => v = .bool true
  | 17, v, _ => v = .bool true
  | 18, v, _ => v = .bool true
  | 19, v, _ => v = .slice (some ⟨g, o, none⟩) 2 c
  | 20, v, _ => v = .pointer (some ⟨g, o, none⟩)
  | 21, v, _ => v = .agg #[.string ⟨#[98, 117, 121]⟩, .slice A0 2 c0]
  | 22, v, _ => v = vv 1 1 0 noText
  | 23, v, _ => v = vv 4 0 0 ⟨#[97]⟩
  | 24, v, w => ValsAt w v [⟨1, 1, 0, noText⟩, ⟨4, 0, 0, ⟨#[97]⟩⟩]
  | 25, v, _ => v = .int .i64 0
  | 26, v, _ => v = .bool true
  | 27, v, _ => v = .bool true
  | 28, v, _ => v = .bool true
  | 29, v, _ => v = .slice (some ⟨g, o, none⟩) 2 c
  | 30, v, _ => v = .pointer (some ⟨g, o, none⟩)
  | 31, v, _ => v = .agg #[.string ⟨#[98, 117, 121]⟩, .slice A0 2 c0]
  | 32, v, _ => v = vv 4 0 0 ⟨#[97]⟩
  | 33, v, _ => v = vv 1 1 0 noText
  | 34, v, w => ValsAt w v [⟨4, 0, 0, ⟨#[97]⟩⟩, ⟨1, 1, 0, noText⟩]
  | 35, v, _ => v = .int .i64 19
  | 36, v, _ => v = .bool true
  | 37, v, _ => v = .bool true
  | 38, v, _ => v = .bool true
  | 39, v, _ => v = .slice (some ⟨g, o, none⟩) 2 c
  | 40, v, _ => v = .pointer (some ⟨g, o + 2, none⟩)
  | 41, v, _ => v = .agg #[.string ⟨#[115, 116, 111, 112]⟩, .slice A1 0 c1]
  | 42, v, _ => v = .int .i64 0
  | 43, v, _ => v = .bool true
  | 44, v, _ => v = .bool true
  | 45, v, _ => v = .bool true
  | 46, v, _ => v = .slice (some ⟨g, o, none⟩) 2 c
  | 47, v, _ => v = .string ⟨#[98, 117, 121, 32, 112, 114, 105, 99, 101, 58, 105, 110, 116, 32, 119, 104, 111, 58, 116, 101, 120, 116, 10, 115, 116, 111, 112, 10]⟩
  | 48, v, _ => v = .bool true
  | 49, v, _ => v = .bool true
  | 50, v, _ => v = .bool true
  | 51, v, _ => v = .bool true
  | 52, v, _ => v = .bool true
  | 53, v, _ => v = .bool true
  | 54, v, _ => v = .bool false
  | 55, v, _ => v = .bool true
  | 56, v, _ => v = .bool true
  | 57, v, _ => v = .bool true
  | 58, v, _ => v = .bool true
  | 59, v, _ => v = .bool true
  | 60, v, _ => v = .bool true
  | 61, v, _ => v = .bool true
  | 62, v, _ => v = .bool true
  | _, _, _ => True
theorem sawkG_st (g o c c0 c1 : Nat) (A0 A1 : Option Addr) : ∀ i9 z9 x9 y9, sawkG g o c c0 c1 A0 A1 i9 z9 x9 → Ext x9 y9 → sawkG g o c c0 c1 A0 A1 i9 z9 y9 := by
  intro i9 z9 x9 y9 h e
  unfold sawkG at *
  split at h <;> first | exact h | trivial | exact ValsAt.ext h e | exact fun h9 => ValsAt.ext (h h9) e

set_option maxRecDepth 100000 in
set_option maxHeartbeats 8000000 in
theorem sawake_any (w : World) : Calls Try.prog 8 #[] w (Says w (.bool true)) := by
  have k1 := fun W => sparse_any sawkS W (by decide)
  have k2 := fun W => sparse_any ⟨#[98, 117, 121, 32, 112, 114, 105, 99, 101, 58, 105, 110, 116, 32, 112, 114, 105, 99, 101, 58, 102, 108, 97, 103, 10]⟩ W (by decide)
  have k3 := fun W => sparse_any ⟨#[98, 117, 121]⟩ W (by decide)
  rw [sa_parse] at k1
  rw [sa_twice] at k2
  rw [sa_form] at k3
  unfold sawkS at k1
  go_enter Try.func8, Try.ntmps8
  go_wp2_with fail
  refine (k1 _).mono ?_
  rintro e w1 ⟨v1, rfl, ht, hx⟩
  have HX := hid hx
  have HT := hid ht
  clear hx
  go_wp2_with fail
  refine (k2 _).mono ?_
  rintro e w2 ⟨v2, rfl, ht2, hx⟩
  obtain ⟨A2, c2, rfl, _, _, _⟩ := ht2
  replace HX := hid (HX.out.trans hx)
  replace HT := hid (HT.out.ext hx)
  clear hx
  go_wp2_with fail
  refine (k3 _).mono ?_
  rintro e w3 ⟨v3, rfl, ht3, hx⟩
  obtain ⟨A3, c3, rfl, _, _, _⟩ := ht3
  replace HX := hid (HX.out.trans hx)
  replace HT := hid (HT.out.ext hx)
  clear hx k1 k2 k3 ht
  obtain ⟨g, o, c, r0, hv1, hc1, hc2, x0, x1, hf0⟩ := HT.out.open_ (i := 0) (by decide)
  replace hv1 : v1 = .slice (some ⟨g, o, none⟩) 2 c := hv1
  subst hv1
  obtain ⟨g', o', c', r1, e1, _, _, x2, x3, hf1⟩ := HT.out.open_ (i := 1) (by decide)
  replace e1 : Value.slice (some ⟨g, o, none⟩) 2 c = .slice (some ⟨g', o', none⟩) 2 c' := e1
  obtain ⟨⟨rfl, rfl⟩, rfl⟩ : (g = g' ∧ o = o') ∧ c = c' := by simpa using e1
  have HF0 := hid hf0
  have HF1 := hid hf1
  obtain ⟨A0, c0, rfl, _, _, _⟩ := hf0
  obtain ⟨A1, c1, rfl, _, _, _⟩ := hf1
  replace x0 : w3.cell? ⟨g, o, none⟩ = some (.string ⟨#[98, 117, 121]⟩) := x0
  replace x1 : w3.cell? ⟨g, o + 1, none⟩ = some (.slice A0 2 c0) := x1
  replace x2 : w3.cell? ⟨g, o + 2, none⟩ = some (.string ⟨#[115, 116, 111, 112]⟩) := x2
  replace x3 : w3.cell? ⟨g, o + 2 + 1, none⟩ = some (.slice A1 0 c1) := x3
  have HF0' : Hid (FieldsAt w3 (.slice A0 2 c0) sawkT0.f) := HF0
  have HF1' : Hid (FieldsAt w3 (.slice A1 0 c1) sawkT1.f) := HF1
  have HT' : Hid (TypesAt w3 (.slice (some ⟨g, o, none⟩) 2 c) sawkL) := HT
  clear HF0 HF1 HT e1
  have HF0 := HF0'
  have HF1 := HF1'
  have HT := HT'
  clear HF0' HF1' HT'
  have kf := fun W (h : Ext w3 W) => sfield_any sawkT0 (.slice A0 2 c0) ⟨#[119, 104, 111]⟩ W (HF0.out.ext h) sawk_small0 (by decide)
  rw [sa_at] at kf
  have kd := fun W (h : Ext w3 W) => sfind_any sawkL (.slice (some ⟨g, o, none⟩) 2 c) ⟨#[115, 101, 108, 108]⟩ W (HT.out.ext h) sawk_smallL (by decide)
  have hsf := sa_find
  generalize findZ ⟨#[115, 101, 108, 108]⟩ sawkL = FZ9 at *
  obtain ⟨T9, B9⟩ := FZ9
  dsimp only at hsf
  subst hsf
  go_wp2_with fail
  refine (kf _ (Ext.refl _)).mono ?_
  rintro e w4 ⟨rfl, hx4⟩
  go_wp2_with fail
  refine (kd _ hx4).mono ?_
  rintro e w5 ⟨v9, rfl, ⟨r9, rfl, hf9⟩, hx5⟩
  obtain ⟨A9, c9, rfl, _, _, _⟩ := hf9
  obtain ⟨n9, f9⟩ := T9
  dsimp only at *
  have hx := hx4.trans hx5
  clear kf kd hx4 hx5
  go_wp2_with fail
  replace hx := hx.then_alloc (Obj.cells #[.string n9, .slice A9 f9.length c9] 30 (0, 0))
  replace HX := hid (HX.out.trans hx)
  replace HF0 := hid (HF0.out.ext hx)
  replace HF1 := hid (HF1.out.ext hx)
  replace HT := hid (HT.out.ext hx)
  replace x0 := hx.cell x0
  replace x1 := hx.cell x1
  replace x2 := hx.cell x2
  replace x3 := hx.cell x3
  clear hx
  obtain ⟨w6, hw6⟩ : ∃ w6, w6 = w5.alloc (Obj.cells #[.string n9, .slice A9 f9.length c9] 30 (0, 0)) := ⟨_, rfl⟩
  rw [← hw6] at HX HF0 HF1 HT x0 x1 x2 x3 ⊢
  clear hw6
  refine wp_region_slots Ext (sawkG g o c c0 c1 A0 A1) (by kernel_rfl) Ext.trans Ext.refl (Ext.drew _) (sawkG_st _ _ _ _ _ _ _) (by kernel_rfl) ?_ ?_
  · intro tmps wr hle hfr j o9 ho hty
    have h1 : tmps[1]?.getD undef = .slice (some ⟨g, o, none⟩) 2 c := hfr 1 (by kernel_rfl)
    have h2 : tmps[2]?.getD undef = .int .i64 0 := hfr 2 (by kernel_rfl)
    have h4 : tmps[4]?.getD undef = .int .i64 21 := hfr 4 (by kernel_rfl)
    have h6 : tmps[6]?.getD undef = .int .i64 4 := hfr 6 (by kernel_rfl)
    have h7 : tmps[7]?.getD undef = .int .i64 1 := hfr 7 (by kernel_rfl)
    have h8 : tmps[8]?.getD undef = .int .u8 4 := hfr 8 (by kernel_rfl)
    have h10 : tmps[10]?.getD undef = .bool false := hfr 10 (by kernel_rfl)
    have y0 := hle.cell x0
    have y1 := hle.cell x1
    have y2 := hle.cell x2
    have y3 := hle.cell x3
    clear hfr
    match j, ho with
    | 0, ho =>
      obtain rfl := (Option.some.inj ho)
      clear hty ho
      refine step_pure (.int .i64 21) (wanted_free rfl) ?_ (Ext.refl _) rfl
      simp [execOp, Act.eval, h4, go_sem]
    | 1, ho =>
      have h58 : tmps[58]?.getD undef = .int .i64 21 := hty 0 58 rfl (by obtain rfl := (Option.some.inj ho); rfl)
      obtain rfl := (Option.some.inj ho)
      clear hty ho
      refine step_pure (.bool true) (wanted_free rfl) ?_ (Ext.refl _) rfl
      simp [execOp, Act.eval, h58, go_sem]
    | 2, ho =>
      have h59 : tmps[59]?.getD undef = .bool true := hty 1 59 rfl (by obtain rfl := (Option.some.inj ho); rfl)
      obtain rfl := (Option.some.inj ho)
      clear hty ho
      refine step_pure (.bool true) (wanted_free rfl) ?_ (Ext.refl _) rfl
      simp [execOp, Act.eval, h59, go_sem]
    | 3, ho =>
      have h60 : tmps[60]?.getD undef = .bool true := hty 2 60 rfl (by obtain rfl := (Option.some.inj ho); rfl)
      obtain rfl := (Option.some.inj ho)
      clear hty ho
      refine step_pure (.int .i64 4) (wanted_guard rfl rfl h60) ?_ (Ext.refl _) rfl
      simp [execOp, Act.eval, h6, go_sem]
    | 4, ho =>
      have h61 : tmps[61]?.getD undef = .int .i64 4 := hty 3 61 rfl (by obtain rfl := (Option.some.inj ho); rfl)
      have h60 : tmps[60]?.getD undef = .bool true := hty 2 60 rfl (by obtain rfl := (Option.some.inj ho); rfl)
      obtain rfl := (Option.some.inj ho)
      clear hty ho
      refine step_pure (.bool true) (wanted_guard rfl rfl h60) ?_ (Ext.refl _) rfl
      simp [execOp, Act.eval, h61, go_sem]
    | 5, ho =>
      have h60 : tmps[60]?.getD undef = .bool true := hty 2 60 rfl (by obtain rfl := (Option.some.inj ho); rfl)
      have h62 : tmps[62]?.getD undef = .bool true := hty 4 62 rfl (by obtain rfl := (Option.some.inj ho); rfl)
      obtain rfl := (Option.some.inj ho)
      clear hty ho
      refine step_pure (.bool true) (wanted_free rfl) ?_ (Ext.refl _) rfl
      simp [execOp, Act.eval, h60, h62, go_sem]
    | 6, ho =>
      have h63 : tmps[63]?.getD undef = .bool true := hty 5 63 rfl (by obtain rfl := (Option.some.inj ho); rfl)
      obtain rfl := (Option.some.inj ho)
      clear hty ho
      refine step_pure (.bool true) (wanted_free rfl) ?_ (Ext.refl _) rfl
      simp [execOp, Act.eval, h63, go_sem]
    | 7, ho =>
      have h64 : tmps[64]?.getD undef = .bool true := hty 6 64 rfl (by obtain rfl := (Option.some.inj ho); rfl)
      obtain rfl := (Option.some.inj ho)
      clear hty ho
      refine step_pure (.int .i64 1) (wanted_guard rfl rfl h64) ?_ (Ext.refl _) rfl
      simp [execOp, Act.eval, h7, go_sem]
    | 8, ho =>
      have h65 : tmps[65]?.getD undef = .int .i64 1 := hty 7 65 rfl (by obtain rfl := (Option.some.inj ho); rfl)
      have h64 : tmps[64]?.getD undef = .bool true := hty 6 64 rfl (by obtain rfl := (Option.some.inj ho); rfl)
      obtain rfl := (Option.some.inj ho)
      clear hty ho
      refine step_pure (.bool true) (wanted_guard rfl rfl h64) ?_ (Ext.refl _) rfl
      simp [execOp, Act.eval, h65, go_sem]
    | 9, ho =>
      have h64 : tmps[64]?.getD undef = .bool true := hty 6 64 rfl (by obtain rfl := (Option.some.inj ho); rfl)
      have h66 : tmps[66]?.getD undef = .bool true := hty 8 66 rfl (by obtain rfl := (Option.some.inj ho); rfl)
      obtain rfl := (Option.some.inj ho)
      clear hty ho
      refine step_pure (.bool true) (wanted_free rfl) ?_ (Ext.refl _) rfl
      simp [execOp, Act.eval, h64, h66, go_sem]
    | 10, ho =>
      have h67 : tmps[67]?.getD undef = .bool true := hty 9 67 rfl (by obtain rfl := (Option.some.inj ho); rfl)
      obtain rfl := (Option.some.inj ho)
      clear hty ho
      refine step_pure (.bool true) (wanted_free rfl) ?_ (Ext.refl _) rfl
      simp [execOp, Act.eval, h67, go_sem]
    | 11, ho =>
      have h68 : tmps[68]?.getD undef = .bool true := hty 10 68 rfl (by obtain rfl := (Option.some.inj ho); rfl)
      obtain rfl := (Option.some.inj ho)
      clear hty ho
      refine step_pure (.int .u8 4) (wanted_guard rfl rfl h68) ?_ (Ext.refl _) rfl
      simp [execOp, Act.eval, h8, go_sem]
    | 12, ho =>
      have h69 : tmps[69]?.getD undef = .int .u8 4 := hty 11 69 rfl (by obtain rfl := (Option.some.inj ho); rfl)
      have h68 : tmps[68]?.getD undef = .bool true := hty 10 68 rfl (by obtain rfl := (Option.some.inj ho); rfl)
      obtain rfl := (Option.some.inj ho)
      clear hty ho
      refine step_pure (.bool true) (wanted_guard rfl rfl h68) ?_ (Ext.refl _) rfl
      simp [execOp, Act.eval, h69, go_sem]
    | 13, ho =>
      have h68 : tmps[68]?.getD undef = .bool true := hty 10 68 rfl (by obtain rfl := (Option.some.inj ho); rfl)
      have h70 : tmps[70]?.getD undef = .bool true := hty 12 70 rfl (by obtain rfl := (Option.some.inj ho); rfl)
      obtain rfl := (Option.some.inj ho)
      clear hty ho
      refine step_pure (.bool true) (wanted_free rfl) ?_ (Ext.refl _) rfl
      simp [execOp, Act.eval, h68, h70, go_sem]
    | 14, ho =>
      have h71 : tmps[71]?.getD undef = .bool true := hty 13 71 rfl (by obtain rfl := (Option.some.inj ho); rfl)
      obtain rfl := (Option.some.inj ho)
      clear hty ho
      refine step_pure (.bool true) (wanted_free rfl) ?_ (Ext.refl _) rfl
      simp [execOp, Act.eval, h71, go_sem]
    | 15, ho =>
      have h72 : tmps[72]?.getD undef = .bool true := hty 14 72 rfl (by obtain rfl := (Option.some.inj ho); rfl)
      obtain rfl := (Option.some.inj ho)
      clear hty ho
      refine step_pure (.bool false) (wanted_guard rfl rfl h72) ?_ (Ext.refl _) rfl
      simp [execOp, Act.eval, h10, go_sem]
    | 16, ho =>
      have h73 : tmps[73]?.getD undef = .bool false := hty 15 73 rfl (by obtain rfl := (Option.some.inj ho); rfl)
      have h72 : tmps[72]?.getD undef = .bool true := hty 14 72 rfl (by obtain rfl := (Option.some.inj ho); rfl)
      obtain rfl := (Option.some.inj ho)
      clear hty ho
      refine step_pure (.bool true) (wanted_guard rfl rfl h72) ?_ (Ext.refl _) rfl
      simp [execOp, Act.eval, h73, go_sem]
    | 17, ho =>
      have h72 : tmps[72]?.getD undef = .bool true := hty 14 72 rfl (by obtain rfl := (Option.some.inj ho); rfl)
      have h74 : tmps[74]?.getD undef = .bool true := hty 16 74 rfl (by obtain rfl := (Option.some.inj ho); rfl)
      obtain rfl := (Option.some.inj ho)
      clear hty ho
      refine step_pure (.bool true) (wanted_free rfl) ?_ (Ext.refl _) rfl
      simp [execOp, Act.eval, h72, h74, go_sem]
    | 18, ho =>
      have h75 : tmps[75]?.getD undef = .bool true := hty 17 75 rfl (by obtain rfl := (Option.some.inj ho); rfl)
      obtain rfl := (Option.some.inj ho)
      clear hty ho
      refine step_pure (.bool true) (wanted_free rfl) ?_ (Ext.refl _) rfl
      simp [execOp, Act.eval, h75, go_sem]
    | 19, ho =>
      have h76 : tmps[76]?.getD undef = .bool true := hty 18 76 rfl (by obtain rfl := (Option.some.inj ho); rfl)
      obtain rfl := (Option.some.inj ho)
      clear hty ho
      refine step_pure (.slice (some ⟨g, o, none⟩) 2 c) (wanted_guard rfl rfl h76) ?_ (Ext.refl _) rfl
      simp [execOp, Act.eval, h1, go_sem]
    | 20, ho =>
      have h77 : tmps[77]?.getD undef = .slice (some ⟨g, o, none⟩) 2 c := hty 19 77 rfl (by obtain rfl := (Option.some.inj ho); rfl)
      have h76 : tmps[76]?.getD undef = .bool true := hty 18 76 rfl (by obtain rfl := (Option.some.inj ho); rfl)
      obtain rfl := (Option.some.inj ho)
      clear hty ho
      refine step_pure (.pointer (some ⟨g, o, none⟩)) (wanted_guard rfl rfl h76) ?_ (Ext.refl _) rfl
      simp [execOp, Act.eval, h77, go_sem]
    | 21, ho =>
      have h78 : tmps[78]?.getD undef = .pointer (some ⟨g, o, none⟩) := hty 20 78 rfl (by obtain rfl := (Option.some.inj ho); rfl)
      have h76 : tmps[76]?.getD undef = .bool true := hty 18 76 rfl (by obtain rfl := (Option.some.inj ho); rfl)
      obtain rfl := (Option.some.inj ho)
      clear hty ho
      refine step_pure (.agg #[.string ⟨#[98, 117, 121]⟩, .slice A0 2 c0]) (wanted_guard rfl rfl h76) ?_ (Ext.refl _) rfl
      simp [execOp, Act.eval, h78, y0, y1, go_sem]
    | 22, ho =>
      have h76 : tmps[76]?.getD undef = .bool true := hty 18 76 rfl (by obtain rfl := (Option.some.inj ho); rfl)
      obtain rfl := (Option.some.inj ho)
      clear hty ho
      refine step_call 31 #[.int .i64 1] (wanted_guard rfl rfl h76) ?_ ?_
      · simp [execOp, Act.eval, go_sem]
      · exact (vofint_any 1 _ (by decide) (by decide)).mono fun e w' ⟨h1, h2⟩ => ⟨_, h1, h2, rfl⟩
    | 23, ho =>
      have h76 : tmps[76]?.getD undef = .bool true := hty 18 76 rfl (by obtain rfl := (Option.some.inj ho); rfl)
      obtain rfl := (Option.some.inj ho)
      clear hty ho
      refine step_call 32 #[.string ⟨#[97]⟩] (wanted_guard rfl rfl h76) ?_ ?_
      · simp [execOp, Act.eval, go_sem]
      · exact (voftext_any ⟨#[97]⟩ _ (by decide)).mono fun e w' ⟨h1, h2⟩ => ⟨_, h1, h2, by rw [sa_text]; rfl⟩
    | 24, ho =>
      have h80 : tmps[80]?.getD undef = vv 1 1 0 noText := hty 22 80 rfl (by obtain rfl := (Option.some.inj ho); rfl)
      have h81 : tmps[81]?.getD undef = vv 4 0 0 ⟨#[97]⟩ := hty 23 81 rfl (by obtain rfl := (Option.some.inj ho); rfl)
      have h76 : tmps[76]?.getD undef = .bool true := hty 18 76 rfl (by obtain rfl := (Option.some.inj ho); rfl)
      obtain rfl := (Option.some.inj ho)
      clear hty ho
      refine step_make (.slice (some ⟨wr.heap.size, 0, none⟩) 2 2) (wr.alloc (Obj.cells (vcells [⟨1, 1, 0, noText⟩, ⟨4, 0, 0, ⟨#[97]⟩⟩]).toArray 67 (0, 0))) (wanted_guard rfl rfl h76) ?_ (Ext.alloc _ _) ?_
      · simp [execOp, Act.eval, h80, h81, vv, noText, vcells, go_sem]
      · exact ValsAt.of_block (V := [⟨1, 1, 0, noText⟩, ⟨4, 0, 0, ⟨#[97]⟩⟩]) (heap_alloc_new wr _) (by unfold maxLen; decide)
    | 25, ho =>
      have h79 : tmps[79]?.getD undef = .agg #[.string ⟨#[98, 117, 121]⟩, .slice A0 2 c0] := hty 21 79 rfl (by obtain rfl := (Option.some.inj ho); rfl)
      have h82 : ValsAt wr (tmps[82]?.getD undef) [⟨1, 1, 0, noText⟩, ⟨4, 0, 0, ⟨#[97]⟩⟩] := hty 24 82 rfl (by obtain rfl := (Option.some.inj ho); rfl)
      have h76 : tmps[76]?.getD undef = .bool true := hty 18 76 rfl (by obtain rfl := (Option.some.inj ho); rfl)
      obtain rfl := (Option.some.inj ho)
      clear hty ho
      refine step_call 26 #[.agg #[.string ⟨#[98, 117, 121]⟩, .slice A0 2 c0], tmps[82]?.getD undef] (wanted_guard rfl rfl h76) ?_ ?_
      · simp [execOp, Act.eval, h79, go_sem]
      · exact (sfits_any sawkT0 [⟨1, 1, 0, noText⟩, ⟨4, 0, 0, ⟨#[97]⟩⟩] _ _ _ (HF0.out.ext hle) h82 sawk_small0 sawk_ok1 (by decide)).mono fun e w' ⟨h1, h2⟩ => ⟨_, h1, h2, by rw [sa_fits1]; rfl⟩
    | 26, ho =>
      have h83 : tmps[83]?.getD undef = .int .i64 0 := hty 25 83 rfl (by obtain rfl := (Option.some.inj ho); rfl)
      have h76 : tmps[76]?.getD undef = .bool true := hty 18 76 rfl (by obtain rfl := (Option.some.inj ho); rfl)
      obtain rfl := (Option.some.inj ho)
      clear hty ho
      refine step_pure (.bool true) (wanted_guard rfl rfl h76) ?_ (Ext.refl _) rfl
      simp [execOp, Act.eval, h83, go_sem]
    | 27, ho =>
      have h76 : tmps[76]?.getD undef = .bool true := hty 18 76 rfl (by obtain rfl := (Option.some.inj ho); rfl)
      have h84 : tmps[84]?.getD undef = .bool true := hty 26 84 rfl (by obtain rfl := (Option.some.inj ho); rfl)
      obtain rfl := (Option.some.inj ho)
      clear hty ho
      refine step_pure (.bool true) (wanted_free rfl) ?_ (Ext.refl _) rfl
      simp [execOp, Act.eval, h76, h84, go_sem]
    | 28, ho =>
      have h85 : tmps[85]?.getD undef = .bool true := hty 27 85 rfl (by obtain rfl := (Option.some.inj ho); rfl)
      obtain rfl := (Option.some.inj ho)
      clear hty ho
      refine step_pure (.bool true) (wanted_free rfl) ?_ (Ext.refl _) rfl
      simp [execOp, Act.eval, h85, go_sem]
    | 29, ho =>
      have h86 : tmps[86]?.getD undef = .bool true := hty 28 86 rfl (by obtain rfl := (Option.some.inj ho); rfl)
      obtain rfl := (Option.some.inj ho)
      clear hty ho
      refine step_pure (.slice (some ⟨g, o, none⟩) 2 c) (wanted_guard rfl rfl h86) ?_ (Ext.refl _) rfl
      simp [execOp, Act.eval, h1, go_sem]
    | 30, ho =>
      have h87 : tmps[87]?.getD undef = .slice (some ⟨g, o, none⟩) 2 c := hty 29 87 rfl (by obtain rfl := (Option.some.inj ho); rfl)
      have h86 : tmps[86]?.getD undef = .bool true := hty 28 86 rfl (by obtain rfl := (Option.some.inj ho); rfl)
      obtain rfl := (Option.some.inj ho)
      clear hty ho
      refine step_pure (.pointer (some ⟨g, o, none⟩)) (wanted_guard rfl rfl h86) ?_ (Ext.refl _) rfl
      simp [execOp, Act.eval, h87, go_sem]
    | 31, ho =>
      have h88 : tmps[88]?.getD undef = .pointer (some ⟨g, o, none⟩) := hty 30 88 rfl (by obtain rfl := (Option.some.inj ho); rfl)
      have h86 : tmps[86]?.getD undef = .bool true := hty 28 86 rfl (by obtain rfl := (Option.some.inj ho); rfl)
      obtain rfl := (Option.some.inj ho)
      clear hty ho
      refine step_pure (.agg #[.string ⟨#[98, 117, 121]⟩, .slice A0 2 c0]) (wanted_guard rfl rfl h86) ?_ (Ext.refl _) rfl
      simp [execOp, Act.eval, h88, y0, y1, go_sem]
    | 32, ho =>
      have h86 : tmps[86]?.getD undef = .bool true := hty 28 86 rfl (by obtain rfl := (Option.some.inj ho); rfl)
      obtain rfl := (Option.some.inj ho)
      clear hty ho
      refine step_call 32 #[.string ⟨#[97]⟩] (wanted_guard rfl rfl h86) ?_ ?_
      · simp [execOp, Act.eval, go_sem]
      · exact (voftext_any ⟨#[97]⟩ _ (by decide)).mono fun e w' ⟨h1, h2⟩ => ⟨_, h1, h2, by rw [sa_text]; rfl⟩
    | 33, ho =>
      have h86 : tmps[86]?.getD undef = .bool true := hty 28 86 rfl (by obtain rfl := (Option.some.inj ho); rfl)
      obtain rfl := (Option.some.inj ho)
      clear hty ho
      refine step_call 31 #[.int .i64 1] (wanted_guard rfl rfl h86) ?_ ?_
      · simp [execOp, Act.eval, go_sem]
      · exact (vofint_any 1 _ (by decide) (by decide)).mono fun e w' ⟨h1, h2⟩ => ⟨_, h1, h2, rfl⟩
    | 34, ho =>
      have h90 : tmps[90]?.getD undef = vv 4 0 0 ⟨#[97]⟩ := hty 32 90 rfl (by obtain rfl := (Option.some.inj ho); rfl)
      have h91 : tmps[91]?.getD undef = vv 1 1 0 noText := hty 33 91 rfl (by obtain rfl := (Option.some.inj ho); rfl)
      have h86 : tmps[86]?.getD undef = .bool true := hty 28 86 rfl (by obtain rfl := (Option.some.inj ho); rfl)
      obtain rfl := (Option.some.inj ho)
      clear hty ho
      refine step_make (.slice (some ⟨wr.heap.size, 0, none⟩) 2 2) (wr.alloc (Obj.cells (vcells [⟨4, 0, 0, ⟨#[97]⟩⟩, ⟨1, 1, 0, noText⟩]).toArray 67 (0, 0))) (wanted_guard rfl rfl h86) ?_ (Ext.alloc _ _) ?_
      · simp [execOp, Act.eval, h90, h91, vv, noText, vcells, go_sem]
      · exact ValsAt.of_block (V := [⟨4, 0, 0, ⟨#[97]⟩⟩, ⟨1, 1, 0, noText⟩]) (heap_alloc_new wr _) (by unfold maxLen; decide)
    | 35, ho =>
      have h89 : tmps[89]?.getD undef = .agg #[.string ⟨#[98, 117, 121]⟩, .slice A0 2 c0] := hty 31 89 rfl (by obtain rfl := (Option.some.inj ho); rfl)
      have h92 : ValsAt wr (tmps[92]?.getD undef) [⟨4, 0, 0, ⟨#[97]⟩⟩, ⟨1, 1, 0, noText⟩] := hty 34 92 rfl (by obtain rfl := (Option.some.inj ho); rfl)
      have h86 : tmps[86]?.getD undef = .bool true := hty 28 86 rfl (by obtain rfl := (Option.some.inj ho); rfl)
      obtain rfl := (Option.some.inj ho)
      clear hty ho
      refine step_call 26 #[.agg #[.string ⟨#[98, 117, 121]⟩, .slice A0 2 c0], tmps[92]?.getD undef] (wanted_guard rfl rfl h86) ?_ ?_
      · simp [execOp, Act.eval, h89, go_sem]
      · exact (sfits_any sawkT0 [⟨4, 0, 0, ⟨#[97]⟩⟩, ⟨1, 1, 0, noText⟩] _ _ _ (HF0.out.ext hle) h92 sawk_small0 sawk_ok2 (by decide)).mono fun e w' ⟨h1, h2⟩ => ⟨_, h1, h2, by rw [sa_fits2]; rfl⟩
    | 36, ho =>
      have h93 : tmps[93]?.getD undef = .int .i64 19 := hty 35 93 rfl (by obtain rfl := (Option.some.inj ho); rfl)
      have h86 : tmps[86]?.getD undef = .bool true := hty 28 86 rfl (by obtain rfl := (Option.some.inj ho); rfl)
      obtain rfl := (Option.some.inj ho)
      clear hty ho
      refine step_pure (.bool true) (wanted_guard rfl rfl h86) ?_ (Ext.refl _) rfl
      simp [execOp, Act.eval, h93, go_sem]
    | 37, ho =>
      have h86 : tmps[86]?.getD undef = .bool true := hty 28 86 rfl (by obtain rfl := (Option.some.inj ho); rfl)
      have h94 : tmps[94]?.getD undef = .bool true := hty 36 94 rfl (by obtain rfl := (Option.some.inj ho); rfl)
      obtain rfl := (Option.some.inj ho)
      clear hty ho
      refine step_pure (.bool true) (wanted_free rfl) ?_ (Ext.refl _) rfl
      simp [execOp, Act.eval, h86, h94, go_sem]
    | 38, ho =>
      have h95 : tmps[95]?.getD undef = .bool true := hty 37 95 rfl (by obtain rfl := (Option.some.inj ho); rfl)
      obtain rfl := (Option.some.inj ho)
      clear hty ho
      refine step_pure (.bool true) (wanted_free rfl) ?_ (Ext.refl _) rfl
      simp [execOp, Act.eval, h95, go_sem]
    | 39, ho =>
      have h96 : tmps[96]?.getD undef = .bool true := hty 38 96 rfl (by obtain rfl := (Option.some.inj ho); rfl)
      obtain rfl := (Option.some.inj ho)
      clear hty ho
      refine step_pure (.slice (some ⟨g, o, none⟩) 2 c) (wanted_guard rfl rfl h96) ?_ (Ext.refl _) rfl
      simp [execOp, Act.eval, h1, go_sem]
    | 40, ho =>
      have h97 : tmps[97]?.getD undef = .slice (some ⟨g, o, none⟩) 2 c := hty 39 97 rfl (by obtain rfl := (Option.some.inj ho); rfl)
      have h96 : tmps[96]?.getD undef = .bool true := hty 38 96 rfl (by obtain rfl := (Option.some.inj ho); rfl)
      obtain rfl := (Option.some.inj ho)
      clear hty ho
      refine step_pure (.pointer (some ⟨g, o + 2, none⟩)) (wanted_guard rfl rfl h96) ?_ (Ext.refl _) rfl
      simp [execOp, Act.eval, h97, go_sem]
    | 41, ho =>
      have h98 : tmps[98]?.getD undef = .pointer (some ⟨g, o + 2, none⟩) := hty 40 98 rfl (by obtain rfl := (Option.some.inj ho); rfl)
      have h96 : tmps[96]?.getD undef = .bool true := hty 38 96 rfl (by obtain rfl := (Option.some.inj ho); rfl)
      obtain rfl := (Option.some.inj ho)
      clear hty ho
      refine step_pure (.agg #[.string ⟨#[115, 116, 111, 112]⟩, .slice A1 0 c1]) (wanted_guard rfl rfl h96) ?_ (Ext.refl _) rfl
      simp [execOp, Act.eval, h98, y2, y3, go_sem]
    | 42, ho =>
      have h99 : tmps[99]?.getD undef = .agg #[.string ⟨#[115, 116, 111, 112]⟩, .slice A1 0 c1] := hty 41 99 rfl (by obtain rfl := (Option.some.inj ho); rfl)
      have h96 : tmps[96]?.getD undef = .bool true := hty 38 96 rfl (by obtain rfl := (Option.some.inj ho); rfl)
      obtain rfl := (Option.some.inj ho)
      clear hty ho
      refine step_call 26 #[.agg #[.string ⟨#[115, 116, 111, 112]⟩, .slice A1 0 c1], .slice none 0 0] (wanted_guard rfl rfl h96) ?_ ?_
      · simp [execOp, Act.eval, h99, go_sem]
      · exact (sfits_any sawkT1 [] _ _ _ (HF1.out.ext hle) (ValsAt.nil _) sawk_small1 (fun _ h => by cases h) (by decide)).mono fun e w' ⟨h1, h2⟩ => ⟨_, h1, h2, rfl⟩
    | 43, ho =>
      have h100 : tmps[100]?.getD undef = .int .i64 0 := hty 42 100 rfl (by obtain rfl := (Option.some.inj ho); rfl)
      have h96 : tmps[96]?.getD undef = .bool true := hty 38 96 rfl (by obtain rfl := (Option.some.inj ho); rfl)
      obtain rfl := (Option.some.inj ho)
      clear hty ho
      refine step_pure (.bool true) (wanted_guard rfl rfl h96) ?_ (Ext.refl _) rfl
      simp [execOp, Act.eval, h100, go_sem]
    | 44, ho =>
      have h96 : tmps[96]?.getD undef = .bool true := hty 38 96 rfl (by obtain rfl := (Option.some.inj ho); rfl)
      have h101 : tmps[101]?.getD undef = .bool true := hty 43 101 rfl (by obtain rfl := (Option.some.inj ho); rfl)
      obtain rfl := (Option.some.inj ho)
      clear hty ho
      refine step_pure (.bool true) (wanted_free rfl) ?_ (Ext.refl _) rfl
      simp [execOp, Act.eval, h96, h101, go_sem]
    | 45, ho =>
      have h102 : tmps[102]?.getD undef = .bool true := hty 44 102 rfl (by obtain rfl := (Option.some.inj ho); rfl)
      obtain rfl := (Option.some.inj ho)
      clear hty ho
      refine step_pure (.bool true) (wanted_free rfl) ?_ (Ext.refl _) rfl
      simp [execOp, Act.eval, h102, go_sem]
    | 46, ho =>
      have h103 : tmps[103]?.getD undef = .bool true := hty 45 103 rfl (by obtain rfl := (Option.some.inj ho); rfl)
      obtain rfl := (Option.some.inj ho)
      clear hty ho
      refine step_pure (.slice (some ⟨g, o, none⟩) 2 c) (wanted_guard rfl rfl h103) ?_ (Ext.refl _) rfl
      simp [execOp, Act.eval, h1, go_sem]
    | 47, ho =>
      have h104 : tmps[104]?.getD undef = .slice (some ⟨g, o, none⟩) 2 c := hty 46 104 rfl (by obtain rfl := (Option.some.inj ho); rfl)
      have h103 : tmps[103]?.getD undef = .bool true := hty 45 103 rfl (by obtain rfl := (Option.some.inj ho); rfl)
      obtain rfl := (Option.some.inj ho)
      clear hty ho
      refine step_call 16 #[.slice (some ⟨g, o, none⟩) 2 c] (wanted_guard rfl rfl h103) ?_ ?_
      · simp [execOp, Act.eval, h104, go_sem]
      · exact (sprint_any sawkL _ _ (HT.out.ext hle) sawk_smallL).mono fun e w' ⟨h1, h2⟩ => ⟨_, h1, h2, by rw [sa_print]; rfl⟩
    | 48, ho =>
      have h105 : tmps[105]?.getD undef = .string ⟨#[98, 117, 121, 32, 112, 114, 105, 99, 101, 58, 105, 110, 116, 32, 119, 104, 111, 58, 116, 101, 120, 116, 10, 115, 116, 111, 112, 10]⟩ := hty 47 105 rfl (by obtain rfl := (Option.some.inj ho); rfl)
      have h103 : tmps[103]?.getD undef = .bool true := hty 45 103 rfl (by obtain rfl := (Option.some.inj ho); rfl)
      obtain rfl := (Option.some.inj ho)
      clear hty ho
      refine step_pure (.bool true) (wanted_guard rfl rfl h103) ?_ (Ext.refl _) rfl
      simp [execOp, Act.eval, h105, go_sem]
    | 49, ho =>
      have h103 : tmps[103]?.getD undef = .bool true := hty 45 103 rfl (by obtain rfl := (Option.some.inj ho); rfl)
      have h106 : tmps[106]?.getD undef = .bool true := hty 48 106 rfl (by obtain rfl := (Option.some.inj ho); rfl)
      obtain rfl := (Option.some.inj ho)
      clear hty ho
      refine step_pure (.bool true) (wanted_free rfl) ?_ (Ext.refl _) rfl
      simp [execOp, Act.eval, h103, h106, go_sem]
    | 50, ho =>
      have h107 : tmps[107]?.getD undef = .bool true := hty 49 107 rfl (by obtain rfl := (Option.some.inj ho); rfl)
      obtain rfl := (Option.some.inj ho)
      clear hty ho
      refine step_pure (.bool true) (wanted_free rfl) ?_ (Ext.refl _) rfl
      simp [execOp, Act.eval, h107, go_sem]
    | 51, ho =>
      have h108 : tmps[108]?.getD undef = .bool true := hty 50 108 rfl (by obtain rfl := (Option.some.inj ho); rfl)
      obtain rfl := (Option.some.inj ho)
      clear hty ho
      refine step_call 21 #[.string ⟨#[97, 95, 49]⟩] (wanted_guard rfl rfl h108) ?_ ?_
      · simp [execOp, Act.eval, go_sem]
      · exact (sname_any _ _ (by decide)).mono fun e w' ⟨h1, h2⟩ => ⟨_, h1, h2, by rw [sa_name1]; rfl⟩
    | 52, ho =>
      have h108 : tmps[108]?.getD undef = .bool true := hty 50 108 rfl (by obtain rfl := (Option.some.inj ho); rfl)
      have h109 : tmps[109]?.getD undef = .bool true := hty 51 109 rfl (by obtain rfl := (Option.some.inj ho); rfl)
      obtain rfl := (Option.some.inj ho)
      clear hty ho
      refine step_pure (.bool true) (wanted_free rfl) ?_ (Ext.refl _) rfl
      simp [execOp, Act.eval, h108, h109, go_sem]
    | 53, ho =>
      have h110 : tmps[110]?.getD undef = .bool true := hty 52 110 rfl (by obtain rfl := (Option.some.inj ho); rfl)
      obtain rfl := (Option.some.inj ho)
      clear hty ho
      refine step_pure (.bool true) (wanted_free rfl) ?_ (Ext.refl _) rfl
      simp [execOp, Act.eval, h110, go_sem]
    | 54, ho =>
      have h111 : tmps[111]?.getD undef = .bool true := hty 53 111 rfl (by obtain rfl := (Option.some.inj ho); rfl)
      obtain rfl := (Option.some.inj ho)
      clear hty ho
      refine step_call 21 #[.string ⟨#[119, 105, 116, 104, 105, 110]⟩] (wanted_guard rfl rfl h111) ?_ ?_
      · simp [execOp, Act.eval, go_sem]
      · exact (sname_any _ _ (by decide)).mono fun e w' ⟨h1, h2⟩ => ⟨_, h1, h2, by rw [sa_name2]; rfl⟩
    | 55, ho =>
      have h112 : tmps[112]?.getD undef = .bool false := hty 54 112 rfl (by obtain rfl := (Option.some.inj ho); rfl)
      have h111 : tmps[111]?.getD undef = .bool true := hty 53 111 rfl (by obtain rfl := (Option.some.inj ho); rfl)
      obtain rfl := (Option.some.inj ho)
      clear hty ho
      refine step_pure (.bool true) (wanted_guard rfl rfl h111) ?_ (Ext.refl _) rfl
      simp [execOp, Act.eval, h112, go_sem]
    | 56, ho =>
      have h111 : tmps[111]?.getD undef = .bool true := hty 53 111 rfl (by obtain rfl := (Option.some.inj ho); rfl)
      have h113 : tmps[113]?.getD undef = .bool true := hty 55 113 rfl (by obtain rfl := (Option.some.inj ho); rfl)
      obtain rfl := (Option.some.inj ho)
      clear hty ho
      refine step_pure (.bool true) (wanted_free rfl) ?_ (Ext.refl _) rfl
      simp [execOp, Act.eval, h111, h113, go_sem]
    | 57, ho =>
      have h114 : tmps[114]?.getD undef = .bool true := hty 56 114 rfl (by obtain rfl := (Option.some.inj ho); rfl)
      obtain rfl := (Option.some.inj ho)
      clear hty ho
      refine step_pure (.bool true) (wanted_free rfl) ?_ (Ext.refl _) rfl
      simp [execOp, Act.eval, h114, go_sem]
    | 58, ho =>
      have h115 : tmps[115]?.getD undef = .bool true := hty 57 115 rfl (by obtain rfl := (Option.some.inj ho); rfl)
      obtain rfl := (Option.some.inj ho)
      clear hty ho
      refine step_call 23 #[.string ⟨#[98, 121]⟩] (wanted_guard rfl rfl h115) ?_ ?_
      · simp [execOp, Act.eval, go_sem]
      · exact (sreserved_any _ _ (by decide)).mono fun e w' ⟨h1, h2⟩ => ⟨_, h1, h2, by rw [sa_res]; rfl⟩
    | 59, ho =>
      have h115 : tmps[115]?.getD undef = .bool true := hty 57 115 rfl (by obtain rfl := (Option.some.inj ho); rfl)
      have h116 : tmps[116]?.getD undef = .bool true := hty 58 116 rfl (by obtain rfl := (Option.some.inj ho); rfl)
      obtain rfl := (Option.some.inj ho)
      clear hty ho
      refine step_pure (.bool true) (wanted_free rfl) ?_ (Ext.refl _) rfl
      simp [execOp, Act.eval, h115, h116, go_sem]
    | 60, ho =>
      have h117 : tmps[117]?.getD undef = .bool true := hty 59 117 rfl (by obtain rfl := (Option.some.inj ho); rfl)
      obtain rfl := (Option.some.inj ho)
      clear hty ho
      refine step_pure (.bool true) (wanted_free rfl) ?_ (Ext.refl _) rfl
      simp [execOp, Act.eval, h117, go_sem]
    | 61, ho =>
      have h118 : tmps[118]?.getD undef = .bool true := hty 60 118 rfl (by obtain rfl := (Option.some.inj ho); rfl)
      obtain rfl := (Option.some.inj ho)
      clear hty ho
      refine step_pure (.bool true) (wanted_free rfl) ?_ (Ext.refl _) rfl
      simp [execOp, Act.eval, h118, go_sem]
    | 62, ho =>
      have h119 : tmps[119]?.getD undef = .bool true := hty 61 119 rfl (by obtain rfl := (Option.some.inj ho); rfl)
      obtain rfl := (Option.some.inj ho)
      clear hty ho
      refine step_pure (.bool true) (wanted_free rfl) ?_ (Ext.refl _) rfl
      simp [execOp, Act.eval, h119, go_sem]
    | (j + 63), ho => exact absurd ho (by simp)
  · intro tmps w7 hle hs hfr hty
    have h0 : tmps[0]?.getD undef = .bool true := hty 62 0 rfl
    have hfe := frame_eq [58, 59, 60, 61, 62, 63, 64, 65, 66, 67, 68, 69, 70, 71, 72, 73, 74, 75, 76, 77, 78, 79, 80, 81, 82, 83, 84, 85, 86, 87, 88, 89, 90, 91, 92, 93, 94, 95, 96, 97, 98, 99, 100, 101, 102, 103, 104, 105, 106, 107, 108, 109, 110, 111, 112, 113, 114, 115, 116, 117, 118, 119, 0] hs hfr (by kernel_rfl)
    rw [hfe]
    clear hfe hfr hs hty
    simp only [List.foldl_cons, List.foldl_nil]
    generalize tmps[58]?.getD undef = x58
    generalize tmps[59]?.getD undef = x59
    generalize tmps[60]?.getD undef = x60
    generalize tmps[61]?.getD undef = x61
    generalize tmps[62]?.getD undef = x62
    generalize tmps[63]?.getD undef = x63
    generalize tmps[64]?.getD undef = x64
    generalize tmps[65]?.getD undef = x65
    generalize tmps[66]?.getD undef = x66
    generalize tmps[67]?.getD undef = x67
    generalize tmps[68]?.getD undef = x68
    generalize tmps[69]?.getD undef = x69
    generalize tmps[70]?.getD undef = x70
    generalize tmps[71]?.getD undef = x71
    generalize tmps[72]?.getD undef = x72
    generalize tmps[73]?.getD undef = x73
    generalize tmps[74]?.getD undef = x74
    generalize tmps[75]?.getD undef = x75
    generalize tmps[76]?.getD undef = x76
    generalize tmps[77]?.getD undef = x77
    generalize tmps[78]?.getD undef = x78
    generalize tmps[79]?.getD undef = x79
    generalize tmps[80]?.getD undef = x80
    generalize tmps[81]?.getD undef = x81
    generalize tmps[82]?.getD undef = x82
    generalize tmps[83]?.getD undef = x83
    generalize tmps[84]?.getD undef = x84
    generalize tmps[85]?.getD undef = x85
    generalize tmps[86]?.getD undef = x86
    generalize tmps[87]?.getD undef = x87
    generalize tmps[88]?.getD undef = x88
    generalize tmps[89]?.getD undef = x89
    generalize tmps[90]?.getD undef = x90
    generalize tmps[91]?.getD undef = x91
    generalize tmps[92]?.getD undef = x92
    generalize tmps[93]?.getD undef = x93
    generalize tmps[94]?.getD undef = x94
    generalize tmps[95]?.getD undef = x95
    generalize tmps[96]?.getD undef = x96
    generalize tmps[97]?.getD undef = x97
    generalize tmps[98]?.getD undef = x98
    generalize tmps[99]?.getD undef = x99
    generalize tmps[100]?.getD undef = x100
    generalize tmps[101]?.getD undef = x101
    generalize tmps[102]?.getD undef = x102
    generalize tmps[103]?.getD undef = x103
    generalize tmps[104]?.getD undef = x104
    generalize tmps[105]?.getD undef = x105
    generalize tmps[106]?.getD undef = x106
    generalize tmps[107]?.getD undef = x107
    generalize tmps[108]?.getD undef = x108
    generalize tmps[109]?.getD undef = x109
    generalize tmps[110]?.getD undef = x110
    generalize tmps[111]?.getD undef = x111
    generalize tmps[112]?.getD undef = x112
    generalize tmps[113]?.getD undef = x113
    generalize tmps[114]?.getD undef = x114
    generalize tmps[115]?.getD undef = x115
    generalize tmps[116]?.getD undef = x116
    generalize tmps[117]?.getD undef = x117
    generalize tmps[118]?.getD undef = x118
    generalize tmps[119]?.getD undef = x119
    rw [h0]
    clear h0
    simp only [List.setIfInBounds_toArray, List.set_cons_succ, List.set_cons_zero]
    replace HX := hid (HX.out.trans hle)
    clear hle
    go_wp2_with fail
    go_ret
    exact ⟨rfl, HX.out⟩
end Go.Proofs.Ytggafdimbddflaa
