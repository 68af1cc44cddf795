/- OctetLays: the walk. -/
import Derived.Test.YtekkmpahienaeaaOrf2
import Derived.Test.YtekkmpahienaeaaMem2
namespace Go.Proofs.Ytekkmpahienaeaa
open Go Go.RowKit

/-- what the slots of region 3 hold -/
def layG (A : Option Addr) (c b : Nat) (l : List UInt8) (n : Int) (u : Nat) : Nat → Value → World → Prop
  | 0, v, _ => ∃ g, v = .slice (some ⟨g, 0, none⟩) 0 0
  | 1, v, _ => v = .slice A l.length c
  | 2, v, w => Bytes w v l
  | 3, v, _ => v = .pointer (some ⟨b, 1, none⟩)
  | 4, v, _ => v = .int .i64 n
  | 5, v, _ => v = .int .u64 (u : Int)
  | 6, v, w => Bytes w v l
  | 7, v, _ => v = .int .u64 (u : Int)
  | _, _, _ => True
theorem layG_st (A : Option Addr) (c b : Nat) (l : List UInt8) (n : Int) (u : Nat) : ∀ k v x y, layG A c b l n u k v x → Ext x y → layG A c b l n u k v y := by
  intro k v x y h e
  unfold layG at *
  split at h <;> first | exact h | exact Bytes.ext h e

/-- what the slots of the region hold -/
def laysG (r9 r11 r13 r15 r7 r0 : Value) (E F : Int) (u : Nat) (X Y B : List UInt8) : Nat → Value → World → Prop
  | 0, v, _ => v = r9
  | 1, v, _ => v = .string ⟨(X).toArray⟩
  | 2, v, _ => v = r11
  | 3, v, _ => v = .string ⟨(X).toArray⟩
  | 4, v, _ => v = .bool true
  | 5, v, _ => v = .bool true
  | 6, v, _ => v = .int .i64 E
  | 7, v, _ => v = .int .i64 E
  | 8, v, _ => v = .bool true
  | 9, v, _ => v = .bool true
  | 10, v, _ => v = .bool true
  | 11, v, _ => v = r13
  | 12, v, _ => v = .string ⟨(Y).toArray⟩
  | 13, v, _ => v = r15
  | 14, v, _ => v = .string ⟨(Y).toArray⟩
  | 15, v, _ => v = .bool true
  | 16, v, _ => v = .bool true
  | 17, v, _ => v = .bool true
  | 18, v, _ => v = .int .i64 F
  | 19, v, _ => v = .int .i64 F
  | 20, v, _ => v = .bool true
  | 21, v, _ => v = .bool true
  | 22, v, _ => v = .bool true
  | 23, v, _ => v = r7
  | 24, v, _ => v = .int .u64 (u : Int)
  | 25, v, w => Bytes w v (B ++ be 8 u)
  | 26, v, _ => v = .string ⟨(B ++ be 8 u).toArray⟩
  | 27, v, _ => v = r0
  | 28, v, _ => v = .int .u64 (u : Int)
  | 29, v, w => Bytes w v (B ++ be 8 u)
  | 30, v, _ => v = .string ⟨(B ++ be 8 u).toArray⟩
  | 31, v, _ => v = .bool true
  | 32, v, _ => v = .bool true
  | 33, v, _ => v = .bool true
  | 34, v, _ => v = r7
  | 35, v, _ => v = .string ⟨(B).toArray⟩
  | 36, v, _ => v = r0
  | 37, v, _ => v = .string ⟨(B).toArray⟩
  | 38, v, _ => v = .bool true
  | 39, v, _ => v = .bool true
  | 40, v, _ => v = .bool true
  | 41, v, _ => v = .bool true
  | 42, v, _ => v = .bool true
  | 43, v, _ => v = .bool true
  | _, _, _ => True
theorem laysG_st (r9 r11 r13 r15 r7 r0 : Value) (E F : Int) (u : Nat) (X Y B : List UInt8) : ∀ k z x y, laysG r9 r11 r13 r15 r7 r0 E F u X Y B k z x → Ext x y → laysG r9 r11 r13 r15 r7 r0 E F u X Y B k z y := by
  intro k z x y h e
  unfold laysG at *
  split at h <;> first | exact h | exact Bytes.ext h e

set_option maxHeartbeats 400000 in
theorem lays_out (A : Option Addr) (l : List UInt8) (c : Nat) (k n : Int) (s : ByteArray) (w : World) (hlm : l.length ≤ maxLen) (hsm : s.size ≤ maxLen) (h : 100 < l.length ∨ 70000 < s.size) :
    Calls Try.prog 3 #[.slice A l.length c, .agg #[.int .i64 k, .int .i64 n], .string s] w (Says w (.bool true)) := by
  unfold maxLen at hlm hsm
  by_cases h1 : 100 < l.length
  · clear h
    go_enter Try.func3, Try.ntmps3
    go_wp2_with fail
    refine (awake_any _).mono ?_
    rintro e w4 ⟨rfl, hx⟩
    go_wp2_with fail
    go_ret
    exact ⟨rfl, (Ext.alloc w _).trans hx⟩
  · have h2 : 70000 < s.size := by omega
    clear h
    go_enter Try.func3, Try.ntmps3
    go_wp2_with fail
    refine (awake_any _).mono ?_
    rintro e w4 ⟨rfl, hx⟩
    go_wp2_with fail
    go_ret
    exact ⟨rfl, (Ext.alloc w _).trans hx⟩

set_option maxHeartbeats 4000000 in
theorem lays_in (A : Option Addr) (l : List UInt8) (c : Nat) (k n : Int) (s : ByteArray) (w : World) (hl : Lies w A (bvs l)) (hlc : l.length ≤ c) (hcm : c ≤ maxLen) (hl1 : l.length ≤ 100) (hs1 : s.size ≤ 70000)
    (_hn0 : -9223372036854775808 ≤ n) (hn : n ≤ 9223372036854775807) :
    Calls Try.prog 3 #[.slice A l.length c, .agg #[.int .i64 k, .int .i64 n], .string s] w (Says w (.bool true)) := by
  have hr0 : Bytes w (.slice A l.length c) l := ⟨A, c, rfl, hlc, hcm, hl⟩
  obtain ⟨u, hu, hul⟩ : ∃ u : Nat, IntKind.u64.wrap n = (u : Int) ∧ u ≤ 18446744073709551615 := by
    refine ⟨(n % 18446744073709551616).toNat, ?_, ?_⟩
    · rw [IntKind.wrap_u64]; omega
    · omega
  obtain ⟨X, hX⟩ : ∃ X, X = (numSpec l k n).1 := ⟨_, rfl⟩
  obtain ⟨E, hE⟩ : ∃ E, E = (numSpec l k n).2 := ⟨_, rfl⟩
  obtain ⟨Y, hY⟩ : ∃ Y, Y = (textSpec l s.data.toList).1 := ⟨_, rfl⟩
  obtain ⟨F, hF⟩ : ∃ F, F = (textSpec l s.data.toList).2 := ⟨_, rfl⟩
  have sp1 : numSpec l k n = (X, E) := by rw [hX, hE]
  have sp2 : textSpec l s.data.toList = (Y, F) := by rw [hY, hF]
  have SP1 := hid sp1
  have SP2 := hid sp2
  have HU := hid hu
  have H0 := hid hr0
  have HL := hid hl
  clear hX hE hY hF sp1 sp2 hr0 hl
  clear hu
  have hl2 : ¬ 100 < l.length := by omega
  have hs2 : ¬ 70000 < s.size := by omega
  go_enter Try.func3, Try.ntmps3
  go_wp2_with fail
  refine wp_region_slots Ext (layG A c w.heap.size l n u) (by kernel_rfl) Ext.trans Ext.refl (Ext.drew _) (layG_st _ _ _ _ _ _) (by kernel_rfl) ?_ ?_
  · intro tmps wr hle hfr j o ho hty
    have h0 : tmps[0]?.getD undef = .slice A l.length c := hfr 0 (by kernel_rfl)
    have h4 : tmps[4]?.getD undef = .pointer (some ⟨w.heap.size, 0, none⟩) := hfr 4 (by kernel_rfl)
    have hbx := hid (hle.block (heap_alloc_new w _))
    have hcell1 : wr.cell? ⟨w.heap.size, 1, none⟩ = some (.int .i64 n) := cell_of_row _ _ 1 _ _ _ hbx.out
    have hlr := hid (HL.out.ext ((Ext.alloc w _).trans hle))
    clear hfr
    match j, ho with
    | 0, ho =>
      obtain rfl := (Option.some.inj ho)
      clear hty ho
      refine step_make (.slice (some ⟨wr.heap.size, 0, none⟩) 0 0) (wr.alloc (.cells #[] 5)) (wanted_free rfl) ?_ (Ext.alloc _ _) ⟨_, rfl⟩
      simp [execOp, Act.eval, go_sem]
    | 1, ho =>
      obtain rfl := (Option.some.inj ho)
      clear hty ho
      refine step_pure (.slice A l.length c) (wanted_free rfl) ?_ (Ext.refl _) rfl
      simp [execOp, Act.eval, h0, go_sem]
    | 2, ho =>
      have h26 : ∃ g, tmps[26]?.getD undef = .slice (some ⟨g, 0, none⟩) 0 0 := hty 0 26 rfl (by obtain rfl := (Option.some.inj ho); rfl)
      have h27 : tmps[27]?.getD undef = .slice A l.length c := hty 1 27 rfl (by obtain rfl := (Option.some.inj ho); rfl)
      obtain rfl := (Option.some.inj ho)
      clear hty ho
      obtain ⟨g, h26⟩ := h26
      obtain ⟨v', w', hr, hb, hx⟩ := run_append_empty (P := Try.prog) wr 22 22 5 Try.underlying22 infoByte g A c l hlr.out (by omega)
      refine step_make v' w' (wanted_free rfl) ?_ hx hb
      simp [execOp, Act.eval, resolve, invoke, builtin, h26, h27, hr]
    | 3, ho =>
      obtain rfl := (Option.some.inj ho)
      clear hty ho
      refine step_pure (.pointer (some ⟨w.heap.size, 1, none⟩)) (wanted_free rfl) ?_ (Ext.refl _) rfl
      simp [execOp, Act.eval, h4, go_sem]
    | 4, ho =>
      have h29 : tmps[29]?.getD undef = .pointer (some ⟨w.heap.size, 1, none⟩) := hty 3 29 rfl (by obtain rfl := (Option.some.inj ho); rfl)
      obtain rfl := (Option.some.inj ho)
      clear hty ho
      refine step_pure (.int .i64 n) (wanted_free rfl) ?_ (Ext.refl _) rfl
      simp [execOp, Act.eval, h29, hcell1, go_sem]
    | 5, ho =>
      have h30 : tmps[30]?.getD undef = .int .i64 n := hty 4 30 rfl (by obtain rfl := (Option.some.inj ho); rfl)
      obtain rfl := (Option.some.inj ho)
      clear hty ho
      refine step_pure (.int .u64 (u : Int)) (wanted_free rfl) ?_ (Ext.refl _) rfl
      have hu := HU.out
      simp [execOp, Act.eval, h30, hu, go_sem]
    | 6, ho =>
      have h28 : Bytes wr (tmps[28]?.getD undef) l := hty 2 28 rfl (by obtain rfl := (Option.some.inj ho); rfl)
      obtain rfl := (Option.some.inj ho)
      clear hty ho
      refine step_pure (tmps[28]?.getD undef) (wanted_free rfl) ?_ (Ext.refl _) h28
      simp [execOp, Act.eval, go_sem]
    | 7, ho =>
      have h31 : tmps[31]?.getD undef = .int .u64 (u : Int) := hty 5 31 rfl (by obtain rfl := (Option.some.inj ho); rfl)
      obtain rfl := (Option.some.inj ho)
      clear hty ho
      refine step_pure (.int .u64 (u : Int)) (wanted_free rfl) ?_ (Ext.refl _) rfl
      simp [execOp, Act.eval, h31, go_sem]
    | (j + 8), ho => exact absurd ho (by simp)
  · intro tmps w3 hle hs hfr hty
    have h7 : Bytes w3 (tmps[7]?.getD undef) l := hty 6 7 rfl
    have h8 : tmps[8]?.getD undef = .int .u64 (u : Int) := hty 7 8 rfl
    have hfe := frame_eq [26, 27, 28, 29, 30, 31, 7, 8] hs hfr (by kernel_rfl)
    rw [hfe]
    clear hfe hfr hs hty
    simp only [List.foldl_cons, List.foldl_nil]
    generalize tmps[26]?.getD undef = x26
    generalize tmps[27]?.getD undef = x27
    generalize tmps[28]?.getD undef = x28
    generalize tmps[29]?.getD undef = x29
    generalize tmps[30]?.getD undef = x30
    generalize tmps[31]?.getD undef = x31
    generalize tmps[7]?.getD undef = r7 at h7 ⊢
    rw [h8]
    clear h8
    simp only [List.setIfInBounds_toArray, List.set_cons_succ, List.set_cons_zero]
    have hbx := hid (hle.block (heap_alloc_new w _))
    have HX := hid ((Ext.alloc w _).trans hle)
    have H7 := hid h7
    replace H0 := hid (H0.out.ext HX.out)
    clear hle HL h7
    have hcell0 : w3.cell? ⟨w.heap.size, 0, none⟩ = some (.int .i64 k) := cell_of_row _ _ 0 _ _ _ hbx.out
    have hcell1 : w3.cell? ⟨w.heap.size, 1, none⟩ = some (.int .i64 n) := cell_of_row _ _ 1 _ _ _ hbx.out
    go_wp2_with fail
    refine (num_at _ l k n _ _ SP1.out H7.out (by omega) hn).mono ?_
    rintro e w4 ⟨r9, rfl, ho, hx⟩
    have H9 := hid (Bytes.of_own ho)
    replace HX := hid (HX.out.trans hx)
    replace H7 := hid (H7.out.ext hx)
    replace H0 := hid (H0.out.ext hx)
    replace hcell0 := hx.cell hcell0
    replace hcell1 := hx.cell hcell1
    clear hx ho
    go_wp2_with fail
    refine (rnum_at _ l k n _ _ SP1.out H0.out (by omega) hn).mono ?_
    rintro e w5 ⟨r11, rfl, ho, hx⟩
    have H11 := hid (Bytes.of_own ho)
    replace HX := hid (HX.out.trans hx)
    replace H7 := hid (H7.out.ext hx)
    replace H0 := hid (H0.out.ext hx)
    replace H9 := hid (H9.out.ext hx)
    clear hx ho hcell0 hcell1
    go_wp2_with fail
    refine (text_at2 _ l s _ _ SP2.out H7.out (by omega) (by omega)).mono ?_
    rintro e w6 ⟨r13, rfl, ho, hx⟩
    have H13 := hid (Bytes.of_own ho)
    replace HX := hid (HX.out.trans hx)
    replace H7 := hid (H7.out.ext hx)
    replace H0 := hid (H0.out.ext hx)
    replace H9 := hid (H9.out.ext hx)
    replace H11 := hid (H11.out.ext hx)
    clear hx ho
    go_wp2_with fail
    refine (rtext_at _ l s _ _ SP2.out H0.out (by omega) (by omega)).mono ?_
    rintro e w7 ⟨r15, rfl, ho, hx⟩
    have H15 := hid (Bytes.of_own ho)
    replace HX := hid (HX.out.trans hx)
    replace H7 := hid (H7.out.ext hx)
    replace H0 := hid (H0.out.ext hx)
    replace H9 := hid (H9.out.ext hx)
    replace H11 := hid (H11.out.ext hx)
    replace H13 := hid (H13.out.ext hx)
    clear hx ho
    go_wp2_with fail
    obtain ⟨r0, hr0⟩ : ∃ r0, r0 = Value.slice A l.length c := ⟨_, rfl⟩
    rw [← hr0] at H0 ⊢
    clear hr0
    refine wp_region_slots Ext (laysG r9 r11 r13 r15 r7 r0 E F u X Y l) (by kernel_rfl) Ext.trans Ext.refl (Ext.drew _) (laysG_st _ _ _ _ _ _ _ _ _ _ _ _) (by kernel_rfl) ?_ ?_
    · intro tmps wr hle hfr j o ho hty
      have h0 : tmps[0]?.getD undef = r0 := hfr 0 (by kernel_rfl)
      have h7 : tmps[7]?.getD undef = r7 := hfr 7 (by kernel_rfl)
      have h8 : tmps[8]?.getD undef = .int .u64 (u : Int) := hfr 8 (by kernel_rfl)
      have h9 : tmps[9]?.getD undef = r9 := hfr 9 (by kernel_rfl)
      have h10 : tmps[10]?.getD undef = .int .i64 E := hfr 10 (by kernel_rfl)
      have h11 : tmps[11]?.getD undef = r11 := hfr 11 (by kernel_rfl)
      have h12 : tmps[12]?.getD undef = .int .i64 E := hfr 12 (by kernel_rfl)
      have h13 : tmps[13]?.getD undef = r13 := hfr 13 (by kernel_rfl)
      have h14 : tmps[14]?.getD undef = .int .i64 F := hfr 14 (by kernel_rfl)
      have h15 : tmps[15]?.getD undef = r15 := hfr 15 (by kernel_rfl)
      have h16 : tmps[16]?.getD undef = .int .i64 F := hfr 16 (by kernel_rfl)
      clear hfr
      match j, ho with
      | 0, ho =>
        obtain rfl := (Option.some.inj ho)
        clear hty ho
        refine step_pure (r9) (wanted_free rfl) ?_ (Ext.refl _) rfl
        simp [execOp, Act.eval, h9, go_sem]
      | 1, ho =>
        have h62 : tmps[62]?.getD undef = r9 := hty 0 62 rfl (by obtain rfl := (Option.some.inj ho); rfl)
        obtain rfl := (Option.some.inj ho)
        clear hty ho
        refine step_pure (.string ⟨(X).toArray⟩) (wanted_free rfl) ?_ (Ext.refl _) rfl
        have hcv := run_string_bytes Try.underlying22 Try.underlying5 Try.underlying9 (H9.out.ext hle)
        simp [execOp, Act.eval, h62, hcv, go_sem]
      | 2, ho =>
        obtain rfl := (Option.some.inj ho)
        clear hty ho
        refine step_pure (r11) (wanted_free rfl) ?_ (Ext.refl _) rfl
        simp [execOp, Act.eval, h11, go_sem]
      | 3, ho =>
        have h64 : tmps[64]?.getD undef = r11 := hty 2 64 rfl (by obtain rfl := (Option.some.inj ho); rfl)
        obtain rfl := (Option.some.inj ho)
        clear hty ho
        refine step_pure (.string ⟨(X).toArray⟩) (wanted_free rfl) ?_ (Ext.refl _) rfl
        have hcv := run_string_bytes Try.underlying22 Try.underlying5 Try.underlying9 (H11.out.ext hle)
        simp [execOp, Act.eval, h64, hcv, go_sem]
      | 4, ho =>
        have h63 : tmps[63]?.getD undef = .string ⟨(X).toArray⟩ := hty 1 63 rfl (by obtain rfl := (Option.some.inj ho); rfl)
        have h65 : tmps[65]?.getD undef = .string ⟨(X).toArray⟩ := hty 3 65 rfl (by obtain rfl := (Option.some.inj ho); rfl)
        obtain rfl := (Option.some.inj ho)
        clear hty ho
        refine step_pure (.bool true) (wanted_free rfl) ?_ (Ext.refl _) rfl
        simp [execOp, Act.eval, h63, h65, go_sem]
      | 5, ho =>
        have h66 : tmps[66]?.getD undef = .bool true := hty 4 66 rfl (by obtain rfl := (Option.some.inj ho); rfl)
        obtain rfl := (Option.some.inj ho)
        clear hty ho
        refine step_pure (.bool true) (wanted_free rfl) ?_ (Ext.refl _) rfl
        simp [execOp, Act.eval, h66, go_sem]
      | 6, ho =>
        have h67 : tmps[67]?.getD undef = .bool true := hty 5 67 rfl (by obtain rfl := (Option.some.inj ho); rfl)
        obtain rfl := (Option.some.inj ho)
        clear hty ho
        refine step_pure (.int .i64 E) (wanted_guard rfl rfl h67) ?_ (Ext.refl _) rfl
        simp [execOp, Act.eval, h10, go_sem]
      | 7, ho =>
        have h67 : tmps[67]?.getD undef = .bool true := hty 5 67 rfl (by obtain rfl := (Option.some.inj ho); rfl)
        obtain rfl := (Option.some.inj ho)
        clear hty ho
        refine step_pure (.int .i64 E) (wanted_guard rfl rfl h67) ?_ (Ext.refl _) rfl
        simp [execOp, Act.eval, h12, go_sem]
      | 8, ho =>
        have h68 : tmps[68]?.getD undef = .int .i64 E := hty 6 68 rfl (by obtain rfl := (Option.some.inj ho); rfl)
        have h69 : tmps[69]?.getD undef = .int .i64 E := hty 7 69 rfl (by obtain rfl := (Option.some.inj ho); rfl)
        have h67 : tmps[67]?.getD undef = .bool true := hty 5 67 rfl (by obtain rfl := (Option.some.inj ho); rfl)
        obtain rfl := (Option.some.inj ho)
        clear hty ho
        refine step_pure (.bool true) (wanted_guard rfl rfl h67) ?_ (Ext.refl _) rfl
        simp [execOp, Act.eval, h68, h69, go_sem]
      | 9, ho =>
        have h67 : tmps[67]?.getD undef = .bool true := hty 5 67 rfl (by obtain rfl := (Option.some.inj ho); rfl)
        have h70 : tmps[70]?.getD undef = .bool true := hty 8 70 rfl (by obtain rfl := (Option.some.inj ho); rfl)
        obtain rfl := (Option.some.inj ho)
        clear hty ho
        refine step_pure (.bool true) (wanted_free rfl) ?_ (Ext.refl _) rfl
        simp [execOp, Act.eval, h67, h70, go_sem]
      | 10, ho =>
        have h71 : tmps[71]?.getD undef = .bool true := hty 9 71 rfl (by obtain rfl := (Option.some.inj ho); rfl)
        obtain rfl := (Option.some.inj ho)
        clear hty ho
        refine step_pure (.bool true) (wanted_free rfl) ?_ (Ext.refl _) rfl
        simp [execOp, Act.eval, h71, go_sem]
      | 11, ho =>
        have h72 : tmps[72]?.getD undef = .bool true := hty 10 72 rfl (by obtain rfl := (Option.some.inj ho); rfl)
        obtain rfl := (Option.some.inj ho)
        clear hty ho
        refine step_pure (r13) (wanted_guard rfl rfl h72) ?_ (Ext.refl _) rfl
        simp [execOp, Act.eval, h13, go_sem]
      | 12, ho =>
        have h73 : tmps[73]?.getD undef = r13 := hty 11 73 rfl (by obtain rfl := (Option.some.inj ho); rfl)
        have h72 : tmps[72]?.getD undef = .bool true := hty 10 72 rfl (by obtain rfl := (Option.some.inj ho); rfl)
        obtain rfl := (Option.some.inj ho)
        clear hty ho
        refine step_pure (.string ⟨(Y).toArray⟩) (wanted_guard rfl rfl h72) ?_ (Ext.refl _) rfl
        have hcv := run_string_bytes Try.underlying22 Try.underlying5 Try.underlying9 (H13.out.ext hle)
        simp [execOp, Act.eval, h73, hcv, go_sem]
      | 13, ho =>
        have h72 : tmps[72]?.getD undef = .bool true := hty 10 72 rfl (by obtain rfl := (Option.some.inj ho); rfl)
        obtain rfl := (Option.some.inj ho)
        clear hty ho
        refine step_pure (r15) (wanted_guard rfl rfl h72) ?_ (Ext.refl _) rfl
        simp [execOp, Act.eval, h15, go_sem]
      | 14, ho =>
        have h75 : tmps[75]?.getD undef = r15 := hty 13 75 rfl (by obtain rfl := (Option.some.inj ho); rfl)
        have h72 : tmps[72]?.getD undef = .bool true := hty 10 72 rfl (by obtain rfl := (Option.some.inj ho); rfl)
        obtain rfl := (Option.some.inj ho)
        clear hty ho
        refine step_pure (.string ⟨(Y).toArray⟩) (wanted_guard rfl rfl h72) ?_ (Ext.refl _) rfl
        have hcv := run_string_bytes Try.underlying22 Try.underlying5 Try.underlying9 (H15.out.ext hle)
        simp [execOp, Act.eval, h75, hcv, go_sem]
      | 15, ho =>
        have h74 : tmps[74]?.getD undef = .string ⟨(Y).toArray⟩ := hty 12 74 rfl (by obtain rfl := (Option.some.inj ho); rfl)
        have h76 : tmps[76]?.getD undef = .string ⟨(Y).toArray⟩ := hty 14 76 rfl (by obtain rfl := (Option.some.inj ho); rfl)
        have h72 : tmps[72]?.getD undef = .bool true := hty 10 72 rfl (by obtain rfl := (Option.some.inj ho); rfl)
        obtain rfl := (Option.some.inj ho)
        clear hty ho
        refine step_pure (.bool true) (wanted_guard rfl rfl h72) ?_ (Ext.refl _) rfl
        simp [execOp, Act.eval, h74, h76, go_sem]
      | 16, ho =>
        have h72 : tmps[72]?.getD undef = .bool true := hty 10 72 rfl (by obtain rfl := (Option.some.inj ho); rfl)
        have h77 : tmps[77]?.getD undef = .bool true := hty 15 77 rfl (by obtain rfl := (Option.some.inj ho); rfl)
        obtain rfl := (Option.some.inj ho)
        clear hty ho
        refine step_pure (.bool true) (wanted_free rfl) ?_ (Ext.refl _) rfl
        simp [execOp, Act.eval, h72, h77, go_sem]
      | 17, ho =>
        have h78 : tmps[78]?.getD undef = .bool true := hty 16 78 rfl (by obtain rfl := (Option.some.inj ho); rfl)
        obtain rfl := (Option.some.inj ho)
        clear hty ho
        refine step_pure (.bool true) (wanted_free rfl) ?_ (Ext.refl _) rfl
        simp [execOp, Act.eval, h78, go_sem]
      | 18, ho =>
        have h79 : tmps[79]?.getD undef = .bool true := hty 17 79 rfl (by obtain rfl := (Option.some.inj ho); rfl)
        obtain rfl := (Option.some.inj ho)
        clear hty ho
        refine step_pure (.int .i64 F) (wanted_guard rfl rfl h79) ?_ (Ext.refl _) rfl
        simp [execOp, Act.eval, h14, go_sem]
      | 19, ho =>
        have h79 : tmps[79]?.getD undef = .bool true := hty 17 79 rfl (by obtain rfl := (Option.some.inj ho); rfl)
        obtain rfl := (Option.some.inj ho)
        clear hty ho
        refine step_pure (.int .i64 F) (wanted_guard rfl rfl h79) ?_ (Ext.refl _) rfl
        simp [execOp, Act.eval, h16, go_sem]
      | 20, ho =>
        have h80 : tmps[80]?.getD undef = .int .i64 F := hty 18 80 rfl (by obtain rfl := (Option.some.inj ho); rfl)
        have h81 : tmps[81]?.getD undef = .int .i64 F := hty 19 81 rfl (by obtain rfl := (Option.some.inj ho); rfl)
        have h79 : tmps[79]?.getD undef = .bool true := hty 17 79 rfl (by obtain rfl := (Option.some.inj ho); rfl)
        obtain rfl := (Option.some.inj ho)
        clear hty ho
        refine step_pure (.bool true) (wanted_guard rfl rfl h79) ?_ (Ext.refl _) rfl
        simp [execOp, Act.eval, h80, h81, go_sem]
      | 21, ho =>
        have h79 : tmps[79]?.getD undef = .bool true := hty 17 79 rfl (by obtain rfl := (Option.some.inj ho); rfl)
        have h82 : tmps[82]?.getD undef = .bool true := hty 20 82 rfl (by obtain rfl := (Option.some.inj ho); rfl)
        obtain rfl := (Option.some.inj ho)
        clear hty ho
        refine step_pure (.bool true) (wanted_free rfl) ?_ (Ext.refl _) rfl
        simp [execOp, Act.eval, h79, h82, go_sem]
      | 22, ho =>
        have h83 : tmps[83]?.getD undef = .bool true := hty 21 83 rfl (by obtain rfl := (Option.some.inj ho); rfl)
        obtain rfl := (Option.some.inj ho)
        clear hty ho
        refine step_pure (.bool true) (wanted_free rfl) ?_ (Ext.refl _) rfl
        simp [execOp, Act.eval, h83, go_sem]
      | 23, ho =>
        have h84 : tmps[84]?.getD undef = .bool true := hty 22 84 rfl (by obtain rfl := (Option.some.inj ho); rfl)
        obtain rfl := (Option.some.inj ho)
        clear hty ho
        refine step_pure (r7) (wanted_guard rfl rfl h84) ?_ (Ext.refl _) rfl
        simp [execOp, Act.eval, h7, go_sem]
      | 24, ho =>
        have h84 : tmps[84]?.getD undef = .bool true := hty 22 84 rfl (by obtain rfl := (Option.some.inj ho); rfl)
        obtain rfl := (Option.some.inj ho)
        clear hty ho
        refine step_pure (.int .u64 (u : Int)) (wanted_guard rfl rfl h84) ?_ (Ext.refl _) rfl
        simp [execOp, Act.eval, h8, go_sem]
      | 25, ho =>
        have h85 : tmps[85]?.getD undef = r7 := hty 23 85 rfl (by obtain rfl := (Option.some.inj ho); rfl)
        have h86 : tmps[86]?.getD undef = .int .u64 (u : Int) := hty 24 86 rfl (by obtain rfl := (Option.some.inj ho); rfl)
        have h84 : tmps[84]?.getD undef = .bool true := hty 22 84 rfl (by obtain rfl := (Option.some.inj ho); rfl)
        obtain rfl := (Option.some.inj ho)
        clear hty ho
        refine step_call 12 #[r7, .int .u64 (u : Int)] (wanted_guard rfl rfl h84) ?_ ?_
        · simp [execOp, Act.eval, h85, h86, go_sem]
        · exact (word_at _ l _ u _ rfl (H7.out.ext hle) (by omega) hul).mono fun e w' ⟨r, h1, h2, h3⟩ => ⟨r, h1, h3, Bytes.of_own h2⟩
      | 26, ho =>
        have h87 : Bytes wr (tmps[87]?.getD undef) (l ++ be 8 u) := hty 25 87 rfl (by obtain rfl := (Option.some.inj ho); rfl)
        have h84 : tmps[84]?.getD undef = .bool true := hty 22 84 rfl (by obtain rfl := (Option.some.inj ho); rfl)
        obtain rfl := (Option.some.inj ho)
        clear hty ho
        refine step_pure (.string ⟨(l ++ be 8 u).toArray⟩) (wanted_guard rfl rfl h84) ?_ (Ext.refl _) rfl
        have hcv := run_string_bytes Try.underlying22 Try.underlying5 Try.underlying9 h87
        simp [execOp, Act.eval, hcv, go_sem]
      | 27, ho =>
        have h84 : tmps[84]?.getD undef = .bool true := hty 22 84 rfl (by obtain rfl := (Option.some.inj ho); rfl)
        obtain rfl := (Option.some.inj ho)
        clear hty ho
        refine step_pure (r0) (wanted_guard rfl rfl h84) ?_ (Ext.refl _) rfl
        simp [execOp, Act.eval, h0, go_sem]
      | 28, ho =>
        have h84 : tmps[84]?.getD undef = .bool true := hty 22 84 rfl (by obtain rfl := (Option.some.inj ho); rfl)
        obtain rfl := (Option.some.inj ho)
        clear hty ho
        refine step_pure (.int .u64 (u : Int)) (wanted_guard rfl rfl h84) ?_ (Ext.refl _) rfl
        simp [execOp, Act.eval, h8, go_sem]
      | 29, ho =>
        have h89 : tmps[89]?.getD undef = r0 := hty 27 89 rfl (by obtain rfl := (Option.some.inj ho); rfl)
        have h90 : tmps[90]?.getD undef = .int .u64 (u : Int) := hty 28 90 rfl (by obtain rfl := (Option.some.inj ho); rfl)
        have h84 : tmps[84]?.getD undef = .bool true := hty 22 84 rfl (by obtain rfl := (Option.some.inj ho); rfl)
        obtain rfl := (Option.some.inj ho)
        clear hty ho
        refine step_call 13 #[r0, .int .u64 (u : Int)] (wanted_guard rfl rfl h84) ?_ ?_
        · simp [execOp, Act.eval, h89, h90, go_sem]
        · exact (rword_at _ l _ u _ rfl (H0.out.ext hle) (by omega) hul).mono fun e w' ⟨r, h1, h2, h3⟩ => ⟨r, h1, h3, Bytes.of_own h2⟩
      | 30, ho =>
        have h91 : Bytes wr (tmps[91]?.getD undef) (l ++ be 8 u) := hty 29 91 rfl (by obtain rfl := (Option.some.inj ho); rfl)
        have h84 : tmps[84]?.getD undef = .bool true := hty 22 84 rfl (by obtain rfl := (Option.some.inj ho); rfl)
        obtain rfl := (Option.some.inj ho)
        clear hty ho
        refine step_pure (.string ⟨(l ++ be 8 u).toArray⟩) (wanted_guard rfl rfl h84) ?_ (Ext.refl _) rfl
        have hcv := run_string_bytes Try.underlying22 Try.underlying5 Try.underlying9 h91
        simp [execOp, Act.eval, hcv, go_sem]
      | 31, ho =>
        have h88 : tmps[88]?.getD undef = .string ⟨(l ++ be 8 u).toArray⟩ := hty 26 88 rfl (by obtain rfl := (Option.some.inj ho); rfl)
        have h92 : tmps[92]?.getD undef = .string ⟨(l ++ be 8 u).toArray⟩ := hty 30 92 rfl (by obtain rfl := (Option.some.inj ho); rfl)
        have h84 : tmps[84]?.getD undef = .bool true := hty 22 84 rfl (by obtain rfl := (Option.some.inj ho); rfl)
        obtain rfl := (Option.some.inj ho)
        clear hty ho
        refine step_pure (.bool true) (wanted_guard rfl rfl h84) ?_ (Ext.refl _) rfl
        simp [execOp, Act.eval, h88, h92, go_sem]
      | 32, ho =>
        have h84 : tmps[84]?.getD undef = .bool true := hty 22 84 rfl (by obtain rfl := (Option.some.inj ho); rfl)
        have h93 : tmps[93]?.getD undef = .bool true := hty 31 93 rfl (by obtain rfl := (Option.some.inj ho); rfl)
        obtain rfl := (Option.some.inj ho)
        clear hty ho
        refine step_pure (.bool true) (wanted_free rfl) ?_ (Ext.refl _) rfl
        simp [execOp, Act.eval, h84, h93, go_sem]
      | 33, ho =>
        have h94 : tmps[94]?.getD undef = .bool true := hty 32 94 rfl (by obtain rfl := (Option.some.inj ho); rfl)
        obtain rfl := (Option.some.inj ho)
        clear hty ho
        refine step_pure (.bool true) (wanted_free rfl) ?_ (Ext.refl _) rfl
        simp [execOp, Act.eval, h94, go_sem]
      | 34, ho =>
        have h95 : tmps[95]?.getD undef = .bool true := hty 33 95 rfl (by obtain rfl := (Option.some.inj ho); rfl)
        obtain rfl := (Option.some.inj ho)
        clear hty ho
        refine step_pure (r7) (wanted_guard rfl rfl h95) ?_ (Ext.refl _) rfl
        simp [execOp, Act.eval, h7, go_sem]
      | 35, ho =>
        have h96 : tmps[96]?.getD undef = r7 := hty 34 96 rfl (by obtain rfl := (Option.some.inj ho); rfl)
        have h95 : tmps[95]?.getD undef = .bool true := hty 33 95 rfl (by obtain rfl := (Option.some.inj ho); rfl)
        obtain rfl := (Option.some.inj ho)
        clear hty ho
        refine step_pure (.string ⟨(l).toArray⟩) (wanted_guard rfl rfl h95) ?_ (Ext.refl _) rfl
        have hcv := run_string_bytes Try.underlying22 Try.underlying5 Try.underlying9 (H7.out.ext hle)
        simp [execOp, Act.eval, h96, hcv, go_sem]
      | 36, ho =>
        have h95 : tmps[95]?.getD undef = .bool true := hty 33 95 rfl (by obtain rfl := (Option.some.inj ho); rfl)
        obtain rfl := (Option.some.inj ho)
        clear hty ho
        refine step_pure (r0) (wanted_guard rfl rfl h95) ?_ (Ext.refl _) rfl
        simp [execOp, Act.eval, h0, go_sem]
      | 37, ho =>
        have h98 : tmps[98]?.getD undef = r0 := hty 36 98 rfl (by obtain rfl := (Option.some.inj ho); rfl)
        have h95 : tmps[95]?.getD undef = .bool true := hty 33 95 rfl (by obtain rfl := (Option.some.inj ho); rfl)
        obtain rfl := (Option.some.inj ho)
        clear hty ho
        refine step_pure (.string ⟨(l).toArray⟩) (wanted_guard rfl rfl h95) ?_ (Ext.refl _) rfl
        have hcv := run_string_bytes Try.underlying22 Try.underlying5 Try.underlying9 (H0.out.ext hle)
        simp [execOp, Act.eval, h98, hcv, go_sem]
      | 38, ho =>
        have h97 : tmps[97]?.getD undef = .string ⟨(l).toArray⟩ := hty 35 97 rfl (by obtain rfl := (Option.some.inj ho); rfl)
        have h99 : tmps[99]?.getD undef = .string ⟨(l).toArray⟩ := hty 37 99 rfl (by obtain rfl := (Option.some.inj ho); rfl)
        have h95 : tmps[95]?.getD undef = .bool true := hty 33 95 rfl (by obtain rfl := (Option.some.inj ho); rfl)
        obtain rfl := (Option.some.inj ho)
        clear hty ho
        refine step_pure (.bool true) (wanted_guard rfl rfl h95) ?_ (Ext.refl _) rfl
        simp [execOp, Act.eval, h97, h99, go_sem]
      | 39, ho =>
        have h95 : tmps[95]?.getD undef = .bool true := hty 33 95 rfl (by obtain rfl := (Option.some.inj ho); rfl)
        have h100 : tmps[100]?.getD undef = .bool true := hty 38 100 rfl (by obtain rfl := (Option.some.inj ho); rfl)
        obtain rfl := (Option.some.inj ho)
        clear hty ho
        refine step_pure (.bool true) (wanted_free rfl) ?_ (Ext.refl _) rfl
        simp [execOp, Act.eval, h95, h100, go_sem]
      | 40, ho =>
        have h101 : tmps[101]?.getD undef = .bool true := hty 39 101 rfl (by obtain rfl := (Option.some.inj ho); rfl)
        obtain rfl := (Option.some.inj ho)
        clear hty ho
        refine step_pure (.bool true) (wanted_free rfl) ?_ (Ext.refl _) rfl
        simp [execOp, Act.eval, h101, go_sem]
      | 41, ho =>
        have h102 : tmps[102]?.getD undef = .bool true := hty 40 102 rfl (by obtain rfl := (Option.some.inj ho); rfl)
        obtain rfl := (Option.some.inj ho)
        clear hty ho
        refine step_call 7 #[] (wanted_guard rfl rfl h102) ?_ ?_
        · simp [execOp, Act.eval, go_sem]
        · exact (awake_any _).mono fun e w' ⟨h1, h2⟩ => ⟨_, h1, h2, rfl⟩
      | 42, ho =>
        have h102 : tmps[102]?.getD undef = .bool true := hty 40 102 rfl (by obtain rfl := (Option.some.inj ho); rfl)
        have h103 : tmps[103]?.getD undef = .bool true := hty 41 103 rfl (by obtain rfl := (Option.some.inj ho); rfl)
        obtain rfl := (Option.some.inj ho)
        clear hty ho
        refine step_pure (.bool true) (wanted_free rfl) ?_ (Ext.refl _) rfl
        simp [execOp, Act.eval, h102, h103, go_sem]
      | 43, ho =>
        have h104 : tmps[104]?.getD undef = .bool true := hty 42 104 rfl (by obtain rfl := (Option.some.inj ho); rfl)
        obtain rfl := (Option.some.inj ho)
        clear hty ho
        refine step_pure (.bool true) (wanted_free rfl) ?_ (Ext.refl _) rfl
        simp [execOp, Act.eval, h104, go_sem]
      | (j + 44), ho => exact absurd ho (by simp)
  
    · intro tmps w9 hle hs hfr hty
      have h6 : tmps[6]?.getD undef = .bool true := hty 43 6 rfl
      have hfe := frame_eq [62, 63, 64, 65, 66, 67, 68, 69, 70, 71, 72, 73, 74, 75, 76, 77, 78, 79, 80, 81, 82, 83, 84, 85, 86, 87, 88, 89, 90, 91, 92, 93, 94, 95, 96, 97, 98, 99, 100, 101, 102, 103, 104, 6] hs hfr (by kernel_rfl)
      rw [hfe]
      clear hfe hfr hs hty
      simp only [List.foldl_cons, List.foldl_nil]
      generalize tmps[62]?.getD undef = x62
      generalize tmps[63]?.getD undef = x63
      generalize tmps[64]?.getD undef = x64
      generalize tmps[65]?.getD undef = x65
      generalize tmps[66]?.getD undef = x66
      generalize tmps[67]?.getD undef = x67
      generalize tmps[68]?.getD undef = x68
      generalize tmps[69]?.getD undef = x69
      generalize tmps[70]?.getD undef = x70
      generalize tmps[71]?.getD undef = x71
      generalize tmps[72]?.getD undef = x72
      generalize tmps[73]?.getD undef = x73
      generalize tmps[74]?.getD undef = x74
      generalize tmps[75]?.getD undef = x75
      generalize tmps[76]?.getD undef = x76
      generalize tmps[77]?.getD undef = x77
      generalize tmps[78]?.getD undef = x78
      generalize tmps[79]?.getD undef = x79
      generalize tmps[80]?.getD undef = x80
      generalize tmps[81]?.getD undef = x81
      generalize tmps[82]?.getD undef = x82
      generalize tmps[83]?.getD undef = x83
      generalize tmps[84]?.getD undef = x84
      generalize tmps[85]?.getD undef = x85
      generalize tmps[86]?.getD undef = x86
      generalize tmps[87]?.getD undef = x87
      generalize tmps[88]?.getD undef = x88
      generalize tmps[89]?.getD undef = x89
      generalize tmps[90]?.getD undef = x90
      generalize tmps[91]?.getD undef = x91
      generalize tmps[92]?.getD undef = x92
      generalize tmps[93]?.getD undef = x93
      generalize tmps[94]?.getD undef = x94
      generalize tmps[95]?.getD undef = x95
      generalize tmps[96]?.getD undef = x96
      generalize tmps[97]?.getD undef = x97
      generalize tmps[98]?.getD undef = x98
      generalize tmps[99]?.getD undef = x99
      generalize tmps[100]?.getD undef = x100
      generalize tmps[101]?.getD undef = x101
      generalize tmps[102]?.getD undef = x102
      generalize tmps[103]?.getD undef = x103
      generalize tmps[104]?.getD undef = x104
      rw [h6]
      clear h6
      simp only [List.setIfInBounds_toArray, List.set_cons_succ, List.set_cons_zero]
      go_wp2_with fail
      go_ret
      exact ⟨rfl, HX.out.trans hle⟩

theorem lays_any (A : Option Addr) (l : List UInt8) (c : Nat) (k n : Int) (s : ByteArray) (w : World) (hl : Lies w A (bvs l)) (hlc : l.length ≤ c) (hcm : c ≤ maxLen) (hs : s.size ≤ maxLen)
    (hn0 : -9223372036854775808 ≤ n) (hn : n ≤ 9223372036854775807) :
    Calls Try.prog 3 #[.slice A l.length c, .agg #[.int .i64 k, .int .i64 n], .string s] w (Says w (.bool true)) := by
  by_cases h : 100 < l.length ∨ 70000 < s.size
  · exact lays_out A l c k n s w (Nat.le_trans hlc hcm) hs h
  · exact lays_in A l c k n s w hl hlc hcm (by omega) (by omega) hn0 hn
end Go.Proofs.Ytekkmpahienaeaa
