/- OctetReads: the walk. -/
import Derived.Test.YtekkmpahienaeaaOrf4
import Derived.Deep.CutRange
namespace Go.Proofs.Ytekkmpahienaeaa
open Go Go.RowKit

/-- what the slots of the region hold -/
def readsG (s : ByteArray) (P E : Int) : Nat → Value → World → Prop
  | 0, v, _ => v = .agg #[.string s, .int .i64 P, .int .i64 E]
  | 1, v, _ => v = .agg #[.string s, .int .i64 P, .int .i64 E]
  | 2, v, _ => v = .agg #[.string s, .int .i64 P, .int .i64 E]
  | 3, v, _ => v = .bool false
  | 4, v, _ => v = .bool false
  | 5, v, _ => v = .agg #[.string s, .int .i64 P, .int .i64 E]
  | 6, v, _ => v = .int .i64 (leftOf s P)
  | 7, v, _ => v = .agg #[.string s, .int .i64 P, .int .i64 E]
  | 8, v, _ => v = .int .i64 (leftOf s P)
  | 9, v, _ => v = .bool false
  | 10, v, _ => v = .bool false
  | 11, v, _ => v = .bool false
  | 12, v, _ => v = .agg #[.string s, .int .i64 P, .int .i64 E]
  | 13, v, _ => v = .int .i64 (endOf s P E)
  | 14, v, _ => v = .agg #[.string s, .int .i64 P, .int .i64 E]
  | 15, v, _ => v = .int .i64 (endOf s P E)
  | 16, v, _ => v = .bool false
  | 17, v, _ => v = .bool false
  | _, _, _ => True
theorem readsG_st (s : ByteArray) (P E : Int) : ∀ k z x y, readsG s P E k z x → Ext x y → readsG s P E k z y := by
  intro k z x y h e
  unfold readsG at *
  split at h <;> first | exact h | exact Bytes.ext h e

/-- what the slots of the region hold -/
def exitG (s : ByteArray) (br : Nat) : Nat → Value → World → Prop
  | 0, v, _ => v = .pointer (some ⟨br, 0, none⟩)
  | 1, v, _ => v = .string s
  | 2, v, _ => v = .agg #[.string s, .int .i64 0, .int .i64 0]
  | 3, v, _ => v = .pointer (some ⟨br, 0, none⟩)
  | 4, v, _ => v = .string s
  | 5, v, _ => v = .agg #[.string s, .int .i64 0, .int .i64 0]
  | 6, v, _ => v = .agg #[.string s, .int .i64 0, .int .i64 0]
  | 7, v, _ => v = .bool true
  | 8, v, _ => v = .bool true
  | 9, v, _ => v = .bool true
  | 10, v, _ => v = .bool true
  | 11, v, _ => v = .bool true
  | _, _, _ => True
theorem exitG_st (s : ByteArray) (br : Nat) : ∀ k z x y, exitG s br k z x → Ext x y → exitG s br k z y := by
  intro k z x y h e
  unfold exitG at *
  split at h <;> first | exact h | exact Bytes.ext h e

/-- what the slots hold of a region that reads a number and lays it into a fresh cell -/
def numG (s : ByteArray) (P E P2 E2 k N2 : Int) (bl off j n c n0 : Nat) (ty : TypeId) : Nat → Value → World → Prop
  | 0, v, _ => v = .agg #[.string s, .int .i64 P, .int .i64 E]
  | 1, v, _ => v = .slice (some ⟨bl, off, none⟩) n c
  | 2, v, _ => v = .int .i64 (j : Int)
  | 3, v, _ => v = .pointer (some ⟨bl, off + j, none⟩)
  | 4, v, _ => v = .int .i64 k
  | 5, v, _ => v = .tuple #[.agg #[.string s, .int .i64 P2, .int .i64 E2], .int .i64 N2]
  | 6, v, _ => v = .tuple #[.agg #[.string s, .int .i64 P2, .int .i64 E2], .int .i64 N2]
  | 7, v, _ => v = .agg #[.string s, .int .i64 P2, .int .i64 E2]
  | 8, v, _ => v = .int .i64 N2
  | 9, v, w => ∃ g, v = .pointer (some ⟨g, 0, none⟩) ∧ n0 ≤ g ∧ w.heap[g]? = some (.cells #[.string ⟨#[]⟩, .int .i64 0, .int .i64 0] ty (0, 0))
  | _, _, _ => True
theorem numG_st (s : ByteArray) (P E P2 E2 k N2 : Int) (bl off j n c n0 : Nat) (ty : TypeId) : ∀ q z x y, numG s P E P2 E2 k N2 bl off j n c n0 ty q z x → Ext x y → numG s P E P2 E2 k N2 bl off j n c n0 ty q z y := by
  intro q z x y h e
  unfold numG at *
  split at h <;> first | exact h | exact (let ⟨g, h1, h2, h3⟩ := h; ⟨g, h1, h2, e.block h3⟩)

theorem gen_exit {T : Exit → Act → World → Prop} {e : Exit} {a : Act} {X : World} (F : World → Prop) (hF : F X) (h : ∀ W, F W → T e a W) : T e a X := h X hF

theorem gen_act {T : Act → World → Prop} {a : Act} {X : World} (F : World → Prop) (hF : F X) (h : ∀ W, F W → T a W) : T a X := h X hF

/-- both readers stand at one place -/
def Both (w : World) (br bx : Nat) (s : ByteArray) (wr : World) (P E : Int) : Prop :=
  wr.heap[br]? = some (.cells #[.string s, .int .i64 P, .int .i64 E] 36 (0, 0)) ∧ wr.heap[bx]? = some (.cells #[.string s, .int .i64 P, .int .i64 E] 39 (0, 0)) ∧ Ext w wr

set_option maxRecDepth 100000 in
set_option maxHeartbeats 8000000 in
theorem reads_in (s : ByteArray) (p e : Int) (A : Option Addr) (L : List Int) (c : Nat) (w : World) (hL : Lies w A (L.map (Value.int .i64))) (hl1 : L.length ≤ 20) (hs1 : s.size ≤ 300) :
    Calls Try.prog 4 #[.agg #[.string s, .int .i64 p, .int .i64 e], .slice A L.length c] w (Says w (.bool true)) := by
  have HL := hid hL
  clear hL
  have hl2 : ¬ 20 < L.length := by omega
  have hs2 : ¬ 300 < s.size := by omega
  have hss : s.size ≤ 9223372036854775807 := by omega
  go_enter Try.func4, Try.ntmps4
  go_wp2_with fail
  refine (own_any s p e _).mono ?_
  rintro e1 w1 ⟨rfl, hx⟩
  have hA0 := hid (hx.block (heap_alloc_new w _))
  have HX0 := hid ((Ext.alloc w _).trans hx)
  have hbr : w.heap.size < w1.heap.size := (Array.getElem?_eq_some_iff.1 hA0.out).1
  clear hx
  go_wp2_with fail
  have hB0 : Both w w.heap.size w1.heap.size s (w1.alloc (.cells #[.string s, .int .i64 p, .int .i64 e] 39)) p e :=
    ⟨(Ext.alloc _ _).block hA0.out, heap_alloc_new w1 _, HX0.out.then_alloc _⟩
  have HB0 := hid hB0
  clear hB0 hA0 HX0
  go_loopw [6] (fun i wr => ∃ j : Nat, j ≤ L.length ∧ i = .int .i64 (j : Int) ∧ ∃ P E : Int, Both w w.heap.size w1.heap.size s wr P E) (fun i _ => L.length - (intOf i).toNat)
  case atStart => exact ⟨0, Nat.zero_le _, rfl, p, e, HB0.out⟩
  case round =>
    rename_i i wr
    obtain ⟨j, hj, rfl, P, E, hA, hD, hX⟩ := hrel
    clear HB0
    replace hA := hid hA
    replace hD := hid hD
    have HX := hid hX
    clear hX
    by_cases hjl : j < L.length
    · obtain ⟨bl, off, rfl, hc⟩ := (HL.out.ext HX.out).open_at (k := j) (by rw [List.length_map]; exact hjl)
      rw [List.getElem_map] at hc
      obtain ⟨k, hk⟩ : ∃ k, k = L[j] := ⟨_, rfl⟩
      rw [← hk] at hc
      clear hk
      have hblk : bl < wr.heap.size := World.block_lt_of_cell? _ _ hc
      obtain ⟨⟨c0, c1, c2⟩, ⟨f0, f1, f2⟩, y1⟩ := box3 hA.out
      obtain ⟨⟨d0, d1, d2⟩, ⟨g0, g1, g2⟩, z1⟩ := box3 hD.out
      by_cases hk0 : k = 0
      · subst hk0
        go_wp2_with fail
        refine (rdstr_any s P E _ hss).mono ?_
        rintro e3 w3 ⟨rfl, hx⟩
        replace hA := hid (hx.block hA.out)
        replace hD := hid (hx.block hD.out)
        have HX3 := hid (HX.out.trans hx)
        clear hx c0 c1 c2 f0 f1 f2 y1 d0 d1 d2 g0 g1 g2 z1 hc hblk
        obtain ⟨⟨c0, c1, c2⟩, ⟨f0, f1, f2⟩, y1⟩ := box3 hA.out
        obtain ⟨⟨d0, d1, d2⟩, ⟨g0, g1, g2⟩, z1⟩ := box3 hD.out
        go_wp2_with fail
        refine (rrstr_any s P E _ hss).mono ?_
        rintro e4 w4 ⟨rfl, hx⟩
        have hF := hid (hx.block (heap_alloc_new w3 _))
        replace hA := hid (hx.block ((Ext.alloc _ _).block hA.out))
        replace hD := hid (hx.block ((Ext.alloc _ _).block hD.out))
        replace HX3 := hid ((HX3.out.then_alloc _).trans hx)
        have hz3 : w3.heap.size < w4.heap.size := (Array.getElem?_eq_some_iff.1 hF.out).1
        clear hx c0 c1 c2 f0 f1 f2 y1 d0 d1 d2 g0 g1 g2 z1
        obtain ⟨P2, hP2⟩ : ∃ x, x = strP s P E := ⟨_, rfl⟩
        obtain ⟨E2, hE2⟩ : ∃ x, x = strE s P E := ⟨_, rfl⟩
        obtain ⟨B2, hB2⟩ : ∃ x, x = strB s P E := ⟨_, rfl⟩
        rw [← hP2, ← hE2] at hF
        rw [← hP2, ← hE2, ← hB2]
        clear hP2 hE2 hB2
        obtain ⟨⟨c0, c1, c2⟩, ⟨f0, f1, f2⟩, y1⟩ := box3 hA.out
        obtain ⟨⟨d0, d1, d2⟩, ⟨g0, g1, g2⟩, z1⟩ := box3 hD.out
        obtain ⟨⟨i0, i1, i2⟩, ⟨j0, j1, j2⟩, u1⟩ := box3 hF.out
        go_wp2_with fail
        go_region
        refine gen_exit (fun W => Both w w.heap.size w1.heap.size s W P2 E2) ⟨?_, ?_, ?_⟩ ?_
        · refine (Ext.alloc _ _).block (set3 ((heap_setCell_other _ _ _ _ (by simp; omega)).trans ((heap_setCell_other _ _ _ _ (by simp; omega)).trans ((heap_setCell_other _ _ _ _ (by simp; omega)).trans hA.out))))
        · refine (Ext.alloc _ _).block ((heap_setCell_other _ _ _ _ (by simp; omega)).trans ((heap_setCell_other _ _ _ _ (by simp; omega)).trans ((heap_setCell_other _ _ _ _ (by simp; omega)).trans (set3 hD.out))))
        · repeat (first | (with_reducible exact HX3.out) | (with_reducible apply Ext.then_drew) | (with_reducible apply Ext.then_alloc) | (with_reducible refine Ext.setCell ?_ (by simp <;> omega) _))
        clear hA hD HX3 c0 c1 c2 f0 f1 f2 y1 d0 d1 d2 g0 g1 g2 z1 hF i0 i1 i2 j0 j1 j2 u1 hz3
        rintro W ⟨hA, hD, hX⟩
        replace hA := hid hA
        replace hD := hid hD
        have HX3 := hid hX
        clear hX
        go_wp2_with fail
        refine wp_region_slots Ext (readsG s P2 E2) (by kernel_rfl) Ext.trans Ext.refl (Ext.drew _) (readsG_st _ _ _) (by kernel_rfl) ?_ ?_
        · intro tmps wr hle hfr j o ho hty
          have h2 : tmps[2]?.getD undef = .pointer (some ⟨w.heap.size, 0, none⟩) := hfr 2 (by kernel_rfl)
          have h5 : tmps[5]?.getD undef = .pointer (some ⟨w1.heap.size, 0, none⟩) := hfr 5 (by kernel_rfl)
          have hAx := hid (hle.block hA.out)
          have hDx := hid (hle.block hD.out)
          obtain ⟨⟨c0, c1, c2⟩, _, _⟩ := box3 hAx.out
          obtain ⟨⟨d0, d1, d2⟩, _, _⟩ := box3 hDx.out
          clear hfr
          match j, ho with
          | 0, ho =>
            obtain rfl := (Option.some.inj ho)
            clear hty ho
            refine step_pure (.agg #[.string s, .int .i64 P2, .int .i64 E2]) (wanted_free rfl) ?_ (Ext.refl _) rfl
            simp [execOp, Act.eval, h5, d0, d1, d2, go_sem]
          | 1, ho =>
            have h100 : tmps[100]?.getD undef = .agg #[.string s, .int .i64 P2, .int .i64 E2] := hty 0 100 rfl (by obtain rfl := (Option.some.inj ho); rfl)
            obtain rfl := (Option.some.inj ho)
            clear hty ho
            refine step_call 21 #[.agg #[.string s, .int .i64 P2, .int .i64 E2]] (wanted_free rfl) ?_ ?_
            · simp [execOp, Act.eval, h100, go_sem]
            · exact (back2_any s P2 E2 _).mono fun e w' ⟨h1, h2⟩ => ⟨_, h1, h2, rfl⟩
          | 2, ho =>
            obtain rfl := (Option.some.inj ho)
            clear hty ho
            refine step_pure (.agg #[.string s, .int .i64 P2, .int .i64 E2]) (wanted_free rfl) ?_ (Ext.refl _) rfl
            simp [execOp, Act.eval, h2, c0, c1, c2, go_sem]
          | 3, ho =>
            have h101 : tmps[101]?.getD undef = .agg #[.string s, .int .i64 P2, .int .i64 E2] := hty 1 101 rfl (by obtain rfl := (Option.some.inj ho); rfl)
            have h102 : tmps[102]?.getD undef = .agg #[.string s, .int .i64 P2, .int .i64 E2] := hty 2 102 rfl (by obtain rfl := (Option.some.inj ho); rfl)
            obtain rfl := (Option.some.inj ho)
            clear hty ho
            refine step_pure (.bool false) (wanted_free rfl) ?_ (Ext.refl _) rfl
            simp [execOp, Act.eval, h101, h102, go_sem]
          | 4, ho =>
            have h103 : tmps[103]?.getD undef = .bool false := hty 3 103 rfl (by obtain rfl := (Option.some.inj ho); rfl)
            obtain rfl := (Option.some.inj ho)
            clear hty ho
            refine step_pure (.bool false) (wanted_free rfl) ?_ (Ext.refl _) rfl
            simp [execOp, Act.eval, h103, go_sem]
          | 5, ho =>
            have h104 : tmps[104]?.getD undef = .bool false := hty 4 104 rfl (by obtain rfl := (Option.some.inj ho); rfl)
            obtain rfl := (Option.some.inj ho)
            clear hty ho
            refine step_pure (.agg #[.string s, .int .i64 P2, .int .i64 E2]) (wanted_guard rfl rfl h104) ?_ (Ext.refl _) rfl
            simp [execOp, Act.eval, h5, d0, d1, d2, go_sem]
          | 6, ho =>
            have h105 : tmps[105]?.getD undef = .agg #[.string s, .int .i64 P2, .int .i64 E2] := hty 5 105 rfl (by obtain rfl := (Option.some.inj ho); rfl)
            have h104 : tmps[104]?.getD undef = .bool false := hty 4 104 rfl (by obtain rfl := (Option.some.inj ho); rfl)
            obtain rfl := (Option.some.inj ho)
            clear hty ho
            refine step_call 22 #[.agg #[.string s, .int .i64 P2, .int .i64 E2]] (wanted_guard rfl rfl h104) ?_ ?_
            · simp [execOp, Act.eval, h105, go_sem]
            · exact (left_any s P2 E2 _ hss).mono fun e w' ⟨h1, h2⟩ => ⟨_, h1, h2, rfl⟩
          | 7, ho =>
            have h104 : tmps[104]?.getD undef = .bool false := hty 4 104 rfl (by obtain rfl := (Option.some.inj ho); rfl)
            obtain rfl := (Option.some.inj ho)
            clear hty ho
            refine step_pure (.agg #[.string s, .int .i64 P2, .int .i64 E2]) (wanted_guard rfl rfl h104) ?_ (Ext.refl _) rfl
            simp [execOp, Act.eval, h2, c0, c1, c2, go_sem]
          | 8, ho =>
            have h107 : tmps[107]?.getD undef = .agg #[.string s, .int .i64 P2, .int .i64 E2] := hty 7 107 rfl (by obtain rfl := (Option.some.inj ho); rfl)
            have h104 : tmps[104]?.getD undef = .bool false := hty 4 104 rfl (by obtain rfl := (Option.some.inj ho); rfl)
            obtain rfl := (Option.some.inj ho)
            clear hty ho
            refine step_call 23 #[.agg #[.string s, .int .i64 P2, .int .i64 E2]] (wanted_guard rfl rfl h104) ?_ ?_
            · simp [execOp, Act.eval, h107, go_sem]
            · exact (rleft_any s P2 E2 _ hss).mono fun e w' ⟨h1, h2⟩ => ⟨_, h1, h2, rfl⟩
          | 9, ho =>
            have h106 : tmps[106]?.getD undef = .int .i64 (leftOf s P2) := hty 6 106 rfl (by obtain rfl := (Option.some.inj ho); rfl)
            have h108 : tmps[108]?.getD undef = .int .i64 (leftOf s P2) := hty 8 108 rfl (by obtain rfl := (Option.some.inj ho); rfl)
            have h104 : tmps[104]?.getD undef = .bool false := hty 4 104 rfl (by obtain rfl := (Option.some.inj ho); rfl)
            obtain rfl := (Option.some.inj ho)
            clear hty ho
            refine step_pure (.bool false) (wanted_guard rfl rfl h104) ?_ (Ext.refl _) rfl
            simp [execOp, Act.eval, h106, h108, go_sem]
          | 10, ho =>
            have h104 : tmps[104]?.getD undef = .bool false := hty 4 104 rfl (by obtain rfl := (Option.some.inj ho); rfl)
            have h109 : tmps[109]?.getD undef = .bool false := hty 9 109 rfl (by obtain rfl := (Option.some.inj ho); rfl)
            obtain rfl := (Option.some.inj ho)
            clear hty ho
            refine step_pure (.bool false) (wanted_free rfl) ?_ (Ext.refl _) rfl
            simp [execOp, Act.eval, h104, h109, go_sem]
          | 11, ho =>
            have h110 : tmps[110]?.getD undef = .bool false := hty 10 110 rfl (by obtain rfl := (Option.some.inj ho); rfl)
            obtain rfl := (Option.some.inj ho)
            clear hty ho
            refine step_pure (.bool false) (wanted_free rfl) ?_ (Ext.refl _) rfl
            simp [execOp, Act.eval, h110, go_sem]
          | 12, ho =>
            have h111 : tmps[111]?.getD undef = .bool false := hty 11 111 rfl (by obtain rfl := (Option.some.inj ho); rfl)
            obtain rfl := (Option.some.inj ho)
            clear hty ho
            refine step_pure (.agg #[.string s, .int .i64 P2, .int .i64 E2]) (wanted_guard rfl rfl h111) ?_ (Ext.refl _) rfl
            simp [execOp, Act.eval, h5, d0, d1, d2, go_sem]
          | 13, ho =>
            have h112 : tmps[112]?.getD undef = .agg #[.string s, .int .i64 P2, .int .i64 E2] := hty 12 112 rfl (by obtain rfl := (Option.some.inj ho); rfl)
            have h111 : tmps[111]?.getD undef = .bool false := hty 11 111 rfl (by obtain rfl := (Option.some.inj ho); rfl)
            obtain rfl := (Option.some.inj ho)
            clear hty ho
            refine step_call 24 #[.agg #[.string s, .int .i64 P2, .int .i64 E2]] (wanted_guard rfl rfl h111) ?_ ?_
            · simp [execOp, Act.eval, h112, go_sem]
            · exact (end_any s P2 E2 _ hss).mono fun e w' ⟨h1, h2⟩ => ⟨_, h1, h2, rfl⟩
          | 14, ho =>
            have h111 : tmps[111]?.getD undef = .bool false := hty 11 111 rfl (by obtain rfl := (Option.some.inj ho); rfl)
            obtain rfl := (Option.some.inj ho)
            clear hty ho
            refine step_pure (.agg #[.string s, .int .i64 P2, .int .i64 E2]) (wanted_guard rfl rfl h111) ?_ (Ext.refl _) rfl
            simp [execOp, Act.eval, h2, c0, c1, c2, go_sem]
          | 15, ho =>
            have h114 : tmps[114]?.getD undef = .agg #[.string s, .int .i64 P2, .int .i64 E2] := hty 14 114 rfl (by obtain rfl := (Option.some.inj ho); rfl)
            have h111 : tmps[111]?.getD undef = .bool false := hty 11 111 rfl (by obtain rfl := (Option.some.inj ho); rfl)
            obtain rfl := (Option.some.inj ho)
            clear hty ho
            refine step_call 25 #[.agg #[.string s, .int .i64 P2, .int .i64 E2]] (wanted_guard rfl rfl h111) ?_ ?_
            · simp [execOp, Act.eval, h114, go_sem]
            · exact (rend_any s P2 E2 _ hss).mono fun e w' ⟨h1, h2⟩ => ⟨_, h1, h2, rfl⟩
          | 16, ho =>
            have h113 : tmps[113]?.getD undef = .int .i64 (endOf s P2 E2) := hty 13 113 rfl (by obtain rfl := (Option.some.inj ho); rfl)
            have h115 : tmps[115]?.getD undef = .int .i64 (endOf s P2 E2) := hty 15 115 rfl (by obtain rfl := (Option.some.inj ho); rfl)
            have h111 : tmps[111]?.getD undef = .bool false := hty 11 111 rfl (by obtain rfl := (Option.some.inj ho); rfl)
            obtain rfl := (Option.some.inj ho)
            clear hty ho
            refine step_pure (.bool false) (wanted_guard rfl rfl h111) ?_ (Ext.refl _) rfl
            simp [execOp, Act.eval, h113, h115, go_sem]
          | 17, ho =>
            have h111 : tmps[111]?.getD undef = .bool false := hty 11 111 rfl (by obtain rfl := (Option.some.inj ho); rfl)
            have h116 : tmps[116]?.getD undef = .bool false := hty 16 116 rfl (by obtain rfl := (Option.some.inj ho); rfl)
            obtain rfl := (Option.some.inj ho)
            clear hty ho
            refine step_pure (.bool false) (wanted_free rfl) ?_ (Ext.refl _) rfl
            simp [execOp, Act.eval, h111, h116, go_sem]
          | (j + 18), ho => exact absurd ho (by simp)
        · intro tmps wq hle hs hfr hty
          have hcond : tmps[117]?.getD undef = .bool false := hty 17 117 rfl
          have hfe := frame_eq [100, 101, 102, 103, 104, 105, 106, 107, 108, 109, 110, 111, 112, 113, 114, 115, 116, 117] hs hfr (by kernel_rfl)
          rw [hfe]
          clear hfe hfr hs hty
          simp only [List.foldl_cons, List.foldl_nil]
          rw [hcond]
          clear hcond
          generalize tmps[100]?.getD undef = x100
          generalize tmps[101]?.getD undef = x101
          generalize tmps[102]?.getD undef = x102
          generalize tmps[103]?.getD undef = x103
          generalize tmps[104]?.getD undef = x104
          generalize tmps[105]?.getD undef = x105
          generalize tmps[106]?.getD undef = x106
          generalize tmps[107]?.getD undef = x107
          generalize tmps[108]?.getD undef = x108
          generalize tmps[109]?.getD undef = x109
          generalize tmps[110]?.getD undef = x110
          generalize tmps[111]?.getD undef = x111
          generalize tmps[112]?.getD undef = x112
          generalize tmps[113]?.getD undef = x113
          generalize tmps[114]?.getD undef = x114
          generalize tmps[115]?.getD undef = x115
          generalize tmps[116]?.getD undef = x116
          simp only [List.setIfInBounds_toArray, List.set_cons_succ, List.set_cons_zero]
          replace hA := hid (hle.block hA.out)
          replace hD := hid (hle.block hD.out)
          replace HX3 := hid (HX3.out.trans hle)
          clear hle
          go_wp2_with fail
          exact ⟨⟨j + 1, hjl, rfl, P2, E2, hA.out, hD.out, HX3.out⟩, by simp [intOf]; omega⟩
      · by_cases hk1 : k = -1
        · subst hk1
          go_wp2_with fail
          refine (rdword_any s P E _ hss).mono ?_
          rintro e3 w3 ⟨rfl, hx⟩
          replace hA := hid (hx.block hA.out)
          replace hD := hid (hx.block hD.out)
          have HX3 := hid (HX.out.trans hx)
          clear hx c0 c1 c2 f0 f1 f2 y1 d0 d1 d2 g0 g1 g2 z1 hc hblk
          obtain ⟨⟨c0, c1, c2⟩, ⟨f0, f1, f2⟩, y1⟩ := box3 hA.out
          obtain ⟨⟨d0, d1, d2⟩, ⟨g0, g1, g2⟩, z1⟩ := box3 hD.out
          go_wp2_with fail
          refine (rrword_any s P E _ hss).mono ?_
          rintro e4 w4 ⟨rfl, hx⟩
          have hF := hid (hx.block (heap_alloc_new w3 _))
          replace hA := hid (hx.block ((Ext.alloc _ _).block hA.out))
          replace hD := hid (hx.block ((Ext.alloc _ _).block hD.out))
          replace HX3 := hid ((HX3.out.then_alloc _).trans hx)
          have hz3 : w3.heap.size < w4.heap.size := (Array.getElem?_eq_some_iff.1 hF.out).1
          clear hx c0 c1 c2 f0 f1 f2 y1 d0 d1 d2 g0 g1 g2 z1
          obtain ⟨P2, hP2⟩ : ∃ x, x = takeP s P E 8 := ⟨_, rfl⟩
          obtain ⟨E2, hE2⟩ : ∃ x, x = takeE s P E 8 := ⟨_, rfl⟩
          obtain ⟨B2, hB2⟩ : ∃ x, x = worth (takeB s P E 8).data.toList := ⟨_, rfl⟩
          rw [← hP2, ← hE2] at hF
          rw [← hP2, ← hE2, ← hB2]
          clear hP2 hE2 hB2
          obtain ⟨⟨c0, c1, c2⟩, ⟨f0, f1, f2⟩, y1⟩ := box3 hA.out
          obtain ⟨⟨d0, d1, d2⟩, ⟨g0, g1, g2⟩, z1⟩ := box3 hD.out
          obtain ⟨⟨i0, i1, i2⟩, ⟨j0, j1, j2⟩, u1⟩ := box3 hF.out
          go_wp2_with fail
          go_region
          refine gen_exit (fun W => Both w w.heap.size w1.heap.size s W P2 E2) ⟨?_, ?_, ?_⟩ ?_
          · refine (Ext.alloc _ _).block (set3 ((heap_setCell_other _ _ _ _ (by simp; omega)).trans ((heap_setCell_other _ _ _ _ (by simp; omega)).trans ((heap_setCell_other _ _ _ _ (by simp; omega)).trans hA.out))))
          · refine (Ext.alloc _ _).block ((heap_setCell_other _ _ _ _ (by simp; omega)).trans ((heap_setCell_other _ _ _ _ (by simp; omega)).trans ((heap_setCell_other _ _ _ _ (by simp; omega)).trans (set3 hD.out))))
          · repeat (first | (with_reducible exact HX3.out) | (with_reducible apply Ext.then_drew) | (with_reducible apply Ext.then_alloc) | (with_reducible refine Ext.setCell ?_ (by simp <;> omega) _))
          clear hA hD HX3 c0 c1 c2 f0 f1 f2 y1 d0 d1 d2 g0 g1 g2 z1 hF i0 i1 i2 j0 j1 j2 u1 hz3
          rintro W ⟨hA, hD, hX⟩
          replace hA := hid hA
          replace hD := hid hD
          have HX3 := hid hX
          clear hX
          go_wp2_with fail
          refine wp_region_slots Ext (readsG s P2 E2) (by kernel_rfl) Ext.trans Ext.refl (Ext.drew _) (readsG_st _ _ _) (by kernel_rfl) ?_ ?_
          · intro tmps wr hle hfr j o ho hty
            have h2 : tmps[2]?.getD undef = .pointer (some ⟨w.heap.size, 0, none⟩) := hfr 2 (by kernel_rfl)
            have h5 : tmps[5]?.getD undef = .pointer (some ⟨w1.heap.size, 0, none⟩) := hfr 5 (by kernel_rfl)
            have hAx := hid (hle.block hA.out)
            have hDx := hid (hle.block hD.out)
            obtain ⟨⟨c0, c1, c2⟩, _, _⟩ := box3 hAx.out
            obtain ⟨⟨d0, d1, d2⟩, _, _⟩ := box3 hDx.out
            clear hfr
            match j, ho with
            | 0, ho =>
              obtain rfl := (Option.some.inj ho)
              clear hty ho
              refine step_pure (.agg #[.string s, .int .i64 P2, .int .i64 E2]) (wanted_free rfl) ?_ (Ext.refl _) rfl
              simp [execOp, Act.eval, h5, d0, d1, d2, go_sem]
            | 1, ho =>
              have h100 : tmps[100]?.getD undef = .agg #[.string s, .int .i64 P2, .int .i64 E2] := hty 0 100 rfl (by obtain rfl := (Option.some.inj ho); rfl)
              obtain rfl := (Option.some.inj ho)
              clear hty ho
              refine step_call 21 #[.agg #[.string s, .int .i64 P2, .int .i64 E2]] (wanted_free rfl) ?_ ?_
              · simp [execOp, Act.eval, h100, go_sem]
              · exact (back2_any s P2 E2 _).mono fun e w' ⟨h1, h2⟩ => ⟨_, h1, h2, rfl⟩
            | 2, ho =>
              obtain rfl := (Option.some.inj ho)
              clear hty ho
              refine step_pure (.agg #[.string s, .int .i64 P2, .int .i64 E2]) (wanted_free rfl) ?_ (Ext.refl _) rfl
              simp [execOp, Act.eval, h2, c0, c1, c2, go_sem]
            | 3, ho =>
              have h101 : tmps[101]?.getD undef = .agg #[.string s, .int .i64 P2, .int .i64 E2] := hty 1 101 rfl (by obtain rfl := (Option.some.inj ho); rfl)
              have h102 : tmps[102]?.getD undef = .agg #[.string s, .int .i64 P2, .int .i64 E2] := hty 2 102 rfl (by obtain rfl := (Option.some.inj ho); rfl)
              obtain rfl := (Option.some.inj ho)
              clear hty ho
              refine step_pure (.bool false) (wanted_free rfl) ?_ (Ext.refl _) rfl
              simp [execOp, Act.eval, h101, h102, go_sem]
            | 4, ho =>
              have h103 : tmps[103]?.getD undef = .bool false := hty 3 103 rfl (by obtain rfl := (Option.some.inj ho); rfl)
              obtain rfl := (Option.some.inj ho)
              clear hty ho
              refine step_pure (.bool false) (wanted_free rfl) ?_ (Ext.refl _) rfl
              simp [execOp, Act.eval, h103, go_sem]
            | 5, ho =>
              have h104 : tmps[104]?.getD undef = .bool false := hty 4 104 rfl (by obtain rfl := (Option.some.inj ho); rfl)
              obtain rfl := (Option.some.inj ho)
              clear hty ho
              refine step_pure (.agg #[.string s, .int .i64 P2, .int .i64 E2]) (wanted_guard rfl rfl h104) ?_ (Ext.refl _) rfl
              simp [execOp, Act.eval, h5, d0, d1, d2, go_sem]
            | 6, ho =>
              have h105 : tmps[105]?.getD undef = .agg #[.string s, .int .i64 P2, .int .i64 E2] := hty 5 105 rfl (by obtain rfl := (Option.some.inj ho); rfl)
              have h104 : tmps[104]?.getD undef = .bool false := hty 4 104 rfl (by obtain rfl := (Option.some.inj ho); rfl)
              obtain rfl := (Option.some.inj ho)
              clear hty ho
              refine step_call 22 #[.agg #[.string s, .int .i64 P2, .int .i64 E2]] (wanted_guard rfl rfl h104) ?_ ?_
              · simp [execOp, Act.eval, h105, go_sem]
              · exact (left_any s P2 E2 _ hss).mono fun e w' ⟨h1, h2⟩ => ⟨_, h1, h2, rfl⟩
            | 7, ho =>
              have h104 : tmps[104]?.getD undef = .bool false := hty 4 104 rfl (by obtain rfl := (Option.some.inj ho); rfl)
              obtain rfl := (Option.some.inj ho)
              clear hty ho
              refine step_pure (.agg #[.string s, .int .i64 P2, .int .i64 E2]) (wanted_guard rfl rfl h104) ?_ (Ext.refl _) rfl
              simp [execOp, Act.eval, h2, c0, c1, c2, go_sem]
            | 8, ho =>
              have h107 : tmps[107]?.getD undef = .agg #[.string s, .int .i64 P2, .int .i64 E2] := hty 7 107 rfl (by obtain rfl := (Option.some.inj ho); rfl)
              have h104 : tmps[104]?.getD undef = .bool false := hty 4 104 rfl (by obtain rfl := (Option.some.inj ho); rfl)
              obtain rfl := (Option.some.inj ho)
              clear hty ho
              refine step_call 23 #[.agg #[.string s, .int .i64 P2, .int .i64 E2]] (wanted_guard rfl rfl h104) ?_ ?_
              · simp [execOp, Act.eval, h107, go_sem]
              · exact (rleft_any s P2 E2 _ hss).mono fun e w' ⟨h1, h2⟩ => ⟨_, h1, h2, rfl⟩
            | 9, ho =>
              have h106 : tmps[106]?.getD undef = .int .i64 (leftOf s P2) := hty 6 106 rfl (by obtain rfl := (Option.some.inj ho); rfl)
              have h108 : tmps[108]?.getD undef = .int .i64 (leftOf s P2) := hty 8 108 rfl (by obtain rfl := (Option.some.inj ho); rfl)
              have h104 : tmps[104]?.getD undef = .bool false := hty 4 104 rfl (by obtain rfl := (Option.some.inj ho); rfl)
              obtain rfl := (Option.some.inj ho)
              clear hty ho
              refine step_pure (.bool false) (wanted_guard rfl rfl h104) ?_ (Ext.refl _) rfl
              simp [execOp, Act.eval, h106, h108, go_sem]
            | 10, ho =>
              have h104 : tmps[104]?.getD undef = .bool false := hty 4 104 rfl (by obtain rfl := (Option.some.inj ho); rfl)
              have h109 : tmps[109]?.getD undef = .bool false := hty 9 109 rfl (by obtain rfl := (Option.some.inj ho); rfl)
              obtain rfl := (Option.some.inj ho)
              clear hty ho
              refine step_pure (.bool false) (wanted_free rfl) ?_ (Ext.refl _) rfl
              simp [execOp, Act.eval, h104, h109, go_sem]
            | 11, ho =>
              have h110 : tmps[110]?.getD undef = .bool false := hty 10 110 rfl (by obtain rfl := (Option.some.inj ho); rfl)
              obtain rfl := (Option.some.inj ho)
              clear hty ho
              refine step_pure (.bool false) (wanted_free rfl) ?_ (Ext.refl _) rfl
              simp [execOp, Act.eval, h110, go_sem]
            | 12, ho =>
              have h111 : tmps[111]?.getD undef = .bool false := hty 11 111 rfl (by obtain rfl := (Option.some.inj ho); rfl)
              obtain rfl := (Option.some.inj ho)
              clear hty ho
              refine step_pure (.agg #[.string s, .int .i64 P2, .int .i64 E2]) (wanted_guard rfl rfl h111) ?_ (Ext.refl _) rfl
              simp [execOp, Act.eval, h5, d0, d1, d2, go_sem]
            | 13, ho =>
              have h112 : tmps[112]?.getD undef = .agg #[.string s, .int .i64 P2, .int .i64 E2] := hty 12 112 rfl (by obtain rfl := (Option.some.inj ho); rfl)
              have h111 : tmps[111]?.getD undef = .bool false := hty 11 111 rfl (by obtain rfl := (Option.some.inj ho); rfl)
              obtain rfl := (Option.some.inj ho)
              clear hty ho
              refine step_call 24 #[.agg #[.string s, .int .i64 P2, .int .i64 E2]] (wanted_guard rfl rfl h111) ?_ ?_
              · simp [execOp, Act.eval, h112, go_sem]
              · exact (end_any s P2 E2 _ hss).mono fun e w' ⟨h1, h2⟩ => ⟨_, h1, h2, rfl⟩
            | 14, ho =>
              have h111 : tmps[111]?.getD undef = .bool false := hty 11 111 rfl (by obtain rfl := (Option.some.inj ho); rfl)
              obtain rfl := (Option.some.inj ho)
              clear hty ho
              refine step_pure (.agg #[.string s, .int .i64 P2, .int .i64 E2]) (wanted_guard rfl rfl h111) ?_ (Ext.refl _) rfl
              simp [execOp, Act.eval, h2, c0, c1, c2, go_sem]
            | 15, ho =>
              have h114 : tmps[114]?.getD undef = .agg #[.string s, .int .i64 P2, .int .i64 E2] := hty 14 114 rfl (by obtain rfl := (Option.some.inj ho); rfl)
              have h111 : tmps[111]?.getD undef = .bool false := hty 11 111 rfl (by obtain rfl := (Option.some.inj ho); rfl)
              obtain rfl := (Option.some.inj ho)
              clear hty ho
              refine step_call 25 #[.agg #[.string s, .int .i64 P2, .int .i64 E2]] (wanted_guard rfl rfl h111) ?_ ?_
              · simp [execOp, Act.eval, h114, go_sem]
              · exact (rend_any s P2 E2 _ hss).mono fun e w' ⟨h1, h2⟩ => ⟨_, h1, h2, rfl⟩
            | 16, ho =>
              have h113 : tmps[113]?.getD undef = .int .i64 (endOf s P2 E2) := hty 13 113 rfl (by obtain rfl := (Option.some.inj ho); rfl)
              have h115 : tmps[115]?.getD undef = .int .i64 (endOf s P2 E2) := hty 15 115 rfl (by obtain rfl := (Option.some.inj ho); rfl)
              have h111 : tmps[111]?.getD undef = .bool false := hty 11 111 rfl (by obtain rfl := (Option.some.inj ho); rfl)
              obtain rfl := (Option.some.inj ho)
              clear hty ho
              refine step_pure (.bool false) (wanted_guard rfl rfl h111) ?_ (Ext.refl _) rfl
              simp [execOp, Act.eval, h113, h115, go_sem]
            | 17, ho =>
              have h111 : tmps[111]?.getD undef = .bool false := hty 11 111 rfl (by obtain rfl := (Option.some.inj ho); rfl)
              have h116 : tmps[116]?.getD undef = .bool false := hty 16 116 rfl (by obtain rfl := (Option.some.inj ho); rfl)
              obtain rfl := (Option.some.inj ho)
              clear hty ho
              refine step_pure (.bool false) (wanted_free rfl) ?_ (Ext.refl _) rfl
              simp [execOp, Act.eval, h111, h116, go_sem]
            | (j + 18), ho => exact absurd ho (by simp)
          · intro tmps wq hle hs hfr hty
            have hcond : tmps[117]?.getD undef = .bool false := hty 17 117 rfl
            have hfe := frame_eq [100, 101, 102, 103, 104, 105, 106, 107, 108, 109, 110, 111, 112, 113, 114, 115, 116, 117] hs hfr (by kernel_rfl)
            rw [hfe]
            clear hfe hfr hs hty
            simp only [List.foldl_cons, List.foldl_nil]
            rw [hcond]
            clear hcond
            generalize tmps[100]?.getD undef = x100
            generalize tmps[101]?.getD undef = x101
            generalize tmps[102]?.getD undef = x102
            generalize tmps[103]?.getD undef = x103
            generalize tmps[104]?.getD undef = x104
            generalize tmps[105]?.getD undef = x105
            generalize tmps[106]?.getD undef = x106
            generalize tmps[107]?.getD undef = x107
            generalize tmps[108]?.getD undef = x108
            generalize tmps[109]?.getD undef = x109
            generalize tmps[110]?.getD undef = x110
            generalize tmps[111]?.getD undef = x111
            generalize tmps[112]?.getD undef = x112
            generalize tmps[113]?.getD undef = x113
            generalize tmps[114]?.getD undef = x114
            generalize tmps[115]?.getD undef = x115
            generalize tmps[116]?.getD undef = x116
            simp only [List.setIfInBounds_toArray, List.set_cons_succ, List.set_cons_zero]
            replace hA := hid (hle.block hA.out)
            replace hD := hid (hle.block hD.out)
            replace HX3 := hid (HX3.out.trans hle)
            clear hle
            go_wp2_with fail
            exact ⟨⟨j + 1, hjl, rfl, P2, E2, hA.out, hD.out, HX3.out⟩, by simp [intOf]; omega⟩
        · obtain ⟨P2, hP2⟩ : ∃ x, x = numP s P E k := ⟨_, rfl⟩
          obtain ⟨E2, hE2⟩ : ∃ x, x = numE s P E k := ⟨_, rfl⟩
          obtain ⟨N2, hN2⟩ : ∃ x : Int, x = numN s P E k := ⟨_, rfl⟩
          have HC1 : Hid (∀ wz, Calls Try.prog 19 #[.agg #[.string s, .int .i64 P, .int .i64 E], .int .i64 k] wz (Says2 wz (rd s P2 E2) (.int .i64 N2))) := hid fun wz => by rw [hP2, hE2, hN2]; exact rdnum_any s P E k wz hss
          have HC2 : Hid (∀ wz, Calls Try.prog 20 #[.agg #[.string s, .int .i64 P, .int .i64 E], .int .i64 k] wz (Says2 wz (rd s P2 E2) (.int .i64 N2))) := hid fun wz => by rw [hP2, hE2, hN2]; exact rrnum_any s P E k wz hss
          clear hP2 hE2 hN2
          go_upto_region 19 with fail
          go_cut [15, 16] from 31 to 117 (fun v n wx => n = .int .i64 N2 ∧ ∃ g, v = .pointer (some ⟨g, 0, none⟩) ∧ wr.heap.size ≤ g ∧ wx.heap[g]? = some (.cells #[.string s, .int .i64 P2, .int .i64 E2] 39 (0, 0)) ∧ Ext wr wx)
          case first =>
            go_region_with (go_at_call 19; refine (HC1.out _).mono ?_; rintro e' w' ⟨rfl, hx'⟩; try (have hG := hid (hx'.block (heap_alloc_new _ _)); obtain ⟨⟨i0, i1, i2⟩, ⟨j0, j1, j2⟩, u1⟩ := box3 hG.out))
            all_goals (go_wp2_with fail; go_meet)
            all_goals
              have hE : Ext wr w' := by first | (with_reducible exact (Ext.drew _).trans hx') | (with_reducible exact ((Ext.alloc _ _).trans (Ext.drew _)).trans hx')
              first
                | exact ⟨rfl, wr.heap.size, rfl, Nat.le_refl _, set3 hG.out, ((hE.setCell (Nat.le_refl _) _).setCell (Nat.le_refl _) _).setCell (Nat.le_refl _) _⟩
                | exact ⟨rfl, w'.heap.size, rfl, hE.size, heap_alloc_new _ _, hE.then_alloc _⟩
          case rest =>
            obtain ⟨rfl, gx, rfl, hgx, hG, hE⟩ := hcut
            clear c0 c1 c2 f0 f1 f2 d0 d1 d2 g0 g1 g2  HC1
            have hgw : w1.heap.size < gx := Nat.lt_of_lt_of_le z1 hgx
            have hgr : w.heap.size < gx := Nat.lt_trans hbr hgw
            clear z1 y1 hgx
            replace hA := hid (hE.block hA.out)
            replace hD := hid (hE.block hD.out)
            replace hc := hE.cell hc
            have HX3 := hid (HX.out.trans hE)
            have hGx := hid hG
            have hblk2 : bl < wc.heap.size := World.block_lt_of_cell? _ _ hc
            clear hE hG hblk
            obtain ⟨⟨c0, c1, c2⟩, ⟨f0, f1, f2⟩, y1⟩ := box3 hA.out
            have hz : w1.heap.size < wc.heap.size := (Array.getElem?_eq_some_iff.1 hD.out).1
            go_upto_region 20 with fail
            go_cut [17, 18] from 31 to 117 (fun v n wx => n = .int .i64 N2 ∧ ∃ g, v = .pointer (some ⟨g, 0, none⟩) ∧ wc.heap.size ≤ g ∧ wx.heap[g]? = some (.cells #[.string s, .int .i64 P2, .int .i64 E2] 36 (0, 0)) ∧ Ext wc wx)
            case first =>
              go_region_with (go_at_call 20; refine (HC2.out _).mono ?_; rintro e' w' ⟨rfl, hx'⟩; try (have hG := hid (hx'.block (heap_alloc_new _ _)); obtain ⟨⟨i0, i1, i2⟩, ⟨j0, j1, j2⟩, u1⟩ := box3 hG.out))
              all_goals (go_wp2_with fail; go_meet)
              all_goals
                have hE : Ext wc w' := by first | (with_reducible exact (Ext.drew _).trans hx') | (with_reducible exact ((Ext.alloc _ _).trans (Ext.drew _)).trans hx')
                first
                  | exact ⟨rfl, wc.heap.size, rfl, Nat.le_refl _, set3 hG.out, ((hE.setCell (Nat.le_refl _) _).setCell (Nat.le_refl _) _).setCell (Nat.le_refl _) _⟩
                  | exact ⟨rfl, w'.heap.size, rfl, hE.size, heap_alloc_new _ _, hE.then_alloc _⟩
            case rest =>
              obtain ⟨rfl, gr, rfl, hgg, hG, hE⟩ := hcut
              have hgr1 : w1.heap.size < gr := Nat.lt_of_lt_of_le hz hgg
              have hgr2 : w.heap.size < gr := Nat.lt_trans hbr hgr1
              clear hz hgg
              replace hA := hid (hE.block hA.out)
              replace hD := hid (hE.block hD.out)
              replace hGx := hid (hE.block hGx.out)
              replace HX3 := hid (HX3.out.trans hE)
              clear hE c0 c1 c2 f0 f1 f2 y1 hc hblk2 HC2
              obtain ⟨⟨c0, c1, c2⟩, ⟨f0, f1, f2⟩, y1⟩ := box3 hA.out
              obtain ⟨⟨d0, d1, d2⟩, ⟨g0, g1, g2⟩, z1⟩ := box3 hD.out
              obtain ⟨⟨i0, i1, i2⟩, ⟨j0, j1, j2⟩, u1⟩ := box3 hGx.out
              obtain ⟨⟨k0, k1, k2⟩, ⟨l0, l1, l2⟩, v1⟩ := box3 hG
              clear hG
              go_wp2_with fail
              go_region
              refine gen_exit (fun W => Both w w.heap.size w1.heap.size s W P2 E2) ⟨?_, ?_, ?_⟩ ?_
              · refine (Ext.drew _).block (set3 ((heap_setCell_other _ _ _ _ (by simp; omega)).trans ((heap_setCell_other _ _ _ _ (by simp; omega)).trans ((heap_setCell_other _ _ _ _ (by simp; omega)).trans hA.out))))
              · refine (Ext.drew _).block ((heap_setCell_other _ _ _ _ (by simp; omega)).trans ((heap_setCell_other _ _ _ _ (by simp; omega)).trans ((heap_setCell_other _ _ _ _ (by simp; omega)).trans (set3 hD.out))))
              · repeat (first | (with_reducible exact HX3.out) | (with_reducible apply Ext.then_drew) | (with_reducible apply Ext.then_alloc) | (with_reducible refine Ext.setCell ?_ (by simp <;> omega) _))
              clear hA hD HX3 c0 c1 c2 f0 f1 f2 y1 d0 d1 d2 g0 g1 g2 z1 i0 i1 i2 j0 j1 j2 u1 k0 k1 k2 l0 l1 l2 v1
              rintro W ⟨hA, hD, hX⟩
              replace hA := hid hA
              replace hD := hid hD
              have HX3 := hid hX
              clear hX
              go_wp2_with fail
              refine wp_region_slots Ext (readsG s P2 E2) (by kernel_rfl) Ext.trans Ext.refl (Ext.drew _) (readsG_st _ _ _) (by kernel_rfl) ?_ ?_
              · intro tmps wr hle hfr j o ho hty
                have h2 : tmps[2]?.getD undef = .pointer (some ⟨w.heap.size, 0, none⟩) := hfr 2 (by kernel_rfl)
                have h5 : tmps[5]?.getD undef = .pointer (some ⟨w1.heap.size, 0, none⟩) := hfr 5 (by kernel_rfl)
                have hAx := hid (hle.block hA.out)
                have hDx := hid (hle.block hD.out)
                obtain ⟨⟨c0, c1, c2⟩, _, _⟩ := box3 hAx.out
                obtain ⟨⟨d0, d1, d2⟩, _, _⟩ := box3 hDx.out
                clear hfr
                match j, ho with
                | 0, ho =>
                  obtain rfl := (Option.some.inj ho)
                  clear hty ho
                  refine step_pure (.agg #[.string s, .int .i64 P2, .int .i64 E2]) (wanted_free rfl) ?_ (Ext.refl _) rfl
                  simp [execOp, Act.eval, h5, d0, d1, d2, go_sem]
                | 1, ho =>
                  have h100 : tmps[100]?.getD undef = .agg #[.string s, .int .i64 P2, .int .i64 E2] := hty 0 100 rfl (by obtain rfl := (Option.some.inj ho); rfl)
                  obtain rfl := (Option.some.inj ho)
                  clear hty ho
                  refine step_call 21 #[.agg #[.string s, .int .i64 P2, .int .i64 E2]] (wanted_free rfl) ?_ ?_
                  · simp [execOp, Act.eval, h100, go_sem]
                  · exact (back2_any s P2 E2 _).mono fun e w' ⟨h1, h2⟩ => ⟨_, h1, h2, rfl⟩
                | 2, ho =>
                  obtain rfl := (Option.some.inj ho)
                  clear hty ho
                  refine step_pure (.agg #[.string s, .int .i64 P2, .int .i64 E2]) (wanted_free rfl) ?_ (Ext.refl _) rfl
                  simp [execOp, Act.eval, h2, c0, c1, c2, go_sem]
                | 3, ho =>
                  have h101 : tmps[101]?.getD undef = .agg #[.string s, .int .i64 P2, .int .i64 E2] := hty 1 101 rfl (by obtain rfl := (Option.some.inj ho); rfl)
                  have h102 : tmps[102]?.getD undef = .agg #[.string s, .int .i64 P2, .int .i64 E2] := hty 2 102 rfl (by obtain rfl := (Option.some.inj ho); rfl)
                  obtain rfl := (Option.some.inj ho)
                  clear hty ho
                  refine step_pure (.bool false) (wanted_free rfl) ?_ (Ext.refl _) rfl
                  simp [execOp, Act.eval, h101, h102, go_sem]
                | 4, ho =>
                  have h103 : tmps[103]?.getD undef = .bool false := hty 3 103 rfl (by obtain rfl := (Option.some.inj ho); rfl)
                  obtain rfl := (Option.some.inj ho)
                  clear hty ho
                  refine step_pure (.bool false) (wanted_free rfl) ?_ (Ext.refl _) rfl
                  simp [execOp, Act.eval, h103, go_sem]
                | 5, ho =>
                  have h104 : tmps[104]?.getD undef = .bool false := hty 4 104 rfl (by obtain rfl := (Option.some.inj ho); rfl)
                  obtain rfl := (Option.some.inj ho)
                  clear hty ho
                  refine step_pure (.agg #[.string s, .int .i64 P2, .int .i64 E2]) (wanted_guard rfl rfl h104) ?_ (Ext.refl _) rfl
                  simp [execOp, Act.eval, h5, d0, d1, d2, go_sem]
                | 6, ho =>
                  have h105 : tmps[105]?.getD undef = .agg #[.string s, .int .i64 P2, .int .i64 E2] := hty 5 105 rfl (by obtain rfl := (Option.some.inj ho); rfl)
                  have h104 : tmps[104]?.getD undef = .bool false := hty 4 104 rfl (by obtain rfl := (Option.some.inj ho); rfl)
                  obtain rfl := (Option.some.inj ho)
                  clear hty ho
                  refine step_call 22 #[.agg #[.string s, .int .i64 P2, .int .i64 E2]] (wanted_guard rfl rfl h104) ?_ ?_
                  · simp [execOp, Act.eval, h105, go_sem]
                  · exact (left_any s P2 E2 _ hss).mono fun e w' ⟨h1, h2⟩ => ⟨_, h1, h2, rfl⟩
                | 7, ho =>
                  have h104 : tmps[104]?.getD undef = .bool false := hty 4 104 rfl (by obtain rfl := (Option.some.inj ho); rfl)
                  obtain rfl := (Option.some.inj ho)
                  clear hty ho
                  refine step_pure (.agg #[.string s, .int .i64 P2, .int .i64 E2]) (wanted_guard rfl rfl h104) ?_ (Ext.refl _) rfl
                  simp [execOp, Act.eval, h2, c0, c1, c2, go_sem]
                | 8, ho =>
                  have h107 : tmps[107]?.getD undef = .agg #[.string s, .int .i64 P2, .int .i64 E2] := hty 7 107 rfl (by obtain rfl := (Option.some.inj ho); rfl)
                  have h104 : tmps[104]?.getD undef = .bool false := hty 4 104 rfl (by obtain rfl := (Option.some.inj ho); rfl)
                  obtain rfl := (Option.some.inj ho)
                  clear hty ho
                  refine step_call 23 #[.agg #[.string s, .int .i64 P2, .int .i64 E2]] (wanted_guard rfl rfl h104) ?_ ?_
                  · simp [execOp, Act.eval, h107, go_sem]
                  · exact (rleft_any s P2 E2 _ hss).mono fun e w' ⟨h1, h2⟩ => ⟨_, h1, h2, rfl⟩
                | 9, ho =>
                  have h106 : tmps[106]?.getD undef = .int .i64 (leftOf s P2) := hty 6 106 rfl (by obtain rfl := (Option.some.inj ho); rfl)
                  have h108 : tmps[108]?.getD undef = .int .i64 (leftOf s P2) := hty 8 108 rfl (by obtain rfl := (Option.some.inj ho); rfl)
                  have h104 : tmps[104]?.getD undef = .bool false := hty 4 104 rfl (by obtain rfl := (Option.some.inj ho); rfl)
                  obtain rfl := (Option.some.inj ho)
                  clear hty ho
                  refine step_pure (.bool false) (wanted_guard rfl rfl h104) ?_ (Ext.refl _) rfl
                  simp [execOp, Act.eval, h106, h108, go_sem]
                | 10, ho =>
                  have h104 : tmps[104]?.getD undef = .bool false := hty 4 104 rfl (by obtain rfl := (Option.some.inj ho); rfl)
                  have h109 : tmps[109]?.getD undef = .bool false := hty 9 109 rfl (by obtain rfl := (Option.some.inj ho); rfl)
                  obtain rfl := (Option.some.inj ho)
                  clear hty ho
                  refine step_pure (.bool false) (wanted_free rfl) ?_ (Ext.refl _) rfl
                  simp [execOp, Act.eval, h104, h109, go_sem]
                | 11, ho =>
                  have h110 : tmps[110]?.getD undef = .bool false := hty 10 110 rfl (by obtain rfl := (Option.some.inj ho); rfl)
                  obtain rfl := (Option.some.inj ho)
                  clear hty ho
                  refine step_pure (.bool false) (wanted_free rfl) ?_ (Ext.refl _) rfl
                  simp [execOp, Act.eval, h110, go_sem]
                | 12, ho =>
                  have h111 : tmps[111]?.getD undef = .bool false := hty 11 111 rfl (by obtain rfl := (Option.some.inj ho); rfl)
                  obtain rfl := (Option.some.inj ho)
                  clear hty ho
                  refine step_pure (.agg #[.string s, .int .i64 P2, .int .i64 E2]) (wanted_guard rfl rfl h111) ?_ (Ext.refl _) rfl
                  simp [execOp, Act.eval, h5, d0, d1, d2, go_sem]
                | 13, ho =>
                  have h112 : tmps[112]?.getD undef = .agg #[.string s, .int .i64 P2, .int .i64 E2] := hty 12 112 rfl (by obtain rfl := (Option.some.inj ho); rfl)
                  have h111 : tmps[111]?.getD undef = .bool false := hty 11 111 rfl (by obtain rfl := (Option.some.inj ho); rfl)
                  obtain rfl := (Option.some.inj ho)
                  clear hty ho
                  refine step_call 24 #[.agg #[.string s, .int .i64 P2, .int .i64 E2]] (wanted_guard rfl rfl h111) ?_ ?_
                  · simp [execOp, Act.eval, h112, go_sem]
                  · exact (end_any s P2 E2 _ hss).mono fun e w' ⟨h1, h2⟩ => ⟨_, h1, h2, rfl⟩
                | 14, ho =>
                  have h111 : tmps[111]?.getD undef = .bool false := hty 11 111 rfl (by obtain rfl := (Option.some.inj ho); rfl)
                  obtain rfl := (Option.some.inj ho)
                  clear hty ho
                  refine step_pure (.agg #[.string s, .int .i64 P2, .int .i64 E2]) (wanted_guard rfl rfl h111) ?_ (Ext.refl _) rfl
                  simp [execOp, Act.eval, h2, c0, c1, c2, go_sem]
                | 15, ho =>
                  have h114 : tmps[114]?.getD undef = .agg #[.string s, .int .i64 P2, .int .i64 E2] := hty 14 114 rfl (by obtain rfl := (Option.some.inj ho); rfl)
                  have h111 : tmps[111]?.getD undef = .bool false := hty 11 111 rfl (by obtain rfl := (Option.some.inj ho); rfl)
                  obtain rfl := (Option.some.inj ho)
                  clear hty ho
                  refine step_call 25 #[.agg #[.string s, .int .i64 P2, .int .i64 E2]] (wanted_guard rfl rfl h111) ?_ ?_
                  · simp [execOp, Act.eval, h114, go_sem]
                  · exact (rend_any s P2 E2 _ hss).mono fun e w' ⟨h1, h2⟩ => ⟨_, h1, h2, rfl⟩
                | 16, ho =>
                  have h113 : tmps[113]?.getD undef = .int .i64 (endOf s P2 E2) := hty 13 113 rfl (by obtain rfl := (Option.some.inj ho); rfl)
                  have h115 : tmps[115]?.getD undef = .int .i64 (endOf s P2 E2) := hty 15 115 rfl (by obtain rfl := (Option.some.inj ho); rfl)
                  have h111 : tmps[111]?.getD undef = .bool false := hty 11 111 rfl (by obtain rfl := (Option.some.inj ho); rfl)
                  obtain rfl := (Option.some.inj ho)
                  clear hty ho
                  refine step_pure (.bool false) (wanted_guard rfl rfl h111) ?_ (Ext.refl _) rfl
                  simp [execOp, Act.eval, h113, h115, go_sem]
                | 17, ho =>
                  have h111 : tmps[111]?.getD undef = .bool false := hty 11 111 rfl (by obtain rfl := (Option.some.inj ho); rfl)
                  have h116 : tmps[116]?.getD undef = .bool false := hty 16 116 rfl (by obtain rfl := (Option.some.inj ho); rfl)
                  obtain rfl := (Option.some.inj ho)
                  clear hty ho
                  refine step_pure (.bool false) (wanted_free rfl) ?_ (Ext.refl _) rfl
                  simp [execOp, Act.eval, h111, h116, go_sem]
                | (j + 18), ho => exact absurd ho (by simp)
              · intro tmps wq hle hs hfr hty
                have hcond : tmps[117]?.getD undef = .bool false := hty 17 117 rfl
                have hfe := frame_eq [100, 101, 102, 103, 104, 105, 106, 107, 108, 109, 110, 111, 112, 113, 114, 115, 116, 117] hs hfr (by kernel_rfl)
                rw [hfe]
                clear hfe hfr hs hty
                simp only [List.foldl_cons, List.foldl_nil]
                rw [hcond]
                clear hcond
                generalize tmps[100]?.getD undef = x100
                generalize tmps[101]?.getD undef = x101
                generalize tmps[102]?.getD undef = x102
                generalize tmps[103]?.getD undef = x103
                generalize tmps[104]?.getD undef = x104
                generalize tmps[105]?.getD undef = x105
                generalize tmps[106]?.getD undef = x106
                generalize tmps[107]?.getD undef = x107
                generalize tmps[108]?.getD undef = x108
                generalize tmps[109]?.getD undef = x109
                generalize tmps[110]?.getD undef = x110
                generalize tmps[111]?.getD undef = x111
                generalize tmps[112]?.getD undef = x112
                generalize tmps[113]?.getD undef = x113
                generalize tmps[114]?.getD undef = x114
                generalize tmps[115]?.getD undef = x115
                generalize tmps[116]?.getD undef = x116
                simp only [List.setIfInBounds_toArray, List.set_cons_succ, List.set_cons_zero]
                replace hA := hid (hle.block hA.out)
                replace hD := hid (hle.block hD.out)
                replace HX3 := hid (HX3.out.trans hle)
                clear hle
                go_wp2_with fail
                exact ⟨⟨j + 1, hjl, rfl, P2, E2, hA.out, hD.out, HX3.out⟩, by simp [intOf]; omega⟩
    · have hge : (L.length : Int) ≤ (j : Int) := by omega
      clear hjl
      go_wp2_with fail
      refine wp_region_slots Ext (exitG s w.heap.size) (by kernel_rfl) Ext.trans Ext.refl (Ext.drew _) (exitG_st _ _) (by kernel_rfl) ?_ ?_
      · intro tmps wr hle hfr j o ho hty
        have h2 : tmps[2]?.getD undef = .pointer (some ⟨w.heap.size, 0, none⟩) := hfr 2 (by kernel_rfl)
        have hAx := hid (hle.block hA.out)
        obtain ⟨⟨c0, c1, c2⟩, _, _⟩ := box3 hAx.out
        clear hfr
        match j, ho with
        | 0, ho =>
          obtain rfl := (Option.some.inj ho)
          clear hty ho
          refine step_pure (.pointer (some ⟨w.heap.size, 0, none⟩)) (wanted_free rfl) ?_ (Ext.refl _) rfl
          simp [execOp, Act.eval, h2, go_sem]
        | 1, ho =>
          have h118 : tmps[118]?.getD undef = .pointer (some ⟨w.heap.size, 0, none⟩) := hty 0 118 rfl (by obtain rfl := (Option.some.inj ho); rfl)
          obtain rfl := (Option.some.inj ho)
          clear hty ho
          refine step_pure (.string s) (wanted_free rfl) ?_ (Ext.refl _) rfl
          simp [execOp, Act.eval, h118, c0, go_sem]
        | 2, ho =>
          have h119 : tmps[119]?.getD undef = .string s := hty 1 119 rfl (by obtain rfl := (Option.some.inj ho); rfl)
          obtain rfl := (Option.some.inj ho)
          clear hty ho
          refine step_call 26 #[.string s] (wanted_free rfl) ?_ ?_
          · simp [execOp, Act.eval, h119, go_sem]
          · exact (open_any s _).mono fun e w' ⟨h1, h2⟩ => ⟨_, h1, h2, rfl⟩
        | 3, ho =>
          obtain rfl := (Option.some.inj ho)
          clear hty ho
          refine step_pure (.pointer (some ⟨w.heap.size, 0, none⟩)) (wanted_free rfl) ?_ (Ext.refl _) rfl
          simp [execOp, Act.eval, h2, go_sem]
        | 4, ho =>
          have h121 : tmps[121]?.getD undef = .pointer (some ⟨w.heap.size, 0, none⟩) := hty 3 121 rfl (by obtain rfl := (Option.some.inj ho); rfl)
          obtain rfl := (Option.some.inj ho)
          clear hty ho
          refine step_pure (.string s) (wanted_free rfl) ?_ (Ext.refl _) rfl
          simp [execOp, Act.eval, h121, c0, go_sem]
        | 5, ho =>
          have h122 : tmps[122]?.getD undef = .string s := hty 4 122 rfl (by obtain rfl := (Option.some.inj ho); rfl)
          obtain rfl := (Option.some.inj ho)
          clear hty ho
          refine step_call 27 #[.string s] (wanted_free rfl) ?_ ?_
          · simp [execOp, Act.eval, h122, go_sem]
          · exact (ropen_any s _).mono fun e w' ⟨h1, h2⟩ => ⟨_, h1, h2, rfl⟩
        | 6, ho =>
          have h123 : tmps[123]?.getD undef = .agg #[.string s, .int .i64 0, .int .i64 0] := hty 5 123 rfl (by obtain rfl := (Option.some.inj ho); rfl)
          obtain rfl := (Option.some.inj ho)
          clear hty ho
          refine step_call 14 #[.agg #[.string s, .int .i64 0, .int .i64 0]] (wanted_free rfl) ?_ ?_
          · simp [execOp, Act.eval, h123, go_sem]
          · exact (own_any s 0 0 _).mono fun e w' ⟨h1, h2⟩ => ⟨_, h1, h2, rfl⟩
        | 7, ho =>
          have h120 : tmps[120]?.getD undef = .agg #[.string s, .int .i64 0, .int .i64 0] := hty 2 120 rfl (by obtain rfl := (Option.some.inj ho); rfl)
          have h124 : tmps[124]?.getD undef = .agg #[.string s, .int .i64 0, .int .i64 0] := hty 6 124 rfl (by obtain rfl := (Option.some.inj ho); rfl)
          obtain rfl := (Option.some.inj ho)
          clear hty ho
          refine step_pure (.bool true) (wanted_free rfl) ?_ (Ext.refl _) rfl
          simp [execOp, Act.eval, h120, h124, go_sem]
        | 8, ho =>
          have h125 : tmps[125]?.getD undef = .bool true := hty 7 125 rfl (by obtain rfl := (Option.some.inj ho); rfl)
          obtain rfl := (Option.some.inj ho)
          clear hty ho
          refine step_pure (.bool true) (wanted_free rfl) ?_ (Ext.refl _) rfl
          simp [execOp, Act.eval, h125, go_sem]
        | 9, ho =>
          have h126 : tmps[126]?.getD undef = .bool true := hty 8 126 rfl (by obtain rfl := (Option.some.inj ho); rfl)
          obtain rfl := (Option.some.inj ho)
          clear hty ho
          refine step_call 7 #[] (wanted_guard rfl rfl h126) ?_ ?_
          · simp [execOp, Act.eval, go_sem]
          · exact (awake_any _).mono fun e w' ⟨h1, h2⟩ => ⟨_, h1, h2, rfl⟩
        | 10, ho =>
          have h126 : tmps[126]?.getD undef = .bool true := hty 8 126 rfl (by obtain rfl := (Option.some.inj ho); rfl)
          have h127 : tmps[127]?.getD undef = .bool true := hty 9 127 rfl (by obtain rfl := (Option.some.inj ho); rfl)
          obtain rfl := (Option.some.inj ho)
          clear hty ho
          refine step_pure (.bool true) (wanted_free rfl) ?_ (Ext.refl _) rfl
          simp [execOp, Act.eval, h126, h127, go_sem]
        | 11, ho =>
          have h128 : tmps[128]?.getD undef = .bool true := hty 10 128 rfl (by obtain rfl := (Option.some.inj ho); rfl)
          obtain rfl := (Option.some.inj ho)
          clear hty ho
          refine step_pure (.bool true) (wanted_free rfl) ?_ (Ext.refl _) rfl
          simp [execOp, Act.eval, h128, go_sem]
        | (j + 12), ho => exact absurd ho (by simp)
      · intro tmps wq hle hs hfr hty
        have hcond : tmps[4]?.getD undef = .bool true := hty 11 4 rfl
        have hfe := frame_eq [118, 119, 120, 121, 122, 123, 124, 125, 126, 127, 128, 4] hs hfr (by kernel_rfl)
        rw [hfe]
        clear hfe hfr hs hty
        simp only [List.foldl_cons, List.foldl_nil]
        rw [hcond]
        clear hcond
        generalize tmps[118]?.getD undef = x118
        generalize tmps[119]?.getD undef = x119
        generalize tmps[120]?.getD undef = x120
        generalize tmps[121]?.getD undef = x121
        generalize tmps[122]?.getD undef = x122
        generalize tmps[123]?.getD undef = x123
        generalize tmps[124]?.getD undef = x124
        generalize tmps[125]?.getD undef = x125
        generalize tmps[126]?.getD undef = x126
        generalize tmps[127]?.getD undef = x127
        generalize tmps[128]?.getD undef = x128
        simp only [List.setIfInBounds_toArray, List.set_cons_succ, List.set_cons_zero]
        go_wp2_with fail
        go_ret
        exact ⟨rfl, HX.out.trans hle⟩
end Go.Proofs.Ytekkmpahienaeaa
