/- The landed program's Print of types, by its contract. Conditions: small types. -/
import Derived.Test.YtggafdimbddflaaSP6
namespace Go.Proofs.Ytggafdimbddflaa
open Go Go.RowKit

def sprintG (fb : Nat) (N W : ByteArray) (K : Nat) : Nat → Value → World → Prop
  | 0, v, _ => v = .pointer (some ⟨fb, 0, none⟩)
  | 1, v, _ => v = .string N
  | 2, v, _ => v = .string (⟨#[32]⟩ ++ N)
  | 3, v, _ => v = .string (⟨#[32]⟩ ++ N ++ ⟨#[58]⟩)
  | 4, v, _ => v = .pointer (some ⟨fb, 1, none⟩)
  | 5, v, _ => v = .int .u8 (K : Int)
  | 6, v, _ => v = .string W
  | 7, v, _ => v = .string (⟨#[32]⟩ ++ N ++ ⟨#[58]⟩ ++ W)
  | _, _, _ => True
theorem sprintG_st (fb : Nat) (N W : ByteArray) (K : Nat) : ∀ i9 z9 x9 y9, sprintG fb N W K i9 z9 x9 → Ext x9 y9 → sprintG fb N W K i9 z9 y9 := by
  intro i9 z9 x9 y9 h e
  unfold sprintG at *
  split at h <;> first | exact h | trivial
theorem field_text (N W : ByteArray) (K : Nat) (h : wordV K = W) : ((⟨#[32]⟩ ++ N ++ ⟨#[58]⟩ ++ W : ByteArray)).data.toList = fieldB ⟨N, K⟩ := by
  subst h
  simp [fieldB]

set_option maxRecDepth 100000 in
set_option maxHeartbeats 8000000 in
theorem sprint_any (L : List TZ) (v : Value) (w : World) (hv : TypesAt w v L) (hsm : TypesSmall L) : Calls Try.prog 16 #[v] w (Says w (.string (bytesA (printZ L)))) := by
  have HV := hid hv
  obtain ⟨A, c, rfl, q1, q2, _⟩ := hv
  obtain ⟨hl12, hsm⟩ := hsm
  have hml : (L.length : Int) ≤ 9223372036854775807 := by omega
  go_enter Try.func16, Try.ntmps16
  go_wp2_with fail
  have HBF := hid (BldAt.fresh w)
  have HX := hid (Ext.alloc w (Obj.cells #[.pointer none, .slice none 0 0] 78 (0, 0)))
  have hsz0 : w.heap.size < (w.alloc (Obj.cells #[.pointer none, .slice none 0 0] 78 (0, 0))).heap.size := by simp
  obtain ⟨S, hS⟩ : ∃ S, S = w.heap.size := ⟨_, rfl⟩
  obtain ⟨W1, hW1⟩ : ∃ W1, W1 = w.alloc (Obj.cells #[.pointer none, .slice none 0 0] 78 (0, 0)) := ⟨_, rfl⟩
  rw [← hW1] at HBF HX hsz0 ⊢
  rw [← hS] at HBF hsz0 ⊢
  have HSS := hid hS
  clear hS hW1
  go_loopw [10] (fun x wr => ∃ i : Nat, i ≤ L.length ∧ x = .int .i64 (i : Int) ∧ Hid (Below S w wr) ∧ Hid (BldAt S S (printZ (L.take i)) wr) ∧ S < wr.heap.size)
    (fun x _ => L.length - (intOf x).toNat)
  case atStart => exact ⟨0, by omega, rfl, hid (by rw [HSS.out]; exact HX.out), hid HBF.out, hsz0⟩
  case round =>
    obtain ⟨i, hi, rfl, hext, hbl, hSlt⟩ := hrel
    have HE := hid (show Ext w wr by have := hext.out; rw [HSS.out] at this; exact this)
    by_cases hlt : i < L.length
    · obtain ⟨g, o, c', r, e1, _, _, d0w, d1w, hfr⟩ := HV.out.open_ hlt
      obtain ⟨rfl, rfl⟩ : A = some ⟨g, o, none⟩ ∧ c = c' := by simpa using e1
      have d0 := HE.out.cell d0w
      have d1 := HE.out.cell d1w
      have hp : (printZ (L.take i)).length ≤ 7116 := by
        have := print_len (L := L.take i) (fun t h => hsm t (List.mem_of_mem_take h))
        rw [List.length_take] at this
        omega
      have HT := hid (hsm _ (List.getElem_mem hlt))
      have hstep : printZ (L.take (i + 1)) = printZ (L.take i) ++ typeB L[i] := by
        rw [List.take_succ_eq_append_getElem hlt]
        unfold printZ
        rw [List.flatMap_append, List.flatMap_singleton]
      have HS := hid hstep
      generalize hT : L[i] = T at *
      obtain ⟨N, F⟩ := T
      dsimp only at *
      have HF := hid hfr
      obtain ⟨A3, c3, rfl, _, q5, _⟩ := hfr
      have hn40 : N.size ≤ 40 := HT.out.1
      have hf12 : F.length ≤ 12 := HT.out.2.1
      have hmf : (F.length : Int) ≤ 9223372036854775807 := by omega
      generalize printZ (L.take i) = P at *
      have HTB := hid (heap_alloc_new wr (Obj.cells #[.string N, .slice A3 F.length c3] 30 (0, 0)))
      have HXT := hid (Ext.alloc wr (Obj.cells #[.string N, .slice A3 F.length c3] 30 (0, 0)))
      have kw := bwrite_any S S P N (wr.alloc (Obj.cells #[.string N, .slice A3 F.length c3] 30 (0, 0))) (hbl.out.ext HXT.out) (by omega) (by simp; omega)
      clear e1 hT hstep d0w d1w
      go_wp2_with (go_at_call 37; refine kw.mono ?_)
      rintro e w2 ⟨rfl, hbl2, hbe2, hot2⟩
      replace HTB := hid (hot2 wr.heap.size _ _ _ (by omega) (by decide) HTB.out)
      have HE2 := hid (show Below S w w2 from (hext.out.trans (Below.mono HXT.out (by omega))).trans hbe2)
      have hS2 : S < w2.heap.size := by have := hbe2.size; simp at this; omega
      have HBL := hid hbl2
      obtain ⟨⟨b0, b1⟩, _, _⟩ := box2 HTB.out
      clear kw hbl2 hbe2 hot2 d0 d1
      go_wp2_with fail
      go_loopw [20] (fun y wq => ∃ j : Nat, j ≤ F.length ∧ y = .int .i64 (j : Int) ∧ Hid (Below S w wq) ∧ Hid (BldAt S S (P ++ N.data.toList ++ (F.take j).flatMap fieldB) wq) ∧ S < wq.heap.size)
        (fun y _ => F.length - (intOf y).toNat)
      case atStart => exact ⟨0, by omega, rfl, HE2, hid (by rw [List.take_zero, List.flatMap_nil, List.append_nil]; exact HBL.out), hS2⟩
      case round =>
        obtain ⟨j, hj, rfl, hext3, hbl3, hSlt3⟩ := hrel
        have HE3 := hid (show Ext w wr by have := hext3.out; rw [HSS.out] at this; exact this)
        have hq : (P ++ N.data.toList ++ (F.take j).flatMap fieldB).length ≤ 7708 := by
          have h1 := fields_len (F := F.take j) (fun f h => HT.out.2.2 f (List.mem_of_mem_take h))
          have h2 : N.data.toList.length = N.size := rfl
          rw [List.length_take] at h1
          simp only [List.length_append]
          omega
        by_cases hjl : j < F.length
        · obtain ⟨g3, o3, c', e1, _, _, y0, y1⟩ := (HF.out.ext HE3.out).open_ hjl
          obtain ⟨rfl, rfl⟩ : A3 = some ⟨g3, o3, none⟩ ∧ c3 = c' := by simpa using e1
          have hf := HT.out.2.2 _ (List.getElem_mem hjl)
          have hstep : P ++ N.data.toList ++ (F.take (j + 1)).flatMap fieldB = P ++ N.data.toList ++ (F.take j).flatMap fieldB ++ fieldB F[j] := by
            rw [List.take_succ_eq_append_getElem hjl, List.flatMap_append, List.flatMap_singleton, ← List.append_assoc]
          have HS2 := hid hstep
          generalize P ++ N.data.toList ++ (F.take j).flatMap fieldB = Q at *
          generalize hU : F[j] = U at *
          obtain ⟨n5, k5⟩ := U
          dsimp only at *
          have hn5 : n5.size ≤ 40 := hf.1
          have hk5 := word_len k5
          have kk := fun W => vword_any k5 W hf.2
          have hFB := field_text n5 (wordV k5) k5 rfl
          generalize hW : wordV k5 = W5 at *
          have HFB := hid hFB
          have HB2 := hid (heap_alloc_new wr (Obj.cells #[.string n5, .int .u8 (k5 : Int)] 70 (0, 0)))
          have HX2 := hid (Ext.alloc wr (Obj.cells #[.string n5, .int .u8 (k5 : Int)] 70 (0, 0)))
          have HBL3 := hid (hbl3.out.ext HX2.out)
          have HEX3 := hid (show Below S w (wr.alloc (Obj.cells #[.string n5, .int .u8 (k5 : Int)] 70 (0, 0))) from hext3.out.trans (Below.mono HX2.out (by omega)))
          obtain ⟨⟨f0, f1⟩, _, _⟩ := box2 HB2.out
          have hsz3 : S < (wr.alloc (Obj.cells #[.string n5, .int .u8 (k5 : Int)] 70 (0, 0))).heap.size := by simp; omega
          clear hstep hU e1 hf hW hFB
          go_wp2_with fail
          obtain ⟨FB, hFBn⟩ : ∃ FB, FB = wr.heap.size := ⟨_, rfl⟩
          obtain ⟨W4, hW4⟩ : ∃ W4, W4 = wr.alloc (Obj.cells #[.string n5, .int .u8 (k5 : Int)] 70 (0, 0)) := ⟨_, rfl⟩
          rw [← hW4] at HB2 HBL3 HEX3 f0 f1 hsz3 ⊢
          rw [← hFBn] at HB2 f0 f1 ⊢
          clear hFBn hW4 HX2
          have h32 : (⟨#[32]⟩ : ByteArray).size = 1 := rfl
          have h58 : (⟨#[58]⟩ : ByteArray).size = 1 := rfl
          refine wp_region_tail 8 Ext (sprintG FB n5 W5 k5) (by kernel_rfl) Ext.trans Ext.refl (Ext.drew _) (sprintG_st _ _ _ _) (by kernel_rfl) (by kernel_rfl) ?_ ?_
          · intro tmps df wq hle hfr jj oo hjj hoo hty
            have h7 : tmps[7]?.getD undef = .pointer (some ⟨FB, 0, none⟩) := hfr 7 (by kernel_rfl)
            have g0 := hle.cell f0
            have g1 := hle.cell f1
            clear hfr
            match jj, hoo, hjj with
            | 0, hoo, _ =>
              obtain rfl := (Option.some.inj hoo)
              clear hty hoo
              refine step_pure (.pointer (some ⟨FB, 0, none⟩)) (wanted_free rfl) ?_ (Ext.refl _) rfl
              simp [execOp, Act.eval, h7, go_sem]
            | 1, hoo, _ =>
              have hx : tmps[24]?.getD undef = .pointer (some ⟨FB, 0, none⟩) := hty 0 24 (by kernel_rfl) (by obtain rfl := (Option.some.inj hoo); rfl)
              obtain rfl := (Option.some.inj hoo)
              clear hty hoo
              refine step_pure (.string n5) (wanted_free rfl) ?_ (Ext.refl _) rfl
              simp [execOp, Act.eval, hx, g0, go_sem]
            | 2, hoo, _ =>
              have hx : tmps[25]?.getD undef = .string n5 := hty 1 25 (by kernel_rfl) (by obtain rfl := (Option.some.inj hoo); rfl)
              obtain rfl := (Option.some.inj hoo)
              clear hty hoo
              refine step_pure (.string ((⟨#[32]⟩ : ByteArray) ++ n5)) (wanted_free rfl) ?_ (Ext.refl _) rfl
              have hs := run_string_add_sum (P := Try.prog) wq (⟨#[32]⟩ : ByteArray) n5 (by rw [h32]; omega)
              simp [execOp, Act.eval, hx, go_sem, hs]
            | 3, hoo, _ =>
              have hx : tmps[26]?.getD undef = .string ((⟨#[32]⟩ : ByteArray) ++ n5) := hty 2 26 (by kernel_rfl) (by obtain rfl := (Option.some.inj hoo); rfl)
              obtain rfl := (Option.some.inj hoo)
              clear hty hoo
              refine step_pure (.string ((⟨#[32]⟩ : ByteArray) ++ n5 ++ (⟨#[58]⟩ : ByteArray))) (wanted_free rfl) ?_ (Ext.refl _) rfl
              have hs := run_string_add_sum (P := Try.prog) wq ((⟨#[32]⟩ : ByteArray) ++ n5) (⟨#[58]⟩ : ByteArray) (by simp only [ByteArray.size_append, h32, h58]; omega)
              simp [execOp, Act.eval, hx, go_sem, hs]
            | 4, hoo, _ =>
              obtain rfl := (Option.some.inj hoo)
              clear hty hoo
              refine step_pure (.pointer (some ⟨FB, 1, none⟩)) (wanted_free rfl) ?_ (Ext.refl _) rfl
              simp [execOp, Act.eval, h7, go_sem]
            | 5, hoo, _ =>
              have hx : tmps[28]?.getD undef = .pointer (some ⟨FB, 1, none⟩) := hty 4 28 (by kernel_rfl) (by obtain rfl := (Option.some.inj hoo); rfl)
              obtain rfl := (Option.some.inj hoo)
              clear hty hoo
              refine step_pure (.int .u8 (k5 : Int)) (wanted_free rfl) ?_ (Ext.refl _) rfl
              simp [execOp, Act.eval, hx, g1, go_sem]
            | 6, hoo, _ =>
              have hx : tmps[29]?.getD undef = .int .u8 (k5 : Int) := hty 5 29 (by kernel_rfl) (by obtain rfl := (Option.some.inj hoo); rfl)
              obtain rfl := (Option.some.inj hoo)
              clear hty hoo
              refine step_call 38 #[.int .u8 (k5 : Int)] (wanted_free rfl) ?_ ?_
              · simp [execOp, Act.eval, hx, go_sem]
              · exact (kk _).mono fun e w' ⟨h1, h2⟩ => ⟨_, h1, h2, rfl⟩
            | 7, hoo, _ =>
              have hx : tmps[27]?.getD undef = .string ((⟨#[32]⟩ : ByteArray) ++ n5 ++ (⟨#[58]⟩ : ByteArray)) := hty 3 27 (by kernel_rfl) (by obtain rfl := (Option.some.inj hoo); rfl)
              have hy : tmps[30]?.getD undef = .string W5 := hty 6 30 (by kernel_rfl) (by obtain rfl := (Option.some.inj hoo); rfl)
              obtain rfl := (Option.some.inj hoo)
              clear hty hoo
              refine step_pure (.string ((⟨#[32]⟩ : ByteArray) ++ n5 ++ (⟨#[58]⟩ : ByteArray) ++ W5)) (wanted_free rfl) ?_ (Ext.refl _) rfl
              have hs := run_string_add_sum (P := Try.prog) wq ((⟨#[32]⟩ : ByteArray) ++ n5 ++ (⟨#[58]⟩ : ByteArray)) W5 (by simp only [ByteArray.size_append, h32, h58]; omega)
              simp [execOp, Act.eval, hx, hy, go_sem, hs]
            | (jj + 8), _, hjj => omega
          · intro tmps w7 hle hs hfr hty
            have h31 : tmps[31]?.getD undef = .string ((⟨#[32]⟩ : ByteArray) ++ n5 ++ (⟨#[58]⟩ : ByteArray) ++ W5) := hty 7 31 (by kernel_rfl)
            have hfe := nframe_eq [24, 25, 26, 27, 28, 29, 30, 31] hs hfr (by kernel_rfl)
            rw [hfe]
            clear hfe hfr hs hty
            simp only [List.foldl_cons, List.foldl_nil]
            rw [h31]
            generalize tmps[24]?.getD undef = x24
            generalize tmps[25]?.getD undef = x25
            generalize tmps[26]?.getD undef = x26
            generalize tmps[27]?.getD undef = x27
            generalize tmps[28]?.getD undef = x28
            generalize tmps[29]?.getD undef = x29
            generalize tmps[30]?.getD undef = x30
            have kw := bwrite_any S S Q ((⟨#[32]⟩ : ByteArray) ++ n5 ++ (⟨#[58]⟩ : ByteArray) ++ W5) w7 (HBL3.out.ext hle) (by simp only [ByteArray.size_append, h32, h58]; omega) (by have := hle.size; omega)
            rw [HFB.out, ← HS2.out] at kw
            generalize ((⟨#[32]⟩ : ByteArray) ++ n5 ++ (⟨#[58]⟩ : ByteArray) ++ W5 : ByteArray) = X5 at *
            have HEX7 := hid (show Below S w w7 from HEX3.out.trans (Below.mono hle (by omega)))
            have hS7 : S < w7.heap.size := by have := hle.size; omega
            clear h31 hle
            simp only [List.drop_succ_cons, List.drop_zero, List.setIfInBounds_toArray, List.set_cons_succ, List.set_cons_zero]
            go_wp2_with (go_at_call 37; refine kw.mono ?_; rintro e8 w8 ⟨rfl, hbl8, hbe8, _⟩)
            go_roundw
            case rel => exact ⟨j + 1, by omega, by go_num, hid (HEX7.out.trans hbe8), hid hbl8, by have := hbe8.size; omega⟩
            case measure => simp only [intOf]; omega
        · have hj' : j = F.length := by omega
          subst hj'
          rw [List.take_length] at hq hbl3
          have kw := bwrite_any S S _ ⟨#[10]⟩ wr hbl3.out (by have h10 : (⟨#[10]⟩ : ByteArray).size = 1 := rfl; omega) (by omega)
          rw [show P ++ N.data.toList ++ F.flatMap fieldB ++ (⟨#[10]⟩ : ByteArray).data.toList = printZ (L.take (i + 1)) by rw [HS.out]; simp [typeB]] at kw
          go_wp2_with (go_at_call 37; refine kw.mono ?_; rintro e8 w8 ⟨rfl, hbl8, hbe8, _⟩)
          go_roundw
          case rel => exact ⟨i + 1, by omega, by go_num, hid (hext3.out.trans hbe8), hid hbl8, by have := hbe8.size; omega⟩
          case measure => simp only [intOf]; omega
    · have hi' : i = L.length := by omega
      subst hi'
      rw [List.take_length] at hbl
      have ks := bstring_any S S _ wr hbl.out (by omega)
      go_wp2_with (go_at_call 39; refine ks.mono ?_; rintro e8 w8 ⟨rfl, hbe8⟩)
      go_ret
      exact ⟨rfl, by have := hext.out.trans hbe8; rw [HSS.out] at this; exact this⟩
end Go.Proofs.Ytggafdimbddflaa
