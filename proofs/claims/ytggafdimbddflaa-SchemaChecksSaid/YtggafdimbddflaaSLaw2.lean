/- telltalelaw06.Back: types of the document's out of the program's. Conditions: small types. -/
import Derived.Test.YtggafdimbddflaaSLaw1
namespace Go.Proofs.Ytggafdimbddflaa
open Go Go.RowKit

theorem infoRF : (Try.prog.info? 66).map (fun i => (i.zero, i.size, i.bytes)) = some (some (.agg #[.string ⟨#[]⟩, .int .u8 0]), 2, 24) := by kernel_rfl
theorem infoRT : (Try.prog.info? 35).map (fun i => (i.zero, i.size, i.bytes)) = some (some (.agg #[.string ⟨#[]⟩, .slice none 0 0]), 2, 40) := by kernel_rfl

set_option maxRecDepth 100000 in
set_option maxHeartbeats 8000000 in
theorem back6_any (L : List TZ) (v : Value) (w : World) (hv : TypesAt w v L) (hsm : TypesSmall L) : Calls Try.prog 13 #[v] w (fun e w' => ∃ u, e = .returned u ∧ TypesAt w' u L ∧ Ext w w') := by
  have HV := hid hv
  obtain ⟨A, c, rfl, q1, q2, _⟩ := hv
  obtain ⟨hl12, hsm⟩ := hsm
  obtain ⟨iF, hiF, hzF0, hzF1, hzF2⟩ := info_parts infoRF
  obtain ⟨iT, hiT, hzT0, hzT1, hzT2⟩ := info_parts infoRT
  go_enter Try.func13, Try.ntmps13
  go_wp2_with fail
  go_loopw [3, 4] (fun x y wr => ∃ i : Nat, i ≤ L.length ∧ y = .int .i64 (i : Int) ∧ Built wr w.heap.size 35 x (L.take i) ∧ Ext w wr)
    (fun _ y _ => L.length - (intOf y).toNat)
  case atStart => exact ⟨0, by omega, rfl, Built.nil _ _ _, Ext.refl _⟩
  case round =>
    obtain ⟨i, hi, rfl, hbu, hext⟩ := hrel
    have HE := hid hext
    have hsz := hext.size
    have HBu := hid hbu
    clear hext hbu
    by_cases hlt : i < L.length
    · obtain ⟨g, o, c', r, e1, _, _, d0, d1, hfr⟩ := (HV.out.ext HE.out).open_ hlt
      obtain ⟨rfl, rfl⟩ : A = some ⟨g, o, none⟩ ∧ c = c' := by simpa using e1
      have HT := hid (hsm _ (List.getElem_mem hlt))
      have HS := hid (List.take_succ_eq_append_getElem hlt)
      generalize hT : L[i] = T at *
      obtain ⟨N, F⟩ := T
      dsimp only at *
      have HF := hid hfr
      obtain ⟨A3, c3, rfl, _, q5, _⟩ := hfr
      have hf12 : F.length ≤ 12 := HT.out.2.1
      clear e1 hT
      go_wp2_with fail
      have HB0 := hid (heap_alloc_new wr (Obj.cells #[.string N, .slice none 0 0] 35 (0, 0)))
      have HA := hid (Ext.alloc wr (Obj.cells #[.string N, .slice none 0 0] 35 (0, 0)))
      obtain ⟨S, hS⟩ : ∃ S, S = wr.heap.size := ⟨_, rfl⟩
      rw [← hS] at HB0 ⊢
      have HSS := hid hS
      clear hS
      obtain ⟨W0, hW0⟩ : ∃ W0, W0 = wr := ⟨_, rfl⟩
      have HW0 := hid hW0
      go_loopw [6] (fun y wq => ∃ (j : Nat) (v2 : Value), j ≤ F.length ∧ y = .int .i64 (j : Int) ∧ Hid (wq.heap[S]? = some (.cells #[.string N, v2] 35 (0, 0))) ∧ Hid (wq.ownsRow (S + 1) 66 2 v2 j (fcells (F.take j))) ∧ Hid (Ext wr wq) ∧ S < wq.heap.size)
        (fun y _ => F.length - (intOf y).toNat)
      case atStart => exact ⟨0, .slice none 0 0, by omega, rfl, HB0, World.ownsRow_nil _ _ _ _, HA, by rw [HSS.out]; simp⟩
      case round =>
        obtain ⟨j, v2, hj, rfl, hblk, hown, hextq, hSlt⟩ := hrel
        have x1 : wr.cell? ⟨g, o + i * 2 + 1, none⟩ = some (.slice A3 F.length c3) := hextq.out.cell d1
        obtain ⟨A5, c5, rfl, z1, z2, _⟩ := own_form hown.out
        obtain ⟨⟨b0, b1⟩, ⟨m0, m1⟩, _⟩ := box2 hblk.out
        by_cases hjl : j < F.length
        · obtain ⟨g3, o3, c', e1, _, _, y0, y1⟩ := (HF.out.ext hextq.out).open_ hjl
          obtain ⟨rfl, rfl⟩ : A3 = some ⟨g3, o3, none⟩ ∧ c3 = c' := by simpa using e1
          have HS2 := hid (fcells_step hjl)
          generalize F[j] = U at *
          obtain ⟨n5, k5⟩ := U
          dsimp only at *
          clear e1
          go_wp2_with fail
          go_region_law (refine step_append_lies _ rfl (.tmp 30) (.tmp 39) 33 rfl (S + 1) 66 iF (.agg #[.string ⟨#[]⟩, .int .u8 0]) 2 24 Try.underlying33 hiF hzF0 hzF1 hzF2 rfl (by decide) (.slice A5 j c5) j _ (by simp [Act.eval]) (World.ownsRow.alloc (World.ownsRow.drew hown.out) _) ⟨wr.heap.size, 0, none⟩ 1 1 [.string n5, .int .u8 (k5 : Int)] (by simp [Act.eval]) rfl (fun j u h => World.news_of_block (heap_alloc_new _ _) j u h) (by intro u hu; simp at hu; rcases hu with rfl | rfl <;> rfl) (by decide) (by unfold maxLen; omega) (by omega) (by simp; omega) _ rfl ?_; intro g9 cap9 w9 hown9 hgrow9 hat9 hlt9; have hblk9 := grown_block ((Ext.drew wr).then_alloc _) hgrow9 (fun k hk => own_block_ge hown.out k hk) hblk.out (Nat.lt_succ_self S); obtain ⟨⟨e0, e1⟩, ⟨f0, f1⟩, e2⟩ := box2 hblk9)
          all_goals
            have HG9 := hid (Ext.grown (Ext.trans hextq.out ((Ext.drew wr).then_alloc _)) hgrow9 (fun k hk => by have := own_block_ge hown.out k hk; have := HSS.out; omega))
            have HW9 := hid hown9
            have HBK := hid hblk9
            clear hgrow9 hown9 hat9 hlt9 hblk9 e0 e1 f0 f1
            go_wp2_with fail
            go_roundw
            case rel => exact ⟨j + 1, _, by omega, by go_num, hid (by simpa using heap_setCell_same w9 S 1 _ _ _ HBK.out), by rw [HS2.out]; exact ownsRow_setCell_below HW9.out (Nat.lt_succ_self S) _, Ext.setCell HG9.out (by have := HSS.out; show _ ≤ S; omega) _, by simpa [World.setCell] using e2⟩
            case measure => simp only [intOf]; omega
        · have hj' : j = F.length := by omega
          subst hj'
          obtain ⟨R, hRl, hRo, hRR⟩ := HBu.out
          have hsz2 : w.heap.size ≤ wr.heap.size := Nat.le_trans hsz (Below.size hextq.out)
          have hlen : (L.take i).length = i := by rw [List.length_take]; omega
          rw [hlen] at hRo
          have HRo := hid (own_later hRo hextq.out)
          have HRR := hid hRR
          have HBL := hid (own_block_lt hRo)
          rw [← HSS.out] at HBL
          clear hRR hRo
          have HFw := hid (FieldsAt.of_own (List.take_length (l := F) ▸ hown.out))
          have HAP := hid (apart_own (F := F) hown.out HBL.out)
          go_wp2_with (at_builtin; refine Go.wpList_append_lies _ rfl (.tmp 42) (.tmp 44) 22 rfl w.heap.size 35 iT (.agg #[.string ⟨#[]⟩, .slice none 0 0]) 2 40 Try.underlying22 hiT hzT0 hzT1 hzT2 rfl (by decide) _ i _ rfl (HRo.out.alloc _) ⟨wr.heap.size, 0, none⟩ 1 1 [.string N, .slice A5 F.length c5] rfl rfl (fun j u h => World.news_of_block (heap_alloc_new wr _) j u h) (by intro u hu; simp at hu; rcases hu with rfl | rfl <;> rfl) (by decide) (by unfold maxLen; omega) (by omega) (by simp; omega) _ rfl ?_; intro g9 cap9 w9 hown9 hgrow9 hat9 hlt9)
          have HBM := hid (Built.more (v' := .slice (some ⟨g9, 0, none⟩) (i + 1) cap9) (t := ⟨N, F⟩) hRl (fun k h hr => ⟨(HRR.out k h hr).1.ext hextq.out, (HRR.out k h hr).2⟩) HFw.out HAP.out (Ext.alloc wr _) hgrow9 (hat9.imp (fun h => h) (fun h => congrArg some h)) (by rw [hlen]; exact hown9))
          have HG9 := hid (Ext.grown (Ext.trans HE.out (Ext.trans hextq.out (Ext.alloc wr _))) hgrow9 (fun k hk => own_block_ge HRo.out k hk))
          clear hgrow9 hown9 hat9 hlt9
          go_roundw
          case rel => exact ⟨i + 1, by omega, by go_num, by rw [HS.out]; exact HBM.out, HG9.out⟩
          case measure => simp only [intOf]; omega
    · have hi' : i = L.length := by omega
      subst hi'
      have HW := hid (List.take_length (l := L) ▸ HBu.out)
      go_wp2_with fail
      go_ret
      exact ⟨_, rfl, Built.types HW.out, HE.out⟩
end Go.Proofs.Ytggafdimbddflaa
