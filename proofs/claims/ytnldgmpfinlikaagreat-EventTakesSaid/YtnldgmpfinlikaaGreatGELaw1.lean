/- Several texts in one: ELaw1, ELaw2. Conditions: those of each. -/
import Derived.Deep.RegionLaw
import Derived.Test.YtnldgmpfinlikaaGreatER6
import Derived.Test.YtnldgmpfinlikaaGreatGER7
import Derived.Test.YtnldgmpfinlikaaGreatGVV1
/- telltalelaw07.Own and OwnAll: events of the program's out of the document's. Conditions: few values. (Written by tools/mkelaw1.py.) -/
namespace Go.Proofs.YtnldgmpfinlikaaGreat
open Go Go.RowKit

theorem infoE1 : (Tryz.prog.info? 34).map (fun i => (i.zero, i.size, i.bytes)) = some (some (.agg #[.int .i64 0, .int .i64 0, .int .i64 0, .string ⟨#[]⟩, .slice none 0 0]), 5, 64) := by kernel_rfl
theorem ValsAt.of_owned {w : World} {base : Nat} {e : TypeId} {u : Value} {V : List VZ} (h : w.ownsRow base e 4 u V.length (vcells V)) : ValsAt w u V := ValsAt.of_own h
end Go.Proofs.YtnldgmpfinlikaaGreat

/- telltalelaw07.Back and BackAll: events of the document's out of the program's. Conditions: few values. -/
namespace Go.Proofs.YtnldgmpfinlikaaGreat
open Go Go.RowKit

theorem vcells_step {V : List VZ} {j : Nat} (h : j < V.length) : vcells (V.take (j + 1)) = vcells (V.take j) ++ [.int .u8 (V[j].k : Int), .int .i64 V[j].n, .int .u64 (V[j].b : Int), .string V[j].t] := by
  rw [List.take_succ_eq_append_getElem h, vcells_append]
  rfl

set_option maxRecDepth 100000 in
set_option maxHeartbeats 8000000 in
theorem eback_any (e : EZ) (r : Value) (w : World) (hv : ValsAt w r e.v) (hle12 : e.v.length ≤ 12) : Calls Tryz.prog 19 #[evv e r] w (fun e' w' => ∃ u, e' = .returned (evv e u) ∧ w'.ownsRow w.heap.size 47 4 u e.v.length (vcells e.v) ∧ Ext w w') := by
  obtain ⟨em, eo, eq, en, V⟩ := e
  dsimp only at *
  have HV := hid hv
  obtain ⟨A, c, rfl, _, q1, _⟩ := hv
  have hml : (V.length : Int) ≤ 9223372036854775807 := by omega
  obtain ⟨iV, hiV, hzV0, hzV1, hzV2⟩ := info_parts infoV8
  unfold evv
  dsimp only
  have HX2 := hid ((Ext.alloc w (Obj.cells #[.int .i64 em, .int .i64 eo, .int .i64 eq, .string en, .slice A V.length c] 34 (0, 0))).then_alloc (Obj.cells #[.int .i64 0, .int .i64 0, .int .i64 0, .string ⟨#[]⟩, .slice none 0 0] 25 (0, 0)))
  have HB1 := hid (heap_alloc2_old w (Obj.cells #[.int .i64 em, .int .i64 eo, .int .i64 eq, .string en, .slice A V.length c] 34 (0, 0)) (Obj.cells #[.int .i64 0, .int .i64 0, .int .i64 0, .string ⟨#[]⟩, .slice none 0 0] 25 (0, 0)))
  have HB2 := hid (heap_alloc2_new w (Obj.cells #[.int .i64 em, .int .i64 eo, .int .i64 eq, .string en, .slice A V.length c] 34 (0, 0)) (Obj.cells #[.int .i64 0, .int .i64 0, .int .i64 0, .string ⟨#[]⟩, .slice none 0 0] 25 (0, 0)))
  have hsz2 : ((w.alloc (Obj.cells #[.int .i64 em, .int .i64 eo, .int .i64 eq, .string en, .slice A V.length c] 34 (0, 0))).alloc (Obj.cells #[.int .i64 0, .int .i64 0, .int .i64 0, .string ⟨#[]⟩, .slice none 0 0] 25 (0, 0))).heap.size = w.heap.size + 2 := by simp
  have hXA := Ext.alloc ((w.alloc (Obj.cells #[.int .i64 em, .int .i64 eo, .int .i64 eq, .string en, .slice A V.length c] 34 (0, 0))).alloc (Obj.cells #[.int .i64 0, .int .i64 0, .int .i64 0, .string ⟨#[]⟩, .slice none 0 0] 25 (0, 0))) (Obj.cells #[.int .i64 em, .int .i64 eo, .int .i64 eq, .string en, .slice none 0 0] 25 (0, 0))
  have HB3 := hid (heap_alloc_new ((w.alloc (Obj.cells #[.int .i64 em, .int .i64 eo, .int .i64 eq, .string en, .slice A V.length c] 34 (0, 0))).alloc (Obj.cells #[.int .i64 0, .int .i64 0, .int .i64 0, .string ⟨#[]⟩, .slice none 0 0] 25 (0, 0))) (Obj.cells #[.int .i64 em, .int .i64 eo, .int .i64 eq, .string en, .slice none 0 0] 25 (0, 0)))
  rw [hsz2] at HB3
  have HX3 := hid (HX2.out.trans hXA)
  have HB13 := hid (hXA.block HB1.out)
  have HB23 := hid (hXA.block HB2.out)
  obtain ⟨⟨d0, d1, d2, d3, d4⟩, _, _⟩ := box5 HB1.out
  clear hXA HB1 HB2 HX2 hsz2
  go_enter Tryz.func19, Tryz.ntmps19
  go_wp2_with fail
  go_loopw [4] (fun y wq => ∃ (i : Nat) (v2 : Value), i ≤ V.length ∧ y = .int .i64 (i : Int) ∧ Hid (wq.heap[w.heap.size + 2]? = some (.cells #[.int .i64 em, .int .i64 eo, .int .i64 eq, .string en, v2] 25 (0, 0))) ∧
      Hid (wq.ownsRow (w.heap.size + 3) 47 4 v2 i (vcells (V.take i))) ∧ Hid (Ext w wq) ∧ Hid (wq.heap[w.heap.size]? = some (.cells #[.int .i64 em, .int .i64 eo, .int .i64 eq, .string en, .slice A V.length c] 34 (0, 0))) ∧
      Hid (wq.heap[w.heap.size + 1]? = some (.cells #[.int .i64 0, .int .i64 0, .int .i64 0, .string ⟨#[]⟩, .slice none 0 0] 25 (0, 0))))
    (fun y _ => V.length - (intOf y).toNat)
  case atStart => exact ⟨0, .slice none 0 0, by omega, rfl, HB3, World.ownsRow_nil _ _ _ _, HX3, HB13, HB23⟩
  case round =>
    obtain ⟨i, v2, hi, rfl, hblk, hown, hext, hb1, hb2⟩ := hrel
    obtain ⟨A5, c5, rfl, z1, z2, _⟩ := own_form hown.out
    obtain ⟨⟨d0, d1, d2, d3, d4⟩, _, _⟩ := box5 hb1.out
    obtain ⟨⟨b0, b1, b2, b3, b4⟩, ⟨m0, m1, m2, m3, m4⟩, blt⟩ := box5 hblk.out
    by_cases hlt : i < V.length
    · obtain ⟨g3, o3, c', e1, y0, y1, y2, y3⟩ := (HV.out.ext hext.out).open_ hlt
      obtain ⟨rfl, rfl⟩ : A = some ⟨g3, o3, none⟩ ∧ c = c' := by simpa using e1
      have HS2 := hid (vcells_step hlt)
      generalize V[i] = U at *
      obtain ⟨xk, xn, xb, xt⟩ := U
      dsimp only at *
      clear e1
      go_wp2_with fail
      go_region_law (refine step_append_lies _ rfl (.tmp 22) (.tmp 28) 23 rfl (w.heap.size + 3) 47 iV (.agg #[.int .u8 0, .int .i64 0, .int .u64 0, .string ⟨#[]⟩]) 4 40 Tryz.underlying23 hiV hzV0 hzV1 hzV2 rfl (by decide) (.slice A5 i c5) i _ (by simp [Act.eval]) (World.ownsRow.alloc (World.ownsRow.drew hown.out) _) ⟨wr.heap.size, 0, none⟩ 1 1 [.int .u8 (xk : Int), .int .i64 xn, .int .u64 (xb : Int), .string xt] (by simp [Act.eval]) rfl (fun j u h => World.news_of_block (heap_alloc_new _ _) j u h) (by intro u hu; simp at hu; rcases hu with rfl | rfl | rfl | rfl <;> rfl) (by decide) (by unfold maxLen; omega) (by omega) (by simp; omega) _ rfl ?_; intro g9 cap9 w9 hown9 hgrow9 hat9 hlt9; have hblk9 := grown_block ((Ext.drew wr).then_alloc _) hgrow9 (fun k hk => own_block_ge hown.out k hk) hblk.out (Nat.lt_succ_self _); obtain ⟨⟨e0, e1, e2, e3, e4⟩, ⟨f0, f1, f2, f3, f4⟩, f5⟩ := box5 hblk9)
      all_goals
        have HG9 := hid (Ext.grown (Ext.trans hext.out ((Ext.drew wr).then_alloc _)) hgrow9 (fun k hk => by have := own_block_ge hown.out k hk; omega))
        have HW9 := hid hown9
        have HBK := hid hblk9
        have HB19 := hid (grown_block ((Ext.drew wr).then_alloc _) hgrow9 (fun k hk => own_block_ge hown.out k hk) hb1.out (by omega))
        have HB29 := hid (grown_block ((Ext.drew wr).then_alloc _) hgrow9 (fun k hk => own_block_ge hown.out k hk) hb2.out (by omega))
        clear hgrow9 hown9 hat9 hlt9 hblk9 e0 e1 e2 e3 e4 f0 f1 f2 f3 f4
        go_wp2_with fail
        go_roundw
        case rel => exact ⟨i + 1, _, by omega, by go_num, hid (by simpa using heap_setCell_same w9 (w.heap.size + 2) 4 _ _ _ HBK.out), hid (by rw [HS2.out]; exact ownsRow_setCell_below (a := ⟨w.heap.size + 2, 4, none⟩) HW9.out (Nat.lt_succ_self _) _), hid (Ext.setCell HG9.out (by show _ ≤ w.heap.size + 2; omega) _),
          hid ((heap_setCell_other w9 ⟨w.heap.size + 2, 4, none⟩ w.heap.size _ (by show w.heap.size ≠ w.heap.size + 2; omega)).trans HB19.out), hid ((heap_setCell_other w9 ⟨w.heap.size + 2, 4, none⟩ (w.heap.size + 1) _ (by show w.heap.size + 1 ≠ w.heap.size + 2; omega)).trans HB29.out)⟩
        case measure => simp only [intOf]; omega
    · have hi' : i = V.length := by omega
      subst hi'
      obtain ⟨⟨p0, p1, p2, p3, p4⟩, ⟨n0, n1, n2, n3, n4⟩, _⟩ := box5 hb2.out
      have hown' := hown.out
      rw [List.take_length] at hown'
      have HOW := hid hown'
      clear hown'
      go_wp2_with fail
      refine bodyPost_ret (ret_cell1 rfl _ _ (w.heap.size + 1) 25 _ (0, 0) _ rfl (set5 hb2.out) Tryz.underlying25 rfl (by kernel_rfl)) rfl ?_
      refine ⟨_, rfl, ?_, ?_⟩
      · exact own_from (ownsRow_setCell_below (ownsRow_setCell_below (ownsRow_setCell_below (ownsRow_setCell_below (ownsRow_setCell_below HOW.out (show w.heap.size + 1 < w.heap.size + 3 by omega) _) (show w.heap.size + 1 < w.heap.size + 3 by omega) _) (show w.heap.size + 1 < w.heap.size + 3 by omega) _) (show w.heap.size + 1 < w.heap.size + 3 by omega) _) (show w.heap.size + 1 < w.heap.size + 3 by omega) _) (by omega)
      · repeat (first | (with_reducible exact hext.out) | (with_reducible refine Ext.setCell ?_ (by simp) _))

end Go.Proofs.YtnldgmpfinlikaaGreat

