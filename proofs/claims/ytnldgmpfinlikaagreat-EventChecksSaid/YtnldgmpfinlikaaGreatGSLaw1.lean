/- Several texts in one: SLaw1, SP3, SP4. Conditions: those of each. -/
import Derived.BigQuiet
import Derived.Deep.RegionLaw
import Derived.WalkMore
import Derived.Lib.LazyBuf
import Derived.Test.YtnldgmpfinlikaaGreatGSMem2
import Derived.Test.YtnldgmpfinlikaaGreatGSP1
import Derived.Test.YtnldgmpfinlikaaGreatGSR1
import Derived.Test.YtnldgmpfinlikaaGreatGVV1
import Derived.Test.YtnldgmpfinlikaaGreatVV2
/- telltalelaw06.Own: types of the program's out of the document's. Conditions: small types. -/
namespace Go.Proofs.YtnldgmpfinlikaaGreat
open Go Go.RowKit

theorem infoF : (Tryz.prog.info? 69).map (fun i => (i.zero, i.size, i.bytes)) = some (some (.agg #[.string ⟨#[]⟩, .int .u8 0]), 2, 24) := by kernel_rfl
theorem infoT : (Tryz.prog.info? 68).map (fun i => (i.zero, i.size, i.bytes)) = some (some (.agg #[.string ⟨#[]⟩, .slice none 0 0]), 2, 40) := by kernel_rfl
theorem fcells_step {F : List FZ} {j : Nat} (h : j < F.length) : fcells (F.take (j + 1)) = fcells (F.take j) ++ [.string F[j].n, .int .u8 (F[j].k : Int)] := by
  rw [List.take_succ_eq_append_getElem h, fcells_append]
  rfl

set_option maxRecDepth 100000 in
set_option maxHeartbeats 8000000 in
theorem own6_built (L : List TZ) (v : Value) (w : World) (hv : TypesAt w v L) (hsm : TypesSmall L) : Calls Tryz.prog 8 #[v] w (fun e w' => ∃ u, e = .returned u ∧ Built w' w.heap.size 68 u L ∧ Ext w w') := by
  have HV := hid hv
  obtain ⟨A, c, rfl, q1, q2, _⟩ := hv
  obtain ⟨hl12, hsm⟩ := hsm
  obtain ⟨iF, hiF, hzF0, hzF1, hzF2⟩ := info_parts infoF
  obtain ⟨iT, hiT, hzT0, hzT1, hzT2⟩ := info_parts infoT
  go_enter Tryz.func8, Tryz.ntmps8
  go_wp2_with fail
  go_loopw [3, 4] (fun x y wr => ∃ i : Nat, i ≤ L.length ∧ y = .int .i64 (i : Int) ∧ Built wr w.heap.size 68 x (L.take i) ∧ Ext w wr)
    (fun _ y _ => L.length - (intOf y).toNat)
  case atStart => exact ⟨0, by omega, rfl, Built.nil _ _ _, Ext.refl _⟩
  case round =>
    obtain ⟨i, hi, rfl, hbu, hext⟩ := hrel
    have HE := hid hext
    have hsz := hext.size
    have HBu := hid hbu
    clear hext hbu
    by_cases hlt : i < L.length
    · obtain ⟨g, o, c', r, e1, _, _, d0, d1, hfr⟩ := (HV.out.ext HE.out).open_ hlt
      obtain ⟨rfl, rfl⟩ : A = some ⟨g, o, none⟩ ∧ c = c' := by simpa using e1
      have HT := hid (hsm _ (List.getElem_mem hlt))
      have HS := hid (List.take_succ_eq_append_getElem hlt)
      generalize hT : L[i] = T at *
      obtain ⟨N, F⟩ := T
      dsimp only at *
      have HF := hid hfr
      obtain ⟨A3, c3, rfl, _, q5, _⟩ := hfr
      have hf12 : F.length ≤ 12 := HT.out.2.1
      clear e1 hT
      go_wp2_with fail
      have HB0 := hid (heap_alloc_new wr (Obj.cells #[.string N, .slice none 0 0] 68 (0, 0)))
      have HA := hid (Ext.alloc wr (Obj.cells #[.string N, .slice none 0 0] 68 (0, 0)))
      obtain ⟨S, hS⟩ : ∃ S, S = wr.heap.size := ⟨_, rfl⟩
      rw [← hS] at HB0 ⊢
      have HSS := hid hS
      clear hS
      obtain ⟨W0, hW0⟩ : ∃ W0, W0 = wr := ⟨_, rfl⟩
      have HW0 := hid hW0
      go_loopw [6] (fun y wq => ∃ (j : Nat) (v2 : Value), j ≤ F.length ∧ y = .int .i64 (j : Int) ∧ Hid (wq.heap[S]? = some (.cells #[.string N, v2] 68 (0, 0))) ∧ Hid (wq.ownsRow (S + 1) 69 2 v2 j (fcells (F.take j))) ∧ Hid (Ext wr wq) ∧ S < wq.heap.size)
        (fun y _ => F.length - (intOf y).toNat)
      case atStart => exact ⟨0, .slice none 0 0, by omega, rfl, HB0, World.ownsRow_nil _ _ _ _, HA, by rw [HSS.out]; simp⟩
      case round =>
        obtain ⟨j, v2, hj, rfl, hblk, hown, hextq, hSlt⟩ := hrel
        have x1 : wr.cell? ⟨g, o + i * 2 + 1, none⟩ = some (.slice A3 F.length c3) := hextq.out.cell d1
        obtain ⟨A5, c5, rfl, z1, z2, _⟩ := own_form hown.out
        obtain ⟨⟨b0, b1⟩, ⟨m0, m1⟩, _⟩ := box2 hblk.out
        by_cases hjl : j < F.length
        · obtain ⟨g3, o3, c', e1, _, _, y0, y1⟩ := (HF.out.ext hextq.out).open_ hjl
          obtain ⟨rfl, rfl⟩ : A3 = some ⟨g3, o3, none⟩ ∧ c3 = c' := by simpa using e1
          have HS2 := hid (fcells_step hjl)
          generalize F[j] = U at *
          obtain ⟨n5, k5⟩ := U
          dsimp only at *
          clear e1
          go_wp2_with fail
          go_region_law (refine step_append_lies _ rfl (.tmp 30) (.tmp 39) 66 rfl (S + 1) 69 iF (.agg #[.string ⟨#[]⟩, .int .u8 0]) 2 24 Tryz.underlying66 hiF hzF0 hzF1 hzF2 rfl (by decide) (.slice A5 j c5) j _ (by simp [Act.eval]) (World.ownsRow.alloc (World.ownsRow.drew hown.out) _) ⟨wr.heap.size, 0, none⟩ 1 1 [.string n5, .int .u8 (k5 : Int)] (by simp [Act.eval]) rfl (fun j u h => World.news_of_block (heap_alloc_new _ _) j u h) (by intro u hu; simp at hu; rcases hu with rfl | rfl <;> rfl) (by decide) (by unfold maxLen; omega) (by omega) (by simp; omega) _ rfl ?_; intro g9 cap9 w9 hown9 hgrow9 hat9 hlt9; have hblk9 := grown_block ((Ext.drew wr).then_alloc _) hgrow9 (fun k hk => own_block_ge hown.out k hk) hblk.out (Nat.lt_succ_self S); obtain ⟨⟨e0, e1⟩, ⟨f0, f1⟩, e2⟩ := box2 hblk9)
          all_goals
            have HG9 := hid (Ext.grown (Ext.trans hextq.out ((Ext.drew wr).then_alloc _)) hgrow9 (fun k hk => by have := own_block_ge hown.out k hk; have := HSS.out; omega))
            have HW9 := hid hown9
            have HBK := hid hblk9
            clear hgrow9 hown9 hat9 hlt9 hblk9 e0 e1 f0 f1
            go_wp2_with fail
            go_roundw
            case rel => exact ⟨j + 1, _, by omega, by go_num, hid (by simpa using heap_setCell_same w9 S 1 _ _ _ HBK.out), by rw [HS2.out]; exact ownsRow_setCell_below HW9.out (Nat.lt_succ_self S) _, Ext.setCell HG9.out (by have := HSS.out; show _ ≤ S; omega) _, by simpa [World.setCell] using e2⟩
            case measure => simp only [intOf]; omega
        · have hj' : j = F.length := by omega
          subst hj'
          obtain ⟨R, hRl, hRo, hRR⟩ := HBu.out
          have hsz2 : w.heap.size ≤ wr.heap.size := Nat.le_trans hsz (Below.size hextq.out)
          have hlen : (L.take i).length = i := by rw [List.length_take]; omega
          rw [hlen] at hRo
          have HRo := hid (own_later hRo hextq.out)
          have HRR := hid hRR
          have HBL := hid (own_block_lt hRo)
          rw [← HSS.out] at HBL
          clear hRR hRo
          have HFw := hid (FieldsAt.of_own (List.take_length (l := F) ▸ hown.out))
          have HAP := hid (apart_own (F := F) hown.out HBL.out)
          go_wp2_with (at_builtin; refine Go.wpList_append_lies _ rfl (.tmp 42) (.tmp 44) 30 rfl w.heap.size 68 iT (.agg #[.string ⟨#[]⟩, .slice none 0 0]) 2 40 Tryz.underlying30 hiT hzT0 hzT1 hzT2 rfl (by decide) _ i _ rfl (HRo.out.alloc _) ⟨wr.heap.size, 0, none⟩ 1 1 [.string N, .slice A5 F.length c5] rfl rfl (fun j u h => World.news_of_block (heap_alloc_new wr _) j u h) (by intro u hu; simp at hu; rcases hu with rfl | rfl <;> rfl) (by decide) (by unfold maxLen; omega) (by omega) (by simp; omega) _ rfl ?_; intro g9 cap9 w9 hown9 hgrow9 hat9 hlt9)
          have HBM := hid (Built.more (v' := .slice (some ⟨g9, 0, none⟩) (i + 1) cap9) (t := ⟨N, F⟩) hRl (fun k h hr => ⟨(HRR.out k h hr).1.ext hextq.out, (HRR.out k h hr).2⟩) HFw.out HAP.out (Ext.alloc wr _) hgrow9 (hat9.imp (fun h => h) (fun h => congrArg some h)) (by rw [hlen]; exact hown9))
          have HG9 := hid (Ext.grown (Ext.trans HE.out (Ext.trans hextq.out (Ext.alloc wr _))) hgrow9 (fun k hk => own_block_ge HRo.out k hk))
          clear hgrow9 hown9 hat9 hlt9
          go_roundw
          case rel => exact ⟨i + 1, by omega, by go_num, by rw [HS.out]; exact HBM.out, HG9.out⟩
          case measure => simp only [intOf]; omega
    · have hi' : i = L.length := by omega
      subst hi'
      have HW := hid (List.take_length (l := L) ▸ HBu.out)
      go_wp2_with fail
      go_ret
      exact ⟨_, rfl, HW.out, HE.out⟩
end Go.Proofs.YtnldgmpfinlikaaGreat

/- The landed program's Check of types, by its contract. Conditions: names of up to 2^20 bytes, kinds within a byte. -/
namespace Go.Proofs.YtnldgmpfinlikaaGreat
open Go Go.RowKit

def FieldMid (f : FZ) : Prop := f.n.size ≤ 1048576 ∧ f.k ≤ 255
def TypeMid (t : TZ) : Prop := t.n.size ≤ 1048576 ∧ ∀ f ∈ t.f, FieldMid f
def TypesMid (L : List TZ) : Prop := ∀ t ∈ L, TypeMid t
theorem TypesSmall.mid {L : List TZ} (h : TypesSmall L) : TypesMid L := fun t ht => by
  obtain ⟨h1, _, h3⟩ := h.2 t ht
  exact ⟨by omega, fun f hf => by have := h3 f hf; exact ⟨by have := this.1; omega, this.2⟩⟩
theorem word_blank {k : Nat} : ((wordV k).toList == ([] : List UInt8)) = decide (k < 1 ∨ 4 < k) := by
  by_cases h : k < 1 ∨ 4 < k
  · rw [word_none h, decide_eq_true h, ByteArray.toList_eq]
    rfl
  · rw [word_some h, decide_eq_false h]

set_option maxRecDepth 100000 in
set_option maxHeartbeats 4000000 in
theorem scheckf_any (t : TZ) (r : Value) (w : World) (hf : FieldsAt w r t.f) (hok : TypeMid t) : Calls Tryz.prog 80 #[.agg #[.string t.n, r]] w (Says w (.int .i64 (fieldsZ [] t.f))) := by
  obtain ⟨nm, F⟩ := t
  obtain ⟨hn, hF⟩ := hok
  dsimp only at *
  have HO := hid (show fieldsZ [] F = fieldsZ (F.take 0) (F.drop 0) from rfl)
  generalize fieldsZ [] F = R at *
  have HF := hid hf
  obtain ⟨A, c, rfl, q1, q2, _⟩ := hf
  have hml : (F.length : Int) ≤ 9223372036854775807 := by unfold maxLen at q2; omega
  go_enter Tryz.func80, Tryz.ntmps80
  go_wp2_with fail
  have HB := hid (heap_alloc_new w (Obj.cells #[.string nm, .slice A F.length c] 68 (0, 0)))
  have HX := hid (Ext.alloc w (Obj.cells #[.string nm, .slice A F.length c] 68 (0, 0)))
  obtain ⟨S, hS⟩ : ∃ S, S = w.heap.size := ⟨_, rfl⟩
  rw [← hS] at HB ⊢
  obtain ⟨W1, hW1⟩ : ∃ W1, W1 = w.alloc (Obj.cells #[.string nm, .slice A F.length c] 68 (0, 0)) := ⟨_, rfl⟩
  rw [← hW1] at HB HX ⊢
  obtain ⟨⟨s0, s1⟩, _, _⟩ := box2 HB.out
  clear hS hW1
  go_step3
  go_wp2_with fail
  go_step3
  go_wp2_with fail
  go_loopw [3, 11] (fun z x wr => ∃ i : Nat, i ≤ F.length ∧ z = .int .i64 0 ∧ x = .int .i64 (i : Int) ∧ Hid (R = fieldsZ (F.take i) (F.drop i)) ∧ Ext W1 wr)
    (fun _ x _ => F.length - (intOf x).toNat)
  case atStart => exact ⟨0, by omega, rfl, rfl, hid HO.out, Ext.refl _⟩
  case round =>
    obtain ⟨i, hi, rfl, rfl, ho, hext⟩ := hrel
    have HE := hid hext
    clear hext
    by_cases hlt : i < F.length
    · obtain ⟨g, o, c', e1, _, _, d0, d1⟩ := ((HF.out.ext HX.out).ext HE.out).open_ hlt
      obtain ⟨rfl, rfl⟩ : A = some ⟨g, o, none⟩ ∧ c = c' := by simpa using e1
      have kf := fun W (h : Ext wr W) => sfieldf_any ⟨nm, F⟩ (.slice (some ⟨g, o, none⟩) F.length c) F[i].n W (((HF.out.ext HX.out).ext HE.out).ext h)
      have kn := fun W => sname_any F[i].n W (hF _ (List.getElem_mem hlt)).1
      have kw := fun W => vword_any F[i].k W (hF _ (List.getElem_mem hlt)).2
      have HFI := hid (at_first hlt)
      have hwb := @word_blank F[i].k
      have HAT := hid (fields_at hlt)
      unfold SaysAt at kf
      dsimp only at kf
      generalize hT : F[i] = T at *
      obtain ⟨N, K⟩ := T
      dsimp only at *
      generalize (atZ N 0 F).1 = P at *
      generalize (atZ N 0 F).2 = PK at *
      have HBF := hid (heap_alloc_new wr (Obj.cells #[.string N, .int .u8 (K : Int)] 69 (0, 0)))
      have HE2 := hid (HE.out.then_alloc (Obj.cells #[.string N, .int .u8 (K : Int)] 69 (0, 0)))
      have hxa := Ext.alloc wr (Obj.cells #[.string N, .int .u8 (K : Int)] 69 (0, 0))
      have HTB := hid (HE2.out.block HB.out)
      obtain ⟨⟨a0, a1⟩, _, _⟩ := box2 HTB.out
      obtain ⟨⟨b0, b1⟩, _, _⟩ := box2 HBF.out
      clear e1 hT
      go_wp2_with fail
      refine (kf _ hxa).mono ?_
      rintro e w2 ⟨rfl, hx⟩
      replace HBF := hid (hx.block HBF.out)
      replace HE2 := hid (HE2.out.trans hx)
      clear hx kf hxa b0 b1 a0 a1 HTB
      obtain ⟨⟨b0, b1⟩, _, _⟩ := box2 HBF.out
      generalize nameZ N = NZ at *
      cases NZ
      · have HR := hid (ho.out.trans (HAT.out.trans (if_pos rfl)))
        go_wp2_with (go_at_call 79; refine (kn _).mono ?_; rintro e2 w3 ⟨rfl, hx⟩)
        go_ret
        exact ⟨by rw [HR.out]; rfl, (HX.out.trans HE2.out).trans hx⟩
      · have HR1 := hid (ho.out.trans (HAT.out.trans (if_neg (by decide))))
        go_wp2_with fail
        refine (kn _).mono ?_
        rintro e w3 ⟨rfl, hx⟩
        replace HBF := hid (hx.block HBF.out)
        replace HE2 := hid (HE2.out.trans hx)
        clear hx kn b0 b1
        obtain ⟨⟨b0, b1⟩, _, _⟩ := box2 HBF.out
        by_cases hk : K < 1 ∨ 4 < K
        · have HR := hid (HR1.out.trans (if_pos hk))
          rw [decide_eq_true hk] at hwb
          clear hk
          go_wp2_with (go_at_call 92; refine (kw _).mono ?_; rintro e2 w4 ⟨rfl, hx⟩)
          go_ret
          exact ⟨by rw [HR.out]; rfl, (HX.out.trans HE2.out).trans hx⟩
        · have HR2 := hid (HR1.out.trans (if_neg hk))
          rw [decide_eq_false hk] at hwb
          clear hk
          by_cases hp : P = (i : Int)
          · have HR := hid (HR2.out.trans (if_neg (fun h => HFI.out.2 h hp)))
            have hpb : (P != (i : Int)) = false := bne_eq_false_iff_eq.2 hp
            have HP := hid hp
            clear hp
            go_wp2_with (go_at_call 92; refine (kw _).mono ?_; rintro e2 w4 ⟨rfl, hx⟩)
            go_roundw
            case rel => exact ⟨i + 1, by omega, rfl, by go_num, HR, HE2.out.trans hx⟩
            case measure => simp only [intOf]; omega
          · have HR := hid (HR2.out.trans (if_pos (HFI.out.1 hp)))
            have hpb : (P != (i : Int)) = true := bne_iff_ne.2 hp
            clear hp
            go_wp2_with (go_at_call 92; refine (kw _).mono ?_; rintro e2 w4 ⟨rfl, hx⟩)
            go_ret
            exact ⟨by rw [HR.out]; rfl, (HX.out.trans HE2.out).trans hx⟩
    · have hi' : i = F.length := by omega
      subst hi'
      go_wp2_with fail
      go_ret
      exact ⟨by rw [ho.out, List.drop_length]; rfl, HX.out.trans HE.out⟩

set_option maxRecDepth 100000 in
set_option maxHeartbeats 4000000 in
theorem schecko_any (t : TZ) (r : Value) (w : World) (hf : FieldsAt w r t.f) (hok : TypeMid t) : Calls Tryz.prog 63 #[.agg #[.string t.n, r]] w (Says w (.int .i64 (oneZ t))) := by
  have kf := fun W (h : Ext w W) => scheckf_any t r W (hf.ext h) hok
  obtain ⟨nm, F⟩ := t
  obtain ⟨hn, hF⟩ := hok
  dsimp only at *
  have kn := fun W => sname_any nm W hn
  have ho : oneZ ⟨nm, F⟩ = if nameZ nm = false then 4 else if 6 < F.length then 5 else fieldsZ [] F := rfl
  generalize oneZ ⟨nm, F⟩ = R at *
  generalize fieldsZ [] F = Q at *
  obtain ⟨A, c, rfl, q1, q2, _⟩ := hf
  have hml : (F.length : Int) ≤ 9223372036854775807 := by unfold maxLen at q2; omega
  have HB := hid (heap_alloc_new w (Obj.cells #[.string nm, .slice A F.length c] 68 (0, 0)))
  have HX := hid (Ext.alloc w (Obj.cells #[.string nm, .slice A F.length c] 68 (0, 0)))
  generalize nameZ nm = NZ at *
  have HO := hid ho
  clear ho
  go_enter Tryz.func63, Tryz.ntmps63
  go_wp2_with fail
  refine (kn _).mono ?_
  rintro e w1 ⟨rfl, hx⟩
  replace HB := hid (hx.block HB.out)
  replace HX := hid (HX.out.trans hx)
  obtain ⟨⟨b0, b1⟩, _, _⟩ := box2 HB.out
  clear hx kn
  cases NZ
  · have HR := hid (HO.out.trans (if_pos rfl))
    go_wp2_with fail
    go_ret
    exact ⟨by rw [HR.out]; rfl, HX.out⟩
  · have HR1 := hid (HO.out.trans (if_neg (by decide)))
    by_cases h6 : 6 < F.length
    · have HR := hid (HR1.out.trans (if_pos h6))
      have h6' : 6 < (F.length : Int) := by omega
      go_wp2_with fail
      go_ret
      exact ⟨by rw [HR.out]; rfl, HX.out⟩
    · have HR := hid (HR1.out.trans (if_neg h6))
      have h6' : ¬ 6 < (F.length : Int) := by omega
      have kf := kf w1 HX.out
      go_wp2_with (go_at_call 80; refine kf.mono ?_; rintro e2 w3 ⟨rfl, hx⟩)
      go_ret
      exact ⟨by rw [HR.out]; rfl, HX.out.trans hx⟩

set_option maxRecDepth 100000 in
set_option maxHeartbeats 4000000 in
theorem schecks_any (L : List TZ) (v : Value) (w : World) (hv : TypesAt w v L) (hok : TypesMid L) : Calls Tryz.prog 38 #[v] w (Says w (.int .i64 (checkZ L))) := by
  have ho : checkZ L = if 8 < L.length then 5 else typesZ [] L := rfl
  generalize checkZ L = R at *
  have HV := hid hv
  obtain ⟨A, c, rfl, q1, q2, _⟩ := hv
  have hml : (L.length : Int) ≤ 9223372036854775807 := by unfold maxLen at q2; omega
  by_cases h8 : 8 < L.length
  · rw [if_pos h8] at ho
    subst ho
    have h8' : 8 < (L.length : Int) := by omega
    go_enter Tryz.func38, Tryz.ntmps38
    go_wp2_with fail
    go_ret
    exact ⟨rfl, Ext.refl _⟩
  · rw [if_neg h8] at ho
    have h8' : ¬ 8 < (L.length : Int) := by omega
    have HO := hid ho
    clear ho
    go_enter Tryz.func38, Tryz.ntmps38
    go_wp2_with fail
    go_loopw [11] (fun x wr => ∃ i : Nat, i ≤ L.length ∧ x = .int .i64 (i : Int) ∧ Hid (R = typesZ (L.take i) (L.drop i)) ∧ Ext w wr)
      (fun x _ => L.length - (intOf x).toNat)
    case atStart => exact ⟨0, by omega, rfl, hid HO.out, Ext.refl _⟩
    case round =>
      obtain ⟨i, hi, rfl, ho, hext⟩ := hrel
      have HE := hid hext
      clear hext
      by_cases hlt : i < L.length
      · obtain ⟨g, o, c', r, e1, _, _, d0, d1, hfr⟩ := (HV.out.ext HE.out).open_ hlt
        obtain ⟨rfl, rfl⟩ : A = some ⟨g, o, none⟩ ∧ c = c' := by simpa using e1
        have kf := fun W (h : Ext wr W) => schecko_any L[i] r W (hfr.ext h) (hok _ (List.getElem_mem hlt))
        have kp := fun W (h : Ext wr W) => splace_any L _ L[i].n W ((HV.out.ext HE.out).ext h)
        have HAT := hid (types_at hlt)
        have HFI := hid (place_first hlt)
        generalize hN : L[i] = T at *
        obtain ⟨N, F⟩ := T
        dsimp only at *
        generalize oneZ ⟨N, F⟩ = Q at *
        generalize placeZ N 0 L = P at *
        obtain ⟨A3, c3, rfl, _, q5, _⟩ := hfr
        have HBF := hid (heap_alloc_new wr (Obj.cells #[.string N, .slice A3 F.length c3] 68 (0, 0)))
        have HE2 := hid (Ext.alloc wr (Obj.cells #[.string N, .slice A3 F.length c3] 68 (0, 0)))
        obtain ⟨⟨b0, b1⟩, _, _⟩ := box2 HBF.out
        clear e1 hN
        go_wp2_with fail
        refine (kf _ HE2.out).mono ?_
        rintro e w2 ⟨rfl, hx⟩
        replace HBF := hid (hx.block HBF.out)
        replace HE2 := hid (HE2.out.trans hx)
        clear hx kf b0 b1
        obtain ⟨⟨b0, b1⟩, _, _⟩ := box2 HBF.out
        by_cases hQ : Q = 0
        · subst hQ
          have HR := hid (ho.out.trans (HAT.out.trans (if_neg (fun h => h rfl))))
          have kp := kp w2 HE2.out
          by_cases hp : P = (i : Int)
          · have HR2 := hid (HR.out.trans (if_neg (fun h => HFI.out.2 h hp)))
            have hpb : (P != (i : Int)) = false := bne_eq_false_iff_eq.2 hp
            clear hp
            go_wp2_with (go_at_call 61; refine kp.mono ?_; rintro e2 w4 ⟨rfl, hx⟩)
            go_roundw
            case rel => exact ⟨i + 1, by omega, by go_num, HR2, (HE.out.trans HE2.out).trans hx⟩
            case measure => simp only [intOf]; omega
          · have HR2 := hid (HR.out.trans (if_pos (HFI.out.1 hp)))
            have hpb : (P != (i : Int)) = true := bne_iff_ne.2 hp
            clear hp
            go_wp2_with (go_at_call 61; refine kp.mono ?_; rintro e2 w4 ⟨rfl, hx⟩)
            go_ret
            exact ⟨by rw [HR2.out]; rfl, (HE.out.trans HE2.out).trans hx⟩
        · have HR := hid (ho.out.trans (HAT.out.trans (if_pos hQ)))
          have hq : (Q != 0) = true := bne_iff_ne.2 hQ
          clear hQ
          go_wp2_with fail
          go_ret
          exact ⟨by rw [HR.out]; rfl, HE.out.trans HE2.out⟩
      · have hi' : i = L.length := by omega
        subst hi'
        go_wp2_with fail
        go_ret
        exact ⟨by rw [ho.out, List.drop_length]; rfl, HE.out⟩
end Go.Proofs.YtnldgmpfinlikaaGreat

/- The landed program's Find and Fits of types, by their contracts. Conditions: small types. -/
namespace Go.Proofs.YtnldgmpfinlikaaGreat
open Go Go.RowKit

theorem fcells_one (F : List FZ) : ∀ u ∈ fcells F, u.oneCell' = true := by
  intro u hu
  obtain ⟨f, _, h⟩ := List.mem_flatMap.1 hu
  simp at h
  rcases h with rfl | rfl <;> rfl
/-- fields lie as a list of cells -/
theorem FieldsAt.lies {w : World} {A : Option Addr} {c : Nat} {F : List FZ} (h : FieldsAt w (.slice A F.length c) F) : Lies w A (fcells F) := fun hne => by
  have h0 : 0 < F.length := by
    cases F with
    | nil => exact absurd rfl hne
    | cons f r => exact Nat.succ_pos _
  obtain ⟨g, o, c', e1, _, _, _, _⟩ := h.open_ h0
  obtain ⟨rfl, rfl⟩ : A = some ⟨g, o, none⟩ ∧ c = c' := by simpa using e1
  refine ⟨_, rfl, fun j u hu => ?_⟩
  have hj : j < F.length * 2 := by rw [← fcells_len]; exact (List.getElem?_eq_some_iff.1 hu).1
  have hi : j / 2 < F.length := by omega
  obtain ⟨g', o', c'', e2, _, _, d0, d1⟩ := h.open_ hi
  obtain ⟨⟨rfl, rfl⟩, rfl⟩ : (g = g' ∧ o = o') ∧ c = c'' := by simpa using e2
  obtain ⟨q1, q2⟩ := fcells_at hi
  rw [Addr.add_lit]
  by_cases hz : j % 2 = 0
  · have hj2 : j = j / 2 * 2 := by omega
    rw [← hj2] at d0 q1
    rw [d0, ← q1, hu]
  · have hj2 : j = j / 2 * 2 + 1 := by omega
    rw [← hj2] at q2
    rw [show o + j = o + j / 2 * 2 + 1 by omega, d1, ← q2, hu]

theorem find_place {name : ByteArray} : ∀ (L : List TZ), (placeZ name 0 L < 0 → findZ name L = (TZ.none, false)) ∧ (∀ i : Nat, placeZ name 0 L = (i : Int) → ∃ h : i < L.length, findZ name L = (L[i], true)) := by
  suffices h : ∀ (L : List TZ) (k : Nat), (placeZ name k L < 0 → findZ name L = (TZ.none, false)) ∧ (∀ i : Nat, placeZ name k L = ((k + i : Nat) : Int) → ∃ h : i < L.length, findZ name L = (L[i], true)) by
    intro L
    have := h L 0
    simpa using this
  intro L
  induction L with
  | nil => exact fun k => ⟨fun _ => rfl, fun i h => by have : (-1 : Int) = ((k + i : Nat) : Int) := h; omega⟩
  | cons t r ih =>
    intro k
    have e1 : placeZ name k (t :: r) = if t.n = name then (k : Int) else placeZ name (k + 1) r := rfl
    have e2 : findZ name (t :: r) = if t.n = name then (t, true) else findZ name r := rfl
    rw [e1, e2]
    by_cases h : t.n = name
    · rw [if_pos h, if_pos h]
      refine ⟨fun h => by omega, fun i hi => ?_⟩
      obtain rfl : i = 0 := by omega
      exact ⟨Nat.succ_pos _, rfl⟩
    · rw [if_neg h, if_neg h]
      obtain ⟨i1, i2⟩ := ih (k + 1)
      refine ⟨i1, fun i hi => ?_⟩
      cases i with
      | zero =>
        exfalso
        have hge : ∀ (r : List TZ) (k : Nat), placeZ name k r = -1 ∨ (k : Int) ≤ placeZ name k r := by
          intro r
          induction r with
          | nil => exact fun _ => Or.inl rfl
          | cons u s ih =>
            intro k
            show (if u.n = name then (k : Int) else placeZ name (k + 1) s) = -1 ∨ _ ≤ (if u.n = name then (k : Int) else placeZ name (k + 1) s)
            by_cases hu : u.n = name
            · rw [if_pos hu]; omega
            · rw [if_neg hu]; have := ih (k + 1); omega
        have := hge r (k + 1)
        omega
      | succ i =>
        obtain ⟨h1, h2⟩ := i2 i (by rw [hi]; omega)
        exact ⟨Nat.succ_lt_succ h1, h2⟩

set_option maxRecDepth 100000 in
set_option maxHeartbeats 2000000 in
theorem sclone_any (F : List FZ) (v : Value) (w : World) (hf : FieldsAt w v F) (h12 : F.length ≤ 12) : Calls Tryz.prog 62 #[v] w (fun e w' => ∃ u, e = .returned u ∧ w'.ownsRow w.heap.size 69 2 u F.length (fcells F) ∧ Ext w w') := by
  have HF := hid hf
  obtain ⟨A, c, rfl, q1, q2, _⟩ := hf
  obtain ⟨iF, hiF, hzF0, hzF1, hzF2⟩ := info_parts infoF
  have heq := fun W => Go.Lib.run_eql_slice_nil (P := Tryz.prog) W 66 69 A F.length c 0 0 Tryz.underlying66
  cases A with
  | none =>
    have hF0 : F = [] := by
      cases F with
      | nil => rfl
      | cons f r =>
        obtain ⟨g, o, c', e1, _⟩ := HF.out.open_ (i := 0) (Nat.succ_pos _)
        cases e1
    subst hF0
    simp only [List.length_nil] at heq
    go_enter Tryz.func62, Tryz.ntmps62
    go_wp2_with fail
    go_ret
    exact ⟨_, rfl, World.ownsRow_nil _ _ _ _, Ext.refl _⟩
  | some a =>
    go_enter Tryz.func62, Tryz.ntmps62
    have HL := hid HF.out.lies
    have HOW := hid (own_build w w.heap.size 69 2 0 #[] (Nat.le_refl _) (by unfold maxLen; omega) rfl)
    go_wp2_with (at_builtin; refine wpList_append_lies _ rfl (.tmp 5) (.tmp 6) 66 rfl w.heap.size 69 (.agg #[.string ⟨#[]⟩, .int .u8 0]) 2 24 Tryz.underlying66 infoF rfl (by decide) _ 0 [] rfl HOW.out (some a) F.length c (fcells F) rfl (fcells_len F) (HL.out.ext (Ext.alloc _ _)) (fcells_one F) (by unfold maxLen; omega) (by omega) (by simp) ?_; intro v9 w9 hown9 hgrow9 hat9)
    have HG := hid ((Ext.alloc w _).grown hgrow9 (fun k hk => own_block_ge HOW.out k hk))
    have HW := hid (show w9.ownsRow w.heap.size 69 2 v9 F.length (fcells F) by simpa using hown9)
    clear hgrow9 hown9 hat9
    go_wp2_with fail
    go_ret
    exact ⟨_, rfl, HW.out, HG.out⟩

set_option maxRecDepth 100000 in
set_option maxHeartbeats 4000000 in
theorem sfind_any (L : List TZ) (v : Value) (name : ByteArray) (w : World) (hv : TypesAt w v L) (hsm : TypesSmall L) (_hn : name.size ≤ 40) : Calls Tryz.prog 34 #[v, .string name] w (SaysTy w (findZ name L)) := by
  have hfp : (placeZ name 0 L < 0 → findZ name L = (TZ.none, false)) ∧ (∀ i : Nat, placeZ name 0 L = (i : Int) → ∃ h : i < L.length, findZ name L = (L[i], true)) := find_place L
  have kp := fun W (h : Ext w W) => splace_any L v name W (hv.ext h)
  generalize placeZ name 0 L = P at *
  generalize findZ name L = R at *
  have HV := hid hv
  obtain ⟨A, c, rfl, q1, q2, _⟩ := hv
  have hml : (L.length : Int) ≤ 9223372036854775807 := by unfold maxLen at q2; omega
  go_enter Tryz.func34, Tryz.ntmps34
  go_wp2_with fail
  have HB := hid (heap_alloc_new w (Obj.cells #[.string noText, .slice none 0 0] 68 (0, 0)))
  have HX := hid (Ext.alloc w (Obj.cells #[.string noText, .slice none 0 0] 68 (0, 0)))
  refine (kp _ HX.out).mono ?_
  rintro e w2 ⟨rfl, hx⟩
  replace HB := hid (hx.block HB.out)
  replace HX := hid (HX.out.trans hx)
  clear hx kp
  obtain ⟨⟨b0, b1⟩, ⟨m0, m1⟩, z0⟩ := box2 HB.out
  by_cases hneg : P < 0
  · have hR := hfp.1 hneg
    subst hR
    clear hfp
    go_wp2_with fail
    refine bodyPost_ret (ret_cell_tmp rfl _ _ w.heap.size 68 _ (0, 0) _ rfl (set2 HB.out) Tryz.underlying68 rfl (by kernel_rfl)) rfl ?_
    refine ⟨_, rfl, ⟨_, rfl, FieldsAt.nil _⟩, ?_⟩
    repeat (first | (with_reducible exact HX.out) | (with_reducible refine Ext.setCell ?_ (by simp) _))
  · obtain ⟨i, rfl⟩ : ∃ i : Nat, P = (i : Int) := ⟨P.toNat, by omega⟩
    obtain ⟨hlt, hR⟩ := hfp.2 i rfl
    subst hR
    have hneg' : ¬ (i : Int) < 0 := by omega
    obtain ⟨g, o, c', r, e1, _, _, d0, d1, hfr⟩ := (HV.out.ext HX.out).open_ hlt
    obtain ⟨rfl, rfl⟩ : A = some ⟨g, o, none⟩ ∧ c = c' := by simpa using e1
    have HT := hid (hsm.2 _ (List.getElem_mem hlt))
    generalize hT : L[i] = T at *
    obtain ⟨N, F⟩ := T
    dsimp only at *
    have HF := hid hfr
    obtain ⟨A3, c3, rfl, _, q5, _⟩ := hfr
    have hf12 : F.length ≤ 12 := HT.out.2.1
    clear e1 hT hfp hneg
    have HB2 := hid (heap_alloc_new w2 (Obj.cells #[.string N, .slice A3 F.length c3] 68 (0, 0)))
    have HX2 := hid (Ext.alloc w2 (Obj.cells #[.string N, .slice A3 F.length c3] 68 (0, 0)))
    have kc := sclone_any F (.slice A3 F.length c3) (w2.alloc (Obj.cells #[.string N, .slice A3 F.length c3] 68 (0, 0))) (HF.out.ext HX2.out) hf12
    go_wp2_with fail
    refine kc.mono ?_
    rintro e w4 ⟨u, rfl, hown, hx⟩
    clear kc b0 b1 m0 m1 d0 d1
    replace HB := hid ((HX2.out.trans hx).block HB.out)
    replace HB2 := hid (hx.block HB2.out)
    have HX4 := hid (HX.out.trans (HX2.out.trans hx))
    have hszz : (w2.alloc (Obj.cells #[.string N, .slice A3 F.length c3] 68 (0, 0))).heap.size = w2.heap.size + 1 := by simp
    rw [hszz] at hown
    have HOW := hid hown
    have hbel := HX.out.size
    obtain ⟨A6, c6, rfl, _, _, _⟩ := own_form hown
    clear hx hown hszz
    obtain ⟨⟨b0, b1⟩, ⟨m0, m1⟩, _⟩ := box2 HB.out
    obtain ⟨⟨a0, a1⟩, ⟨n0, n1⟩, _⟩ := box2 HB2.out
    have hne : w2.heap.size ≠ w.heap.size := by omega
    go_wp2_with fail
    refine bodyPost_ret (ret_cell_tmp rfl _ _ w.heap.size 68 _ (0, 0) _ rfl (set2 ((heap_setCell_other w4 _ _ _ hne.symm).trans HB.out)) Tryz.underlying68 rfl (by kernel_rfl)) rfl ?_
    refine ⟨_, rfl, ⟨_, rfl, FieldsAt.of_own (ownsRow_setCell_below (ownsRow_setCell_below (ownsRow_setCell_below HOW.out (by show w2.heap.size < _; omega) _) (by show w.heap.size < _; omega) _) (by show w.heap.size < _; omega) _)⟩, ?_⟩
    repeat (first | (with_reducible exact HX4.out) | (with_reducible refine Ext.setCell ?_ (by first | omega | (show _ ≤ w.heap.size; omega) | (show _ ≤ w2.heap.size; omega)) _))

set_option maxRecDepth 100000 in
set_option maxHeartbeats 4000000 in
theorem sfitsv_any (t : TZ) (V : List VZ) (r v : Value) (w : World) (hf : FieldsAt w r t.f) (hv : ValsAt w v V) (hok : ValsOk V) : Calls Tryz.prog 40 #[.agg #[.string t.n, r], v] w (Says w (.int .i64 (fitsZ t.f V))) := by
  obtain ⟨nm, F⟩ := t
  dsimp only at *
  have ho : fitsZ F V = if V.length ≠ F.length then 5 else fitZ F V := rfl
  generalize fitsZ F V = R at *
  have HF := hid hf
  have HV := hid hv
  obtain ⟨A, c, rfl, q1, q2, _⟩ := hf
  obtain ⟨A2, c2, rfl, q3, q4, _⟩ := hv
  have hml : (F.length : Int) ≤ 9223372036854775807 := by unfold maxLen at q2; omega
  have hml2 : (V.length : Int) ≤ 9223372036854775807 := by unfold maxLen at q4; omega
  by_cases hl : V.length = F.length
  · rw [if_neg (fun h => h hl)] at ho
    have HO := hid ho
    have hl' : ((V.length : Int) != (F.length : Int)) = false := bne_eq_false_iff_eq.2 (by omega)
    have HL := hid hl
    clear ho hl
    go_enter Tryz.func40, Tryz.ntmps40
    go_wp2_with fail
    have HB := hid (heap_alloc_new w (Obj.cells #[.string nm, .slice A F.length c] 68 (0, 0)))
    have HX := hid (Ext.alloc w (Obj.cells #[.string nm, .slice A F.length c] 68 (0, 0)))
    obtain ⟨⟨b0, b1⟩, _, _⟩ := box2 HB.out
    go_loopw [16] (fun x wr => ∃ i : Nat, i ≤ V.length ∧ x = .int .i64 (i : Int) ∧ Hid (R = fitZ (F.drop i) (V.drop i)) ∧ Ext (w.alloc (Obj.cells #[.string nm, .slice A F.length c] 68 (0, 0))) wr)
      (fun x _ => V.length - (intOf x).toNat)
    case atStart => exact ⟨0, by omega, rfl, hid HO.out, Ext.refl _⟩
    case round =>
      obtain ⟨i, hi, rfl, ho, hext⟩ := hrel
      have HE := hid hext
      clear hext
      have b1' : wr.cell? ⟨w.heap.size, 1, none⟩ = some (.slice A F.length c) := HE.out.cell b1
      by_cases hlt : i < V.length
      · have hltF : i < F.length := by have := HL.out; omega
        obtain ⟨g, o, c', e1, v0, v1, v2, v3⟩ := ((HV.out.ext HX.out).ext HE.out).open_ hlt
        obtain ⟨rfl, rfl⟩ : A2 = some ⟨g, o, none⟩ ∧ c2 = c' := by simpa using e1
        obtain ⟨g2, o2, c'', e2, _, _, d0, d1⟩ := ((HF.out.ext HX.out).ext HE.out).open_ hltF
        obtain ⟨rfl, rfl⟩ : A = some ⟨g2, o2, none⟩ ∧ c = c'' := by simpa using e2
        have HAT := hid (fit_at hltF hlt)
        have hvo := hok _ (List.getElem_mem hlt)
        have kc := fun W => vcheck_any V[i].k V[i].n V[i].b V[i].t W hvo.1 hvo.2.1 hvo.2.2.1 hvo.2.2.2.1 hvo.2.2.2.2
        generalize hT : V[i] = T at *
        generalize hU : F[i] = U at *
        obtain ⟨k, n, b, tx⟩ := T
        obtain ⟨N, K⟩ := U
        dsimp only at *
        generalize checkV k n b tx = Q at *
        replace kc : ∀ W, Calls Tryz.prog 52 #[.agg #[.int .u8 (k : Int), .int .i64 n, .int .u64 (b : Int), .string tx]] W (Says W (.int .i64 Q)) := kc
        have HBV := hid (heap_alloc_new wr (Obj.cells #[.int .u8 (k : Int), .int .i64 n, .int .u64 (b : Int), .string tx] 44 (0, 0)))
        have HXV := hid (Ext.alloc wr (Obj.cells #[.int .u8 (k : Int), .int .i64 n, .int .u64 (b : Int), .string tx] 44 (0, 0)))
        clear e1 e2 hT hU hvo
        go_wp2_with fail
        refine (kc _).mono ?_
        rintro e w2 ⟨rfl, hx⟩
        replace HBV := hid (hx.block HBV.out)
        replace HXV := hid (HXV.out.trans hx)
        obtain ⟨⟨a0, a1, a2, a3⟩, _, _⟩ := box4 HBV.out
        have d1' : w2.cell? ⟨g2, o2 + i * 2 + 1, none⟩ = some (.int .u8 (K : Int)) := HXV.out.cell d1
        have b1'' : w2.cell? ⟨w.heap.size, 1, none⟩ = some (.slice (some ⟨g2, o2, none⟩) F.length c) := HXV.out.cell b1'
        replace HE := hid (HE.out.trans HXV.out)
        clear hx kc v0 v1 v2 v3 d0 d1 b1'
        by_cases hQ : Q = 0
        · subst hQ
          have HR := hid (ho.out.trans (HAT.out.trans (if_neg (fun h => h rfl))))
          by_cases hkk : k = K
          · have hkb : ((k : Int) != (K : Int)) = false := bne_eq_false_iff_eq.2 (by omega)
            have HR2 := hid (HR.out.trans (if_neg (fun h => h hkk)))
            clear hkk
            go_wp2_with fail
            go_quiet (fail)
            go_wp2_with fail
            go_roundw
            case rel => exact ⟨i + 1, by omega, by go_num, HR2, HE.out.trans (Ext.drewN _ _)⟩
            case measure => simp only [intOf]; omega
          · have hkb : ((k : Int) != (K : Int)) = true := bne_iff_ne.2 (by omega)
            have HR2 := hid (HR.out.trans (if_pos hkk))
            clear hkk
            go_wp2_with fail
            go_quiet (fail)
            go_wp2_with fail
            go_ret
            exact ⟨by rw [HR2.out]; rfl, (HX.out.trans HE.out).trans (Ext.drewN _ _)⟩
        · have HR := hid (ho.out.trans (HAT.out.trans (if_pos hQ)))
          have hq : (Q != 0) = true := bne_iff_ne.2 hQ
          clear hQ
          go_wp2_with fail
          go_ret
          exact ⟨by rw [HR.out]; rfl, HX.out.trans HE.out⟩
      · have hi' : i = V.length := by omega
        subst hi'
        go_wp2_with fail
        go_ret
        exact ⟨by rw [ho.out, List.drop_length, HL.out, List.drop_length]; rfl, HX.out.trans HE.out⟩
  · rw [if_pos hl] at ho
    subst ho
    have hl' : ((V.length : Int) != (F.length : Int)) = true := bne_iff_ne.2 (by omega)
    clear hl
    go_enter Tryz.func40, Tryz.ntmps40
    go_wp2_with fail
    go_ret
    exact ⟨rfl, Ext.alloc _ _⟩
end Go.Proofs.YtnldgmpfinlikaaGreat

