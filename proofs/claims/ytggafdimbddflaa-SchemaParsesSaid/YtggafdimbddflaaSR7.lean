/- The document's line, by its contract. Conditions: texts of up to 2^20 bytes. -/
import Derived.Test.YtggafdimbddflaaSMem3
import Derived.Test.YtggafdimbddflaaSPl
import Derived.BigQuiet
import Derived.Deep.RegionLaw
namespace Go.Proofs.Ytggafdimbddflaa
open Go Go.RowKit

/-- a line's type is told, its fields in new memory -/
def SaysLine (w : World) (R : Option TZ) (e : Ending) (w' : World) : Prop :=
  ∃ (t : TZ) (r : Value) (b : Bool), e = .returned (.tuple #[.agg #[.string t.n, r], .bool b]) ∧ FieldsAt w' r t.f ∧ (∀ k, r.ownBlock = some k → w.heap.size ≤ k) ∧ Ext w w' ∧ R = (if b then some t else none) ∧ (b = false → t = TZ.none)

def strLen : Value → Nat
  | .string s => s.size
  | _ => 0
def boolN : Value → Nat
  | .bool true => 1
  | _ => 0
theorem infoLF : (Try.prog.info? 66).map (fun i => (i.zero, i.size, i.bytes)) = some (some (.agg #[.string ⟨#[]⟩, .int .u8 0]), 2, 24) := by kernel_rfl

set_option maxRecDepth 100000 in
set_option maxHeartbeats 8000000 in
theorem rline_any (s : ByteArray) (w : World) (hs : s.size ≤ 1048576) : Calls Try.prog 51 #[.string s] w (SaysLine w (lineZ s.data.toList)) := by
  obtain ⟨iF, hiF, hzF0, hzF1, hzF2⟩ := info_parts infoLF
  have kc := fun W => rcut_any s 32 W (by omega)
  have HLR := hid (line_rest s.data.toList)
  generalize lineZ s.data.toList = R at *
  have hc1 := cut_le1 32 s.data.toList
  have hc2 := cut_le2 32 s.data.toList
  rw [size_toList] at hc1 hc2
  unfold SaysCut at kc
  generalize (cutZ 32 s.data.toList).1 = NM at *
  generalize (cutZ 32 s.data.toList).2.1 = RE at *
  generalize (cutZ 32 s.data.toList).2.2 = MO at *
  go_enter Try.func51, Try.ntmps51
  go_wp2_with fail
  refine (kc _).mono ?_
  rintro e w1 ⟨rfl, hx⟩
  have HB0 := hid (hx.block (heap_alloc_new w _))
  have HX := hid ((Ext.alloc w _).trans hx)
  have hsz1 := HX.out.size
  have hB0lt : w.heap.size < w1.heap.size := (Array.getElem?_eq_some_iff.1 HB0.out).1
  clear hx kc
  go_wp2_with fail
  have HT0 := hid (heap_alloc_new w1 (Obj.cells #[.string (bytesA NM), .slice none 0 0] 35 (0, 0)))
  have HA := hid (Ext.alloc w1 (Obj.cells #[.string (bytesA NM), .slice none 0 0] 35 (0, 0)))
  obtain ⟨S, hS⟩ : ∃ S, S = w1.heap.size := ⟨_, rfl⟩
  rw [← hS] at HT0 hB0lt ⊢
  have HSS := hid hS
  clear hS
  have HR0 := hid (show R = (restZ MO RE).map (fun fs => (⟨bytesA NM, [] ++ fs⟩ : TZ)) from HLR.out)
  clear HLR
  go_loopw [5, 6] (fun x y wq => ∃ (rest : List UInt8) (more : Bool) (done : List FZ) (v2 : Value), x = .string (bytesA rest) ∧ y = .bool more ∧ rest.length + done.length ≤ s.size ∧ Hid (R = (restZ more rest).map (fun fs => (⟨bytesA NM, done ++ fs⟩ : TZ))) ∧
      Hid (wq.heap[S]? = some (.cells #[.string (bytesA NM), v2] 35 (0, 0))) ∧ Hid (wq.ownsRow (S + 1) 66 2 v2 done.length (fcells done)) ∧ Hid (Ext w1 wq) ∧ S < wq.heap.size)
    (fun x y _ => (strLen x + 1) * boolN y)
  case atStart => exact ⟨RE, MO, [], .slice none 0 0, rfl, rfl, by simpa using hc2, HR0, HT0, World.ownsRow_nil _ _ _ _, HA, by rw [HSS.out]; simp⟩
  case round =>
    obtain ⟨rest, more, done, v2, rfl, rfl, hle, ho, hblk, hown, hext, hSlt⟩ := hrel
    obtain ⟨A5, c5, rfl, z1, z2, _⟩ := own_form hown.out
    have HB9 := hid (hext.out.block HB0.out)
    have HX9 := hid (HX.out.trans hext.out)
    cases more
    · obtain ⟨⟨b0, b1⟩, ⟨m0, m1⟩, _⟩ := box2 hblk.out
      obtain ⟨⟨a0, a1⟩, ⟨n0, n1⟩, hlt0⟩ := box2 HB9.out
      have HFL := hid (FieldsAt.of_own hown.out)
      have HGE := hid (fun k h => own_block_ge hown.out k h)
      have HRG := hid (show R = some (⟨bytesA NM, done⟩ : TZ) by rw [ho.out, rest_end]; simp)
      go_wp2_with fail
      refine bodyPost_ret (ret_cell_tmp rfl _ _ w.heap.size 35 _ (0, 0) _ rfl (set2 HB9.out) Try.underlying35 rfl (by kernel_rfl)) rfl ?_
      refine ⟨⟨bytesA NM, done⟩, _, true, rfl, ?_, (fun k h => by have := HGE.out k h; omega), ?_, HRG.out, fun h => by cases h⟩
      · exact FieldsAt.of_own (ownsRow_setCell_below (ownsRow_setCell_below hown.out (show w.heap.size < S + 1 by omega) _) (show w.heap.size < S + 1 by omega) _)
      · repeat (first | (with_reducible exact HX9.out) | (with_reducible refine Ext.setCell ?_ (by simp) _))
    · have kc := fun W => rcut_any (bytesA rest) 32 W (by rw [bytesA_size]; omega)
      unfold SaysCut at kc
      rw [bytesA_list] at kc
      have hst := rest_step rest
      have hl1 := cut_le1 32 rest
      have hl2 := cut_le2 32 rest
      have hl3 := cut_lt2 32 rest
      have hl4 := @cut_no 32 rest
      generalize cutZ 32 rest = C at *
      obtain ⟨WD, RE2, MO2⟩ := C
      dsimp only at *
      have kd := fun W => rcut_any (bytesA WD) 58 W (by rw [bytesA_size]; omega)
      unfold SaysCut at kd
      rw [bytesA_list] at kd
      have hbad := @word_bad WD
      have hgood := @word_good WD
      have hd2 := cut_le2 58 WD
      have hd3 := cut_lt2 58 WD
      generalize cutZ 58 WD = D at *
      obtain ⟨FD, WH, IS⟩ := D
      dsimp only at *
      have kk := fun W => rkind6_just (bytesA WH) W
      rw [bytesA_list] at kk
      have HD3 := hid hd3
      clear hd3
      have HHB := hid hbad
      have HHG := hid hgood
      have HST := hid hst
      have HL3 := hid hl3
      have HL4 := hid hl4
      clear hbad hgood hst hl3 hl4
      go_wp2_with fail
      refine (kc _).mono ?_
      rintro e w2 ⟨rfl, hx⟩
      replace HB9 := hid (hx.block HB9.out)
      replace HX9 := hid (HX9.out.trans hx)
      have HBK := hid (hx.block hblk.out)
      have HOW := hid (own_later hown.out hx)
      have HEX := hid (Ext.trans hext.out hx)
      clear hx kc
      go_wp2_with fail
      refine (kd _).mono ?_
      rintro e w3 ⟨rfl, hx⟩
      replace HB9 := hid (hx.block HB9.out)
      replace HX9 := hid (HX9.out.trans hx)
      replace HBK := hid (hx.block HBK.out)
      replace HOW := hid (own_later HOW.out hx)
      replace HEX := hid (Ext.trans HEX.out hx)
      have hS3 : S < w3.heap.size := (Array.getElem?_eq_some_iff.1 HBK.out).1
      clear hx kd
      obtain ⟨⟨b0, b1⟩, ⟨m0, m1⟩, _⟩ := box2 HBK.out
      obtain ⟨⟨a0, a1⟩, ⟨n0, n1⟩, hlt0⟩ := box2 HB9.out
      cases IS
      · have HRB := hid (show R = none by rw [ho.out, HST.out, HHB.out (Or.inl rfl)]; rfl)
        go_wp2_with fail
        refine bodyPost_ret (ret_cell_tmp rfl _ _ w.heap.size 35 _ (0, 0) _ rfl (set2 HB9.out) Try.underlying35 rfl (by kernel_rfl)) rfl ?_
        refine ⟨TZ.none, _, false, rfl, FieldsAt.nil _, (fun k h => by cases h), ?_, HRB.out, fun _ => rfl⟩
        repeat (first | (with_reducible exact HX9.out) | (with_reducible refine Ext.setCell ?_ (by simp) _))
      · have hkle := kindof_le WH
        generalize kindOf WH = K at *
        by_cases hK : K = 0
        · subst hK
          have HRB := hid (show R = none by rw [ho.out, HST.out, HHB.out (Or.inr rfl)]; rfl)
          go_wp2_with fail
          refine (kk _).mono ?_
          rintro e w4 ⟨rfl, rfl⟩
          go_wp2_with fail
          refine bodyPost_ret (ret_cell_tmp rfl _ _ w.heap.size 35 _ (0, 0) _ rfl (set2 HB9.out) Try.underlying35 rfl (by kernel_rfl)) rfl ?_
          refine ⟨TZ.none, _, false, rfl, FieldsAt.nil _, (fun k h => by cases h), ?_, HRB.out, fun _ => rfl⟩
          repeat (first | (with_reducible exact HX9.out) | (with_reducible refine Ext.setCell ?_ (by simp) _))
        · have HRG := hid (show R = (restZ MO2 RE2).map (fun fs => (⟨bytesA NM, (done ++ [⟨bytesA FD, K⟩]) ++ fs⟩ : TZ)) by
            rw [ho.out, HST.out, HHG.out rfl hK]
            cases restZ MO2 RE2 with
            | none => rfl
            | some fs => simp)
          have hKb : ((K : Int) == 0) = false := beq_eq_false_iff_ne.2 (by omega)
          have hlen : RE2.length + (done.length + 1) ≤ s.size := by
            have h1 := HD3.out rfl
            cases MO2
            · have h2 := HL4.out rfl
              have h3 : RE2 = [] := congrArg (fun q => q.2.1) h2
              subst h3
              simp only [List.length_nil]
              omega
            · have h2 := HL3.out rfl
              omega
          have HME := hid (show (RE2.length + 1) * boolN (.bool MO2) < (rest.length + 1) * 1 by
            cases MO2
            · simp [boolN]
            · have h2 := HL3.out rfl
              simp [boolN]
              omega)
          clear hK
          go_wp2_with fail
          refine (kk _).mono ?_
          rintro e w4 ⟨rfl, rfl⟩
          go_wp2_with fail
          go_region_law (first | (refine step_append_lies _ rfl (.tmp 42) (.tmp 47) 33 rfl (S + 1) 66 iF (.agg #[.string ⟨#[]⟩, .int .u8 0]) 2 24 Try.underlying33 hiF hzF0 hzF1 hzF2 rfl (by decide) (.slice A5 done.length c5) done.length _ (by simp [Act.eval]) (World.ownsRow.alloc (World.ownsRow.drew HOW.out) _) ⟨w4.heap.size, 0, none⟩ 1 1 [.string (bytesA FD), .int .u8 (K : Int)] (by simp [Act.eval]) rfl (fun j u h => World.news_of_block (heap_alloc_new _ _) j u h) (by intro u hu; simp at hu; rcases hu with rfl | rfl <;> rfl) (by decide) (by unfold maxLen; omega) (by omega) (by simp; omega) _ rfl ?_; intro g9 cap9 w9 hown9 hgrow9 hat9 hlt9; have hblk9 := grown_block ((Ext.drew w4).then_alloc _) hgrow9 (fun k hk => own_block_ge HOW.out k hk) HBK.out (Nat.lt_succ_self S); obtain ⟨⟨e0, e1⟩, ⟨f0, f1⟩, e2⟩ := box2 hblk9) | (go_simp; go_at_call 61; refine (kk _).mono ?_; rintro e7 w7 ⟨rfl, rfl⟩))
          all_goals
            have HG9 := hid (Ext.grown (Ext.trans HEX.out ((Ext.drew w4).then_alloc _)) hgrow9 (fun k hk => by have := own_block_ge HOW.out k hk; have := HSS.out; omega))
            have HW9 := hid (show w9.ownsRow (S + 1) 66 2 (.slice (some ⟨g9, 0, none⟩) (done.length + 1) cap9) (done ++ [(⟨bytesA FD, K⟩ : FZ)]).length (fcells (done ++ [⟨bytesA FD, K⟩])) by rw [fcells_append, List.length_append]; exact hown9)
            have HBK9 := hid hblk9
            clear hgrow9 hown9 hat9 hlt9 hblk9 e0 e1 f0 f1
            go_wp2_with fail
            go_roundw
            case rel => exact ⟨RE2, MO2, done ++ [⟨bytesA FD, K⟩], _, rfl, rfl, by rw [List.length_append]; exact hlen, HRG, hid (by simpa using heap_setCell_same w9 S 1 _ _ _ HBK9.out), hid (ownsRow_setCell_below (a := ⟨S, 1, none⟩) HW9.out (Nat.lt_succ_self S) _), Ext.setCell HG9.out (by have := HSS.out; show _ ≤ S; omega) _, by simpa [World.setCell] using e2⟩
            case measure => simpa [strLen, boolN, bytesA_size] using HME.out
end Go.Proofs.Ytggafdimbddflaa
