/- The document's Parse, by its contract. Conditions: texts of up to 2^20 bytes. -/
import Derived.Test.YtggafdimbddflaaSR7
import Derived.BigQuiet
namespace Go.Proofs.Ytggafdimbddflaa
open Go Go.RowKit

/-- types are told, and an error -/
def SaysTypes (w : World) (t : List TZ × Int) (e : Ending) (w' : World) : Prop := ∃ v, e = .returned (.tuple #[v, .int .i64 t.2]) ∧ TypesAt w' v t.1 ∧ Ext w w'
theorem SaysTypes.mk {w w' : World} {P : List TZ × Int} {L : List TZ} {x : Int} {v : Value} (h : P = (L, x)) (hv : TypesAt w' v L) (hx : Ext w w') : SaysTypes w P (.returned (.tuple #[v, .int .i64 x])) w' := by
  subst h
  exact ⟨v, rfl, hv, hx⟩
theorem infoPT : (Try.prog.info? 35).map (fun i => (i.zero, i.size, i.bytes)) = some (some (.agg #[.string ⟨#[]⟩, .slice none 0 0]), 2, 40) := by kernel_rfl

set_option maxRecDepth 100000 in
set_option maxHeartbeats 8000000 in
theorem rparse6_any (s : ByteArray) (w : World) (hs : s.size ≤ 1048576) : Calls Try.prog 30 #[.string s] w (SaysTypes w (parseZ s.data.toList)) := by
  obtain ⟨iT, hiT, hzT0, hzT1, hzT2⟩ := info_parts infoPT
  have HPT := hid (parse_text s.data.toList)
  have HR0 := hid (show textZ s.data.toList = (textZ s.data.toList).map ([] ++ ·) by cases textZ s.data.toList <;> simp)
  generalize parseZ s.data.toList = P at *
  obtain ⟨Q, hQ⟩ : ∃ Q, Q = textZ s.data.toList := ⟨_, rfl⟩
  rw [← hQ] at HPT
  have HQ := hid hQ
  clear hQ
  go_enter Try.func30, Try.ntmps30
  go_wp2_with fail
  go_loopw [0, 4] (fun x y wq => ∃ (rest : List UInt8) (done : List TZ), x = .string (bytesA rest) ∧ rest.length + done.length ≤ s.size ∧ Hid (Q = (textZ rest).map (done ++ ·)) ∧
      Hid (Built wq w.heap.size 35 y done) ∧ Hid (Ext w wq) ∧ Hid (TypesOk done))
    (fun x _ _ => strLen x)
  case atStart => exact ⟨s.data.toList, [], by rw [bytesA_self], by rw [size_toList]; exact Nat.le_refl _, hid (HQ.out.trans HR0.out), Built.nil _ _ _, Ext.refl _, hid (fun t h => by cases h)⟩
  case round =>
    obtain ⟨rest, done, rfl, hle, ho, hbu, hext, htok⟩ := hrel
    by_cases hpos : 0 < rest.length
    · have hsz : (bytesA rest).size = rest.length := rfl
      have hpos' : 0 < ((bytesA rest).size : Int) := by omega
      have kc := fun W => rcut_any (bytesA rest) 10 W (by omega)
      unfold SaysCut at kc
      rw [bytesA_list] at kc
      have hbad := @text_bad rest
      have hstep := fun t => @text_step rest t
      have hl1 := cut_le1 10 rest
      have hl3 := cut_lt2 10 rest
      generalize cutZ 10 rest = C at *
      obtain ⟨TX, RE2, IS⟩ := C
      dsimp only at *
      have kl := fun W => rline_any (bytesA TX) W (by rw [bytesA_size]; omega)
      rw [bytesA_list] at kl
      have hll := fun t => @line_le TX t
      generalize lineZ TX = LZ at *
      have hne : rest ≠ [] := by rintro rfl; exact Nat.lt_irrefl _ hpos
      have HB := hid hbad
      have HS := hid hstep
      have HLL := hid hll
      have HL3 := hid hl3
      have HNE := hid hne
      clear hbad hstep hll hl3 hne
      go_wp2_with fail
      refine (kc _).mono ?_
      rintro e w2 ⟨rfl, hx⟩
      have HBu := hid (hbu.out.ext hx)
      have HEX := hid (Ext.trans hext.out hx)
      clear hx kc
      go_wp2_with fail
      refine (kl _).mono ?_
      rintro e w3 ⟨t, r, b, rfl, hf, hfresh, hx, hLZ, _⟩
      have HF := hid hf
      obtain ⟨A5, c5, rfl, z1, z2, _⟩ := hf
      obtain ⟨N, F⟩ := t
      dsimp only at *
      have HFR := hid hfresh
      have HBu2 := hid (HBu.out.ext hx)
      have hs2 := hx.size
      replace HEX := hid (Ext.trans HEX.out hx)
      obtain ⟨R, hRl, hRo, hRR⟩ := HBu.out
      have HBL := hid (own_block_lt hRo)
      have HRo := hid (own_later hRo hx)
      have HRR := hid (fun k h hr => (⟨(hRR k h hr).1.ext hx, (hRR k h hr).2⟩ : FieldsAt w3 R[k] done[k].f ∧ Apart R[k] done[k].f _))
      have hsz2 : w.heap.size ≤ w3.heap.size := Below.size HEX.out
      clear hx kl hfresh hRR hRo HBu
      cases IS
      · have HR := hid (show Q = none by rw [ho.out, HB.out HNE.out (Or.inl rfl)]; rfl)
        go_wp2_with fail
        go_ret2
        refine ⟨.slice none 0 0, ?_, ?_, HEX.out.then_alloc _⟩
        · rw [HPT.out, HR.out]; rfl
        · rw [HPT.out, HR.out]; exact TypesAt.nil _
      · cases b
        · have HR := hid (show Q = none by rw [ho.out, HB.out HNE.out (Or.inr hLZ)]; rfl)
          go_wp2_with fail
          go_ret2
          refine ⟨.slice none 0 0, ?_, ?_, HEX.out.then_alloc _⟩
          · rw [HPT.out, HR.out]; rfl
          · rw [HPT.out, HR.out]; exact TypesAt.nil _
        · have HR := hid (show Q = (textZ RE2).map ((done ++ [(⟨N, F⟩ : TZ)]) ++ ·) by
            rw [ho.out, HS.out _ rfl hLZ]
            cases textZ RE2 <;> simp)
          have hlt2 := HL3.out rfl
          have HOK := hid (show TypesOk (done ++ [(⟨N, F⟩ : TZ)]) from fun u hu => by
            rcases List.mem_append.1 hu with hu | hu
            · exact htok.out u hu
            · rw [List.mem_singleton.1 hu]
              have h1 := HLL.out _ hLZ
              have h11 : N.size ≤ TX.length := h1.1
              refine ⟨by show N.size ≤ _; omega, fun f hf => ?_⟩
              have h2 := h1.2 f hf
              exact ⟨by omega, by omega⟩)
          go_wp2_with (at_builtin; refine Go.wpList_append_lies _ rfl (.tmp 31) (.tmp 33) 22 rfl w.heap.size 35 iT (.agg #[.string ⟨#[]⟩, .slice none 0 0]) 2 40 Try.underlying22 hiT hzT0 hzT1 hzT2 rfl (by decide) _ done.length _ rfl ((HRo.out.alloc _).alloc _) ⟨w3.heap.size + 1, 0, none⟩ 1 1 [.string N, .slice A5 F.length c5] rfl rfl (fun j u h => World.news_of_block (heap_alloc2_new w3 _ _) j u h) (by intro u hu; simp at hu; rcases hu with rfl | rfl <;> rfl) (by decide) (by unfold maxLen; omega) (by omega) (by simp; omega) _ rfl ?_; intro g9 cap9 w9 hown9 hgrow9 hat9 hlt9)
          have HBM := hid (Built.more (v' := .slice (some ⟨g9, 0, none⟩) (done.length + 1) cap9) (t := ⟨N, F⟩) hRl HRR.out HF.out (fun _ g o n c e => by
            intro hv
            have h1 := HBL.out g hv
            have h2 := HFR.out g (by rw [e]; rfl)
            omega) ((Ext.alloc w3 _).then_alloc _) hgrow9 (hat9.imp (fun h => h) (fun h => congrArg some h)) hown9)
          have HG9 := hid (Ext.grown (Ext.trans HEX.out ((Ext.alloc w3 _).then_alloc _)) hgrow9 (fun k hk => own_block_ge HRo.out k hk))
          clear hgrow9 hown9 hat9 hlt9
          go_roundw
          case rel => exact ⟨RE2, done ++ [⟨N, F⟩], rfl, by rw [List.length_append]; show RE2.length + (done.length + 1) ≤ s.size; omega, HR, HBM, HG9, HOK⟩
          case measure => simpa [strLen, bytesA_size] using hlt2
    · have hr : rest = [] := List.length_eq_zero_iff.1 (by omega)
      subst hr
      have HR := hid (show Q = some done by rw [ho.out, text_end]; simp)
      have kch := fun W v (hv : TypesAt W v done) => rchecks_any done v W hv htok.out
      have HTA := hid hbu.out.types
      have HP2 := hid (show P = if checkZ done = 0 then (done, 0) else ([], checkZ done) by rw [HPT.out, HR.out])
      generalize checkZ done = CZ at *
      go_wp2_with fail
      refine (kch _ _ HTA.out).mono ?_
      rintro e w5 ⟨rfl, hx⟩
      have HTB := hid (HTA.out.ext hx)
      have HEX := hid (Ext.trans hext.out hx)
      clear hx kch
      by_cases hz : CZ = 0
      · subst hz
        go_wp2_with fail
        go_ret2
        exact SaysTypes.mk (by rw [HP2.out]; rfl) HTB.out HEX.out
      · have hzb : (CZ != 0) = true := bne_iff_ne.2 hz
        have HZ := hid hz
        clear hz
        go_wp2_with fail
        go_ret2
        exact SaysTypes.mk (by rw [HP2.out, if_neg HZ.out]) (TypesAt.nil _) HEX.out
end Go.Proofs.Ytggafdimbddflaa
