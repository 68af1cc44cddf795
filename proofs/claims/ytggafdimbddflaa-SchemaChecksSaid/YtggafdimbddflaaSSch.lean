/- The landed program's schema: Parse, by its contract; the others are told by XSP1 to XSP7. Conditions: small types, texts of up to 2^20 bytes. -/
import Derived.Test.YtggafdimbddflaaSLaw2
import Derived.Test.YtggafdimbddflaaSLaw3
import Derived.Test.YtggafdimbddflaaSP9
namespace Go.Proofs.Ytggafdimbddflaa
open Go Go.RowKit

theorem infoST : (Try.prog.info? 30).map (fun i => (i.zero, i.size, i.bytes)) = some (some (.agg #[.string ⟨#[]⟩, .slice none 0 0]), 2, 40) := by kernel_rfl
theorem scheck_any (L : List TZ) (v : Value) (w : World) (hv : TypesAt w v L) (hsm : TypesSmall L) : Calls Try.prog 14 #[v] w (Says w (.int .i64 (checkZ L))) := schecks_any L v w hv hsm.mid
theorem sfield_any (t : TZ) (r : Value) (name : ByteArray) (w : World) (hf : FieldsAt w r t.f) (_hsm : TypeSmall t) (_hn : name.size ≤ 40) : Calls Try.prog 19 #[.agg #[.string t.n, r], .string name] w (SaysAt w (atZ name 0 t.f)) := sfieldf_any t r name w hf
theorem sfits_any (t : TZ) (V : List VZ) (r v : Value) (w : World) (hf : FieldsAt w r t.f) (hv : ValsAt w v V) (_hsm : TypeSmall t) (hok : ValsOk V) (_hl : V.length ≤ 12) : Calls Try.prog 26 #[.agg #[.string t.n, r], v] w (Says w (.int .i64 (fitsZ t.f V))) := sfitsv_any t V r v w hf hv hok
theorem sreserved_any (s : ByteArray) (w : World) (_hs : s.size ≤ 1048576) : Calls Try.prog 23 #[.string s] w (Says w (.bool (reservedZ s))) := (sreserved_just s w).mono (fun _ _ h => h.says)
theorem parse_clip (l : List UInt8) : parseZ l = match textZ l with
    | none => ([], 4)
    | some ts => if checkZ (clipT ts) = 0 then (clipT ts, 0) else ([], checkZ (clipT ts)) := by
  rw [parse_text]
  cases textZ l with
  | none => rfl
  | some ts =>
    show (if checkZ ts = 0 then (ts, (0 : Int)) else ([], checkZ ts)) = if checkZ (clipT ts) = 0 then (clipT ts, 0) else ([], checkZ (clipT ts))
    rw [check_clip]
    by_cases h : checkZ ts = 0
    · rw [if_pos h, if_pos h, clip_same h]
    · rw [if_neg h, if_neg h]

set_option maxRecDepth 100000 in
set_option maxHeartbeats 8000000 in
theorem sparse_any (s : ByteArray) (w : World) (hs : s.size ≤ 1048576) : Calls Try.prog 29 #[.string s] w (SaysTypes w (parseZ s.data.toList)) := by
  obtain ⟨iT, hiT, hzT0, hzT1, hzT2⟩ := info_parts infoST
  have HPT := hid (parse_clip s.data.toList)
  have HR0 := hid (show textZ s.data.toList = (textZ s.data.toList).map ([] ++ ·) by cases textZ s.data.toList <;> simp)
  generalize parseZ s.data.toList = P at *
  obtain ⟨Q, hQ⟩ : ∃ Q, Q = textZ s.data.toList := ⟨_, rfl⟩
  rw [← hQ] at HPT
  have HQ := hid hQ
  clear hQ
  go_enter Try.func29, Try.ntmps29
  go_wp2_with fail
  go_loopw [0, 4] (fun x y wq => ∃ (rest : List UInt8) (done D : List TZ), Hid (clipT done = D) ∧ x = .string (bytesA rest) ∧ rest.length ≤ s.size ∧ Hid (Q = (textZ rest).map (done ++ ·)) ∧
      Hid (Built wq w.heap.size 30 y D) ∧ Hid (Ext w wq) ∧ Hid (TypesMid D))
    (fun x _ _ => strLen x)
  case atStart => exact ⟨s.data.toList, [], [], hid rfl, by rw [bytesA_self], by rw [size_toList]; exact Nat.le_refl _, hid (HQ.out.trans HR0.out), Built.nil _ _ _, Ext.refl _, hid (fun t h => by cases h)⟩
  case round =>
    obtain ⟨rest, done, D, hD, rfl, hle, ho, hbu, hext, htok⟩ := hrel
    by_cases hpos : 0 < rest.length
    · have hsz : (bytesA rest).size = rest.length := rfl
      have hneq : ((bytesA rest).toList == ([] : List UInt8)) = false := beq_eq_false_iff_ne.2 (fun e => by rw [ByteArray.toList_eq, bytesA_list] at e; subst e; exact absurd hpos (Nat.lt_irrefl _))
      have hneb : (!((bytesA rest).toList == ([] : List UInt8))) = true := by rw [hneq]; rfl
      have kc := fun W => scut_any (bytesA rest) 10 W (by omega)
      unfold SaysCut at kc
      rw [bytesA_list] at kc
      have hbad := @text_bad rest
      have hstep := fun t => @text_step rest t
      have hl1 := cut_le1 10 rest
      have hl3 := cut_lt2 10 rest
      generalize cutZ 10 rest = C at *
      obtain ⟨TX, RE2, IS⟩ := C
      dsimp only at *
      have kl := fun W => sptype_any (bytesA TX) W (by rw [bytesA_size]; omega)
      unfold SaysPT at kl
      rw [bytesA_list] at kl
      have hll := fun t => @line_le TX t
      generalize lineZ TX = LZ at *
      have hne : rest ≠ [] := by rintro rfl; exact Nat.lt_irrefl _ hpos
      have HB := hid hbad
      have HS := hid hstep
      have HLL := hid hll
      have HL3 := hid hl3
      have HNE := hid hne
      clear hbad hstep hll hl3 hne
      go_wp2_with fail
      refine (kc _).mono ?_
      rintro e w2 ⟨rfl, hx⟩
      have HBu := hid (hbu.out.ext hx)
      have HEX := hid (Ext.trans hext.out hx)
      have hw2 : w.heap.size ≤ w2.heap.size := Below.size HEX.out
      clear hx kc
      go_wp2_with fail
      refine (kl _).mono ?_
      rintro e w3 ⟨t, r, b, rfl, hf, hfresh, hx, hLZ, _⟩
      have HF := hid hf
      obtain ⟨A5, c5, rfl, z1, z2, _⟩ := hf
      obtain ⟨N, F⟩ := t
      dsimp only at *
      have hxa := hx.then_alloc (Obj.cells #[.string N, .slice A5 F.length c5] 30 (0, 0))
      have HFR := hid hfresh
      have HBu2 := hid (HBu.out.ext hxa)
      have hs2 := hx.size
      replace HEX := hid (Ext.trans HEX.out hxa)
      have hEXs : w.heap.size ≤ (w3.alloc (Obj.cells #[.string N, .slice A5 F.length c5] 30 (0, 0))).heap.size := Below.size HEX.out
      obtain ⟨R, hRl, hRo, hRR⟩ := HBu.out
      have HBL := hid (own_block_lt hRo)
      obtain ⟨AR, cR, rfl, zr1, zr2, _⟩ := own_form hRo
      have HRo := hid (own_later hRo hxa)
      have HRR := hid (fun k h hr => (⟨(hRR k h hr).1.ext hxa, (hRR k h hr).2⟩ : FieldsAt (w3.alloc (Obj.cells #[.string N, .slice A5 F.length c5] 30 (0, 0))) R[k] D[k].f ∧ Apart R[k] D[k].f _))
      have hsz2 : w.heap.size ≤ w3.heap.size := by omega
      have HTB := hid (heap_alloc_new w3 (Obj.cells #[.string N, .slice A5 F.length c5] 30 (0, 0)))
      obtain ⟨⟨t0, t1⟩, _, _⟩ := box2 HTB.out
      clear hxa hx kl hfresh hRR hRo HBu
      cases IS
      · have HR := hid (show Q = none by rw [ho.out, HB.out HNE.out (Or.inl rfl)]; rfl)
        go_wp2_with fail
        go_ret2
        refine ⟨.slice none 0 0, ?_, ?_, HEX.out⟩
        · rw [HPT.out, HR.out]; rfl
        · rw [HPT.out, HR.out]; exact TypesAt.nil _
      · cases b
        · have hLN : LZ = none := by cases LZ with
            | none => rfl
            | some u => cases hLZ
          have HR := hid (show Q = none by rw [ho.out, HB.out HNE.out (Or.inr hLN)]; rfl)
          go_wp2_with fail
          go_ret2
          refine ⟨.slice none 0 0, ?_, ?_, HEX.out⟩
          · rw [HPT.out, HR.out]; rfl
          · rw [HPT.out, HR.out]; exact TypesAt.nil _
        · obtain ⟨u, hLU, hcu⟩ : ∃ u, LZ = some u ∧ clipF u = ⟨N, F⟩ := by cases LZ with
            | none => cases hLZ
            | some u => exact ⟨u, rfl, Option.some.inj hLZ⟩
          have HR := hid (show Q = (textZ RE2).map ((done ++ [u]) ++ ·) by
            rw [ho.out, HS.out _ rfl hLU]
            cases textZ RE2 <;> simp)
          have hlt2 := HL3.out rfl
          have hCM := clip_more done u
          rw [hD.out, hcu] at hCM
          have hclen : D.length = min 9 done.length := by rw [← hD.out]; exact clip_len done
          have HMU := hid (show TypeMid ⟨N, F⟩ by
            have h1 := HLL.out _ hLU
            rw [← hcu]
            refine ⟨by show u.n.size ≤ _; omega, fun f hf => ?_⟩
            have h2 := h1.2 f (List.mem_of_mem_take hf)
            exact ⟨by omega, by omega⟩)
          by_cases h8 : done.length ≤ 8
          · rw [if_pos h8] at hCM
            have HCM := hid hCM
            have h8' : (D.length : Int) ≤ 8 := by omega
            have hD9 : D.length ≤ 9 := by omega
            have HOK := hid (show TypesMid (D ++ [(⟨N, F⟩ : TZ)]) from fun u hu => by
              rcases List.mem_append.1 hu with hu | hu
              · exact htok.out u hu
              · rw [List.mem_singleton.1 hu]; exact HMU.out)
            clear hCM h8 hclen hcu hLU hLZ
            go_wp2_with (at_builtin; refine Go.wpList_append_lies _ rfl (.tmp 33) (.tmp 35) 26 rfl w.heap.size 30 iT (.agg #[.string ⟨#[]⟩, .slice none 0 0]) 2 40 Try.underlying26 hiT hzT0 hzT1 hzT2 rfl (by decide) _ D.length _ rfl (HRo.out.alloc _) ⟨w3.heap.size + 1, 0, none⟩ 1 1 [.string N, .slice A5 F.length c5] rfl rfl (fun j u h => World.news_of_block (heap_alloc2_new w3 _ _) j u h) (by intro u hu; simp at hu; rcases hu with rfl | rfl <;> rfl) (by decide) (by unfold maxLen; omega) (by omega) (by simp; omega) _ rfl ?_; intro g9 cap9 w9 hown9 hgrow9 hat9 hlt9)
            have HBM := hid (Built.more (v' := .slice (some ⟨g9, 0, none⟩) (D.length + 1) cap9) (t := ⟨N, F⟩) hRl HRR.out (HF.out.ext (Ext.alloc w3 (Obj.cells #[.string N, .slice A5 F.length c5] 30 (0, 0)))) (fun _ g o n c e => by
              intro hv
              have h1 := HBL.out g hv
              have h2 := HFR.out g (by rw [e]; rfl)
              omega) (Ext.alloc _ _) hgrow9 (hat9.imp (fun h => h) (fun h => congrArg some h)) hown9)
            have HG9 := hid (Ext.grown (Ext.then_alloc HEX.out _) hgrow9 (fun k hk => own_block_ge HRo.out k hk))
            clear hgrow9 hown9 hat9 hlt9
            go_roundw
            case rel => exact ⟨RE2, done ++ [u], D ++ [⟨N, F⟩], HCM, rfl, by omega, HR, HBM, HG9, HOK⟩
            case measure => simpa [strLen, bytesA_size] using hlt2
          · rw [if_neg h8] at hCM
            have HCM := hid hCM
            have h8' : ¬ (D.length : Int) ≤ 8 := by omega
            clear hCM h8 hclen hcu hLU hLZ
            go_wp2_with fail
            go_roundw
            case rel => exact ⟨RE2, done ++ [u], D, HCM, rfl, by omega, HR, HBu2, HEX, htok⟩
            case measure => simpa [strLen, bytesA_size] using hlt2
    · have hr : rest = [] := List.length_eq_zero_iff.1 (by omega)
      subst hr
      have HR := hid (show Q = some done by rw [ho.out, text_end]; simp)
      have hneq : ((bytesA []).toList == ([] : List UInt8)) = true := beq_iff_eq.2 (by rw [ByteArray.toList_eq]; rfl)
      have hneb : (!((bytesA []).toList == ([] : List UInt8))) = false := by rw [hneq]; rfl
      have kch := fun W v (hv : TypesAt W v D) => schecks_any D v W hv htok.out
      have HTA := hid hbu.out.types
      have HP2 := hid (show P = if checkZ D = 0 then (D, 0) else ([], checkZ D) by rw [HPT.out, HR.out, ← hD.out])
      generalize checkZ D = CZ at *
      go_wp2_with fail
      refine (kch _ _ HTA.out).mono ?_
      rintro e w5 ⟨rfl, hx⟩
      have HTB := hid (HTA.out.ext hx)
      have HEX := hid (Ext.trans hext.out hx)
      clear hx kch
      by_cases hz : CZ = 0
      · subst hz
        go_wp2_with fail
        go_ret2
        exact SaysTypes.mk (by rw [HP2.out]; rfl) HTB.out HEX.out
      · have hzb : (CZ != 0) = true := bne_iff_ne.2 hz
        have HZ := hid hz
        clear hz
        go_wp2_with fail
        go_ret2
        exact SaysTypes.mk (by rw [HP2.out, if_neg HZ.out]) (TypesAt.nil _) HEX.out
end Go.Proofs.Ytggafdimbddflaa
