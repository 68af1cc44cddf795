/- ZigBack: the walk. -/
import Derived.Test.YtldepfojgmhehaaZBackM
namespace Go.Proofs.Ytldepfojgmhehaa
open Go Go.RowKit

/-- what the slots of the region hold -/
def zbackG (g p q cb : Nat) (n : Int) (s : ByteArray) (U M : Nat) (E : Int) (X : Bool) : Nat → Value → World → Prop
  | 0, v, _ => v = .int .i64 n
  | 1, v, _ => v = .int .i64 n
  | 2, v, _ => v = .bool true
  | 3, v, _ => v = .bool true
  | 4, v, _ => v = .int .i64 ((p : Int) + (q : Int))
  | 5, v, _ => v = .slice (some ⟨g, 0, none⟩) (p + q) cb
  | 6, v, _ => v = .int .i64 ((p : Int) + (q : Int))
  | 7, v, _ => v = .bool true
  | 8, v, _ => v = .bool true
  | 9, v, _ => v = .bool true
  | 10, v, _ => v = .int .i64 0
  | 11, v, _ => v = .bool true
  | 12, v, _ => v = .bool true
  | 13, v, _ => v = .bool true
  | 14, v, _ => v = .int .i64 3
  | 15, v, _ => v = .bool true
  | 16, v, _ => v = .bool true
  | 17, v, _ => v = .bool true
  | 18, v, _ => v = .int .i64 E
  | 19, v, _ => v = .bool X
  | 20, v, _ => v = .bool X
  | 21, v, _ => v = cond X undef (.int .i64 (M : Int))
  | 22, v, _ => v = cond X undef (.bool true)
  | 23, v, _ => v = cond X undef (.bool true)
  | 24, v, _ => v = cond X undef (.int .i64 (M : Int))
  | 25, v, _ => v = cond X undef (.string s)
  | 26, v, _ => v = cond X undef (.int .i64 (s.size : Int))
  | 27, v, _ => v = cond X undef (.bool true)
  | 28, v, _ => v = cond X undef (.bool true)
  | 29, v, _ => v = cond X undef (.bool true)
  | 30, v, _ => v = cond X undef (.int .u64 (U : Int))
  | 31, v, w => X = false → Bytes w v (zb U)
  | 32, v, _ => v = cond X undef (.string ⟨(zb U).toArray⟩)
  | 33, v, _ => v = cond X undef (.string s)
  | 34, v, _ => v = cond X undef (.int .i64 (M : Int))
  | 35, v, _ => v = cond X undef (.string ⟨(zb U).toArray⟩)
  | 36, v, _ => v = cond X undef (.bool true)
  | 37, v, _ => v = cond X undef (.bool true)
  | 38, v, _ => v = .bool true
  | 39, v, _ => v = .bool true
  | 40, v, _ => v = .bool true
  | 41, v, _ => v = .bool true
  | 42, v, _ => v = .bool true
  | 43, v, _ => v = .bool true
  | _, _, _ => True
theorem zbackG_st (g p q cb : Nat) (n : Int) (s : ByteArray) (U M : Nat) (E : Int) (X : Bool) : ∀ i9 z9 x9 y9, zbackG g p q cb n s U M E X i9 z9 x9 → Ext x9 y9 → zbackG g p q cb n s U M E X i9 z9 y9 := by
  intro i9 z9 x9 y9 h e
  unfold zbackG at *
  split at h <;> first | exact h | exact Bytes.ext h e | exact fun h9 => Bytes.ext (h h9) e

set_option maxRecDepth 100000 in
set_option maxHeartbeats 4000000 in
theorem zback_in (A : Option Addr) (L : List Nat) (c : Nat) (n : Int) (s : ByteArray) (w : World) (hL : Lies w A (uvs L)) (hu : ∀ u ∈ L, u ≤ 18446744073709551615) (hl1 : L.length ≤ 20) (hs1 : s.size ≤ 100)
    (hn0 : -9223372036854775808 ≤ n) (hn1 : n ≤ 9223372036854775807) :
    Calls Try.prog 5 #[.slice A L.length c, .int .i64 n, .string s] w (Says w (.bool true)) := by
  have HL := hid hL
  have HU := hid hu
  clear hL hu
  have hl2 : ¬ 20 < L.length := by omega
  have hs2 : ¬ 100 < s.size := by omega
  go_enter Try.func5, Try.ntmps5
  go_wp2_with fail
  go_loopw [7, 8] (fun b i wr => ∃ k : Nat, k ≤ L.length ∧ i = .int .i64 (k : Int) ∧ Hid (Bytes wr b (zcat (L.take k))) ∧ Ext w wr)
    (fun _ i _ => L.length - (intOf i).toNat)
  case atStart => exact ⟨0, by omega, rfl, Bytes.nil w, Ext.refl w⟩
  case round =>
    rename_i b i
    obtain ⟨k, hk, rfl, hb, hext⟩ := hrel
    have htl := zcat_take_le L HU.out k
    by_cases hkl : k < L.length
    · obtain ⟨bl, off, rfl, hc⟩ := (HL.out.ext hext).open_at (k := k) (by rw [uvs_length]; exact hkl)
      have hcu : (uvs L)[k]'(by rw [uvs_length]; exact hkl) = .int .u64 (L[k] : Int) := by simp [uvs]
      rw [hcu] at hc
      clear hcu
      have hul := HU.out L[k] (List.getElem_mem hkl)
      obtain ⟨u, hu⟩ : ∃ u, u = L[k] := ⟨_, rfl⟩
      rw [← hu] at hc hul
      have HU1 := hid hu
      clear hu
      obtain ⟨X, hX⟩ : ∃ X, X = zcat (L.take k) := ⟨_, rfl⟩
      rw [← hX] at htl hb
      have HXX := hid hX
      clear hX
      go_wp2_with fail
      refine (put_at _ X u _ hb.out (by omega) hul).mono ?_
      rintro e w1 ⟨r1, rfl, ho1, hx⟩
      have hB1 := hid (Bytes.of_own ho1)
      have HX := hid (hext.trans hx)
      clear hc ho1 hx
      go_wp2_with fail
      go_roundw
      case rel =>
        refine ⟨k + 1, by omega, by go_num, ?_, HX.out⟩
        show Bytes _ _ _
        rw [zcat_take L k hkl, ← HXX.out, ← HU1.out]
        exact hB1.out
      case measure => simp [intOf]; omega
    · have hke : k = L.length := by omega
      have htk : L.take k = L := by rw [hke, List.take_length]
      rw [htk] at hb htl
      have HK := hid hke
      clear htk hke
      have hge : (L.length : Int) ≤ (k : Int) := by omega
      clear hkl
      obtain ⟨F, hF, hFl⟩ : ∃ F : Nat, foldZ n = (F : Int) ∧ F ≤ 18446744073709551615 := by
        have := fold_bounds hn0 hn1
        exact ⟨(foldZ n).toNat, by omega, by omega⟩
      have hzf : zf n = zb F := by unfold zf; rw [hF, Int.toNat_natCast]
      have hbk : backZ (F : Int) = n := by rw [← hF]; exact back_fold n
      obtain ⟨q, hq, hq1, hq2⟩ : ∃ q, q = zs F ∧ 0 < q ∧ q ≤ 10 := ⟨_, rfl, (zs_spec F).1, zs_ten (by omega)⟩
      obtain ⟨p, hp⟩ : ∃ p, p = (zcat L).length := ⟨_, rfl⟩
      have hpl : p ≤ 200 := by omega
      go_wp2_with fail
      refine (putint_at _ (zcat L) n _ hb.out (by omega) hn0 hn1).mono ?_
      rintro e w1 ⟨r, rfl, ho, hx⟩
      rw [hzf] at ho
      obtain ⟨T, hT⟩ : ∃ T, T = zcat L ++ zb F := ⟨_, rfl⟩
      rw [← hT] at ho
      have hTl : T.length = p + q := by rw [hT, List.length_append, zb_length, hp, hq]
      obtain ⟨g, cb, hr, hcb, hcm, _, hgl⟩ := own_some ho (by omega)
      have hB := hid (Bytes.of_own ho)
      rw [hTl] at hr hcb
      subst hr
      have HX := hid (hext.trans hx)
      have HT := hid hT
      have HTL := hid hTl
      have HP := hid hp
      have HQ := hid hq
      have HBK := hid hbk
      clear hT hTl ho hx hext hb hF hzf hp hq hbk htl
      obtain ⟨S0, hS0⟩ : ∃ S0 : ByteArray, S0 = ⟨T.toArray⟩ := ⟨_, rfl⟩
      have hcv : (convert 22 9 (.slice (some ⟨g, 0, none⟩) (p + q) cb)).run Try.prog w1 = .ok (.string S0) w1 := by
        rw [hS0]
        exact run_string_bytes (P := Try.prog) Try.underlying22 Try.underlying5 Try.underlying9 hB.out
      have hS0s : S0.size = p + q := by rw [hS0, ← HTL.out]; rfl
      have HS0 := hid hS0
      have hpq : ((p : Int) + (q : Int) == 0) = false := by rw [beq_eq_false_iff_ne]; omega
      clear hS0
      go_wp2_with fail
      try rw [hpq]
      obtain ⟨ST, hST⟩ : ∃ ST : ByteArray, ST = S0 ++ s := ⟨_, rfl⟩
      rw [← hST]
      have hSTl : ST.data.toList = zcat L ++ (zb F ++ s.data.toList) := by
        rw [hST, ByteArray.data_append, Array.toList_append, HS0.out, HT.out]
        simp
      have hSTs : ST.size ≤ 9223372036854775807 := by rw [hST, ByteArray.size_append]; omega
      have HST := hid hSTl
      clear hST hSTl hcv
      go_loopw [10, 11] (fun a i wq => ∃ j : Nat, j ≤ L.length ∧ i = .int .i64 (j : Int) ∧ a = .int .i64 ((zcat (L.take j)).length : Int) ∧ Ext w1 wq)
        (fun _ i _ => L.length - (intOf i).toNat)
      case atStart => exact ⟨0, by omega, rfl, rfl, Ext.refl w1⟩
      case round =>
        rename_i i2 wq
        obtain ⟨j, hj, rfl, rfl, hq⟩ := hrel
        have htl := zcat_take_le L HU.out j
        by_cases hjl : j < L.length
        · obtain ⟨bl, off, rfl, hc⟩ := (HL.out.ext (HX.out.trans hq)).open_at (k := j) (by rw [uvs_length]; exact hjl)
          have hcu : (uvs L)[j]'(by rw [uvs_length]; exact hjl) = .int .u64 (L[j] : Int) := by simp [uvs]
          rw [hcu] at hc
          clear hcu
          have hul := HU.out L[j] (List.getElem_mem hjl)
          have hsp := zcat_split L j hjl
          have htk := zcat_take L j hjl
          obtain ⟨u, hu⟩ : ∃ u, u = L[j] := ⟨_, rfl⟩
          rw [← hu] at hc hul hsp htk
          obtain ⟨X, hX⟩ : ∃ X, X = zcat (L.take j) := ⟨_, rfl⟩
          rw [← hX] at hsp htk htl ⊢
          obtain ⟨z, hz, hz1, hz2⟩ : ∃ z, z = zs u ∧ 0 < z ∧ z ≤ 10 := ⟨_, rfl, (zs_spec u).1, zs_ten (by omega)⟩
          have htm := take_mid ST X (zcat (L.drop (j + 1)) ++ (zb F ++ s.data.toList)) u hul (by rw [HST.out, hsp]; simp)
          rw [← hz] at htm
          obtain ⟨x, hx⟩ : ∃ x, x = X.length := ⟨_, rfl⟩
          rw [← hx] at htm htl ⊢
          have hnx : (zcat (L.take (j + 1))).length = x + z := by rw [htk, List.length_append, zb_length, ← hx, ← hz]
          have HTM := hid htm
          have HNX := hid hnx
          have HZ := hid hz
          have HQ2 := hid hq
          clear hu hsp htk hX htm hnx hx hz hq
          go_wp2_with fail
          refine (take_is ST _ _ _ HTM.out hSTs).mono ?_
          rintro e w3 ⟨rfl, hx⟩
          replace hc := hx.cell hc
          replace HQ2 := hid (HQ2.out.trans hx)
          clear hx
          go_wp2_with fail
          refine (size_any u _ hul).mono ?_
          rintro e w4 ⟨rfl, hx⟩
          rw [← HZ.out]
          replace HQ2 := hid (HQ2.out.trans hx)
          clear hx hc
          go_wp2_with fail
          go_roundw
          case rel => exact ⟨j + 1, by omega, by go_num, by rw [HNX.out]; go_num, HQ2.out⟩
          case measure => simp [intOf]; omega
        · have hje : j = L.length := by omega
          rw [hje, List.take_length, ← HP.out]
          have hge2 : (L.length : Int) ≤ (j : Int) := by omega
          have htm := take_mid ST (zcat L) s.data.toList F hFl HST.out
          rw [← HP.out, ← HQ.out] at htm
          have HTM := hid htm
          have HX3 := hid (HX.out.trans hq)
          replace hB := hid (hB.out.ext hq)
          have HJ := hid hje
          clear htm hq htl hje hjl
          obtain ⟨SH, hSH⟩ : ∃ SH : ByteArray, SH = ⟨((T.drop 0).take (p + q - 1)).toArray⟩ := ⟨_, rfl⟩
          have hSHs : SH.size ≤ 9223372036854775807 := by
            have : SH.size = ((T.drop 0).take (p + q - 1)).length := by rw [hSH]; rfl
            rw [this, List.length_take]; omega
          have HSHH := hid hSH
          have hsh := take_short SH (zcat L) F hFl (by rw [← HP.out, ← HQ.out, ← HT.out, hSH, List.drop_zero])
          rw [← HP.out] at hsh
          have HSH := hid hsh
          clear hsh hSH
          obtain ⟨U, M, E, ht, hUl, hM⟩ := take_first s
          have HTF := hid ht
          have HMM := hid hM
          clear ht hM
          go_wp2_with fail
          refine (takeint_is ST _ _ _ _ _ HTM.out hSTs).mono ?_
          rintro e w3 ⟨rfl, hx⟩
          rw [HBK.out]
          replace HX3 := hid (HX3.out.trans hx)
          replace hB := hid (hB.out.ext hx)
          clear hx
          have hcv2 : (convert 22 9 (.slice (some ⟨g, 0, none⟩) (p + q - 1) cb)).run Try.prog w3 = .ok (.string SH) w3 := by
            rw [HSHH.out]
            exact run_string_bytes Try.underlying22 Try.underlying5 Try.underlying9 (sub_bytes 0 (p + q - 1) _ _ hB.out rfl (by rw [HTL.out]; omega) (by omega) hcm)
          go_wp2_with fail
          refine (takeint_is SH _ _ _ _ _ HSH.out hSHs).mono ?_
          rintro e w4 ⟨rfl, hx⟩
          replace HX3 := hid (HX3.out.trans hx)
          clear hx hcv2
          go_wp2_with fail
          refine (take_is s _ _ _ HTF.out (by omega)).mono ?_
          rintro e w5 ⟨rfl, hx⟩
          replace HX3 := hid (HX3.out.trans hx)
          clear hx
          obtain ⟨X, hX⟩ : ∃ X, (E != 0) = X := ⟨_, rfl⟩
          have hE : X = false → E = 0 := fun h => by rw [h, bne_eq_false_iff_eq] at hX; exact hX
          have KM1 : Hid (X = false → M ≤ s.size) := fun h => (HMM.out (hE h)).1
          have KM2 : Hid (X = false → s.extract 0 M = ⟨(zb U).toArray⟩) := fun h => (HMM.out (hE h)).2
          have KX := hid hX
          clear hX hE
          go_wp2_with fail
          refine wp_region_slots Ext (zbackG g p q cb n s U M E X) (by kernel_rfl) Ext.trans Ext.refl (Ext.drew _) (zbackG_st _ _ _ _ _ _ _ _ _ _) (by kernel_rfl) ?_ ?_
          · intro tmps wr hle hfr j o ho hty
            have h1 : tmps[1]?.getD undef = .int .i64 n := hfr 1 (by kernel_rfl)
            have h2 : tmps[2]?.getD undef = .string s := hfr 2 (by kernel_rfl)
            have h7 : tmps[7]?.getD undef = .slice (some ⟨g, 0, none⟩) (p + q) cb := hfr 7 (by kernel_rfl)
            have h15 : tmps[15]?.getD undef = .int .i64 n := hfr 15 (by kernel_rfl)
            have h16 : tmps[16]?.getD undef = .int .i64 ((p : Int) + (q : Int)) := hfr 16 (by kernel_rfl)
            have h17 : tmps[17]?.getD undef = .int .i64 0 := hfr 17 (by kernel_rfl)
            have h20 : tmps[20]?.getD undef = .int .i64 3 := hfr 20 (by kernel_rfl)
            have h21 : tmps[21]?.getD undef = .int .u64 (U : Int) := hfr 21 (by kernel_rfl)
            have h22 : tmps[22]?.getD undef = .int .i64 (M : Int) := hfr 22 (by kernel_rfl)
            have h23 : tmps[23]?.getD undef = .int .i64 E := hfr 23 (by kernel_rfl)
            have hX := KX.out
            have hM1 := KM1.out
            have hM2 := KM2.out
            clear hfr
            match j, ho with
            | 0, ho =>
              obtain rfl := (Option.some.inj ho)
              clear hty ho
              refine step_pure (.int .i64 n) (wanted_free rfl) ?_ (Ext.refl _) rfl
              simp [execOp, Act.eval, h15, go_sem]
            | 1, ho =>
              obtain rfl := (Option.some.inj ho)
              clear hty ho
              refine step_pure (.int .i64 n) (wanted_free rfl) ?_ (Ext.refl _) rfl
              simp [execOp, Act.eval, h1, go_sem]
            | 2, ho =>
              have h117 : tmps[117]?.getD undef = .int .i64 n := hty 0 117 rfl (by obtain rfl := (Option.some.inj ho); rfl)
              have h118 : tmps[118]?.getD undef = .int .i64 n := hty 1 118 rfl (by obtain rfl := (Option.some.inj ho); rfl)
              obtain rfl := (Option.some.inj ho)
              clear hty ho
              refine step_pure (.bool true) (wanted_free rfl) ?_ (Ext.refl _) rfl
              simp [execOp, Act.eval, h117, h118, go_sem]
            | 3, ho =>
              have h119 : tmps[119]?.getD undef = .bool true := hty 2 119 rfl (by obtain rfl := (Option.some.inj ho); rfl)
              obtain rfl := (Option.some.inj ho)
              clear hty ho
              refine step_pure (.bool true) (wanted_free rfl) ?_ (Ext.refl _) rfl
              simp [execOp, Act.eval, h119, go_sem]
            | 4, ho =>
              have h120 : tmps[120]?.getD undef = .bool true := hty 3 120 rfl (by obtain rfl := (Option.some.inj ho); rfl)
              obtain rfl := (Option.some.inj ho)
              clear hty ho
              refine step_pure (.int .i64 ((p : Int) + (q : Int))) (wanted_guard rfl rfl h120) ?_ (Ext.refl _) rfl
              simp [execOp, Act.eval, h16, go_sem]
            | 5, ho =>
              have h120 : tmps[120]?.getD undef = .bool true := hty 3 120 rfl (by obtain rfl := (Option.some.inj ho); rfl)
              obtain rfl := (Option.some.inj ho)
              clear hty ho
              refine step_pure (.slice (some ⟨g, 0, none⟩) (p + q) cb) (wanted_guard rfl rfl h120) ?_ (Ext.refl _) rfl
              simp [execOp, Act.eval, h7, go_sem]
            | 6, ho =>
              have h122 : tmps[122]?.getD undef = .slice (some ⟨g, 0, none⟩) (p + q) cb := hty 5 122 rfl (by obtain rfl := (Option.some.inj ho); rfl)
              have h120 : tmps[120]?.getD undef = .bool true := hty 3 120 rfl (by obtain rfl := (Option.some.inj ho); rfl)
              obtain rfl := (Option.some.inj ho)
              clear hty ho
              refine step_pure (.int .i64 ((p : Int) + (q : Int))) (wanted_guard rfl rfl h120) ?_ (Ext.refl _) rfl
              simp [execOp, Act.eval, h122, go_sem]
            | 7, ho =>
              have h121 : tmps[121]?.getD undef = .int .i64 ((p : Int) + (q : Int)) := hty 4 121 rfl (by obtain rfl := (Option.some.inj ho); rfl)
              have h123 : tmps[123]?.getD undef = .int .i64 ((p : Int) + (q : Int)) := hty 6 123 rfl (by obtain rfl := (Option.some.inj ho); rfl)
              have h120 : tmps[120]?.getD undef = .bool true := hty 3 120 rfl (by obtain rfl := (Option.some.inj ho); rfl)
              obtain rfl := (Option.some.inj ho)
              clear hty ho
              refine step_pure (.bool true) (wanted_guard rfl rfl h120) ?_ (Ext.refl _) rfl
              simp [execOp, Act.eval, h121, h123, go_sem]
            | 8, ho =>
              have h120 : tmps[120]?.getD undef = .bool true := hty 3 120 rfl (by obtain rfl := (Option.some.inj ho); rfl)
              have h124 : tmps[124]?.getD undef = .bool true := hty 7 124 rfl (by obtain rfl := (Option.some.inj ho); rfl)
              obtain rfl := (Option.some.inj ho)
              clear hty ho
              refine step_pure (.bool true) (wanted_free rfl) ?_ (Ext.refl _) rfl
              simp [execOp, Act.eval, h120, h124, go_sem]
            | 9, ho =>
              have h125 : tmps[125]?.getD undef = .bool true := hty 8 125 rfl (by obtain rfl := (Option.some.inj ho); rfl)
              obtain rfl := (Option.some.inj ho)
              clear hty ho
              refine step_pure (.bool true) (wanted_free rfl) ?_ (Ext.refl _) rfl
              simp [execOp, Act.eval, h125, go_sem]
            | 10, ho =>
              have h126 : tmps[126]?.getD undef = .bool true := hty 9 126 rfl (by obtain rfl := (Option.some.inj ho); rfl)
              obtain rfl := (Option.some.inj ho)
              clear hty ho
              refine step_pure (.int .i64 0) (wanted_guard rfl rfl h126) ?_ (Ext.refl _) rfl
              simp [execOp, Act.eval, h17, go_sem]
            | 11, ho =>
              have h127 : tmps[127]?.getD undef = .int .i64 0 := hty 10 127 rfl (by obtain rfl := (Option.some.inj ho); rfl)
              have h126 : tmps[126]?.getD undef = .bool true := hty 9 126 rfl (by obtain rfl := (Option.some.inj ho); rfl)
              obtain rfl := (Option.some.inj ho)
              clear hty ho
              refine step_pure (.bool true) (wanted_guard rfl rfl h126) ?_ (Ext.refl _) rfl
              simp [execOp, Act.eval, h127, go_sem]
            | 12, ho =>
              have h126 : tmps[126]?.getD undef = .bool true := hty 9 126 rfl (by obtain rfl := (Option.some.inj ho); rfl)
              have h128 : tmps[128]?.getD undef = .bool true := hty 11 128 rfl (by obtain rfl := (Option.some.inj ho); rfl)
              obtain rfl := (Option.some.inj ho)
              clear hty ho
              refine step_pure (.bool true) (wanted_free rfl) ?_ (Ext.refl _) rfl
              simp [execOp, Act.eval, h126, h128, go_sem]
            | 13, ho =>
              have h129 : tmps[129]?.getD undef = .bool true := hty 12 129 rfl (by obtain rfl := (Option.some.inj ho); rfl)
              obtain rfl := (Option.some.inj ho)
              clear hty ho
              refine step_pure (.bool true) (wanted_free rfl) ?_ (Ext.refl _) rfl
              simp [execOp, Act.eval, h129, go_sem]
            | 14, ho =>
              have h130 : tmps[130]?.getD undef = .bool true := hty 13 130 rfl (by obtain rfl := (Option.some.inj ho); rfl)
              obtain rfl := (Option.some.inj ho)
              clear hty ho
              refine step_pure (.int .i64 3) (wanted_guard rfl rfl h130) ?_ (Ext.refl _) rfl
              simp [execOp, Act.eval, h20, go_sem]
            | 15, ho =>
              have h131 : tmps[131]?.getD undef = .int .i64 3 := hty 14 131 rfl (by obtain rfl := (Option.some.inj ho); rfl)
              have h130 : tmps[130]?.getD undef = .bool true := hty 13 130 rfl (by obtain rfl := (Option.some.inj ho); rfl)
              obtain rfl := (Option.some.inj ho)
              clear hty ho
              refine step_pure (.bool true) (wanted_guard rfl rfl h130) ?_ (Ext.refl _) rfl
              simp [execOp, Act.eval, h131, go_sem]
            | 16, ho =>
              have h130 : tmps[130]?.getD undef = .bool true := hty 13 130 rfl (by obtain rfl := (Option.some.inj ho); rfl)
              have h132 : tmps[132]?.getD undef = .bool true := hty 15 132 rfl (by obtain rfl := (Option.some.inj ho); rfl)
              obtain rfl := (Option.some.inj ho)
              clear hty ho
              refine step_pure (.bool true) (wanted_free rfl) ?_ (Ext.refl _) rfl
              simp [execOp, Act.eval, h130, h132, go_sem]
            | 17, ho =>
              have h133 : tmps[133]?.getD undef = .bool true := hty 16 133 rfl (by obtain rfl := (Option.some.inj ho); rfl)
              obtain rfl := (Option.some.inj ho)
              clear hty ho
              refine step_pure (.bool true) (wanted_free rfl) ?_ (Ext.refl _) rfl
              simp [execOp, Act.eval, h133, go_sem]
            | 18, ho =>
              have h134 : tmps[134]?.getD undef = .bool true := hty 17 134 rfl (by obtain rfl := (Option.some.inj ho); rfl)
              obtain rfl := (Option.some.inj ho)
              clear hty ho
              refine step_pure (.int .i64 E) (wanted_guard rfl rfl h134) ?_ (Ext.refl _) rfl
              simp [execOp, Act.eval, h23, go_sem]
            | 19, ho =>
              have h135 : tmps[135]?.getD undef = .int .i64 E := hty 18 135 rfl (by obtain rfl := (Option.some.inj ho); rfl)
              have h134 : tmps[134]?.getD undef = .bool true := hty 17 134 rfl (by obtain rfl := (Option.some.inj ho); rfl)
              obtain rfl := (Option.some.inj ho)
              clear hty ho
              refine step_pure (.bool X) (wanted_guard rfl rfl h134) ?_ (Ext.refl _) rfl
              simp [execOp, Act.eval, h135, hX, go_sem]
            | 20, ho =>
              have h136 : tmps[136]?.getD undef = .bool X := hty 19 136 rfl (by obtain rfl := (Option.some.inj ho); rfl)
              have h134 : tmps[134]?.getD undef = .bool true := hty 17 134 rfl (by obtain rfl := (Option.some.inj ho); rfl)
              obtain rfl := (Option.some.inj ho)
              clear hty ho
              refine step_pure (.bool X) (wanted_guard rfl rfl h134) ?_ (Ext.refl _) rfl
              simp [execOp, Act.eval, h136, go_sem]
            | 21, ho =>
              have h137 : tmps[137]?.getD undef = .bool X := hty 20 137 rfl (by obtain rfl := (Option.some.inj ho); rfl)
              obtain rfl := (Option.some.inj ho)
              clear hty ho
              cases X
              case true => exact step_skip (unwanted_guard rfl rfl h137 (by decide)) rfl
              case false =>
                refine step_pure (.int .i64 (M : Int)) (wanted_guard rfl rfl h137) ?_ (Ext.refl _) rfl
                simp [execOp, Act.eval, h22, go_sem]
            | 22, ho =>
              have h138 : tmps[138]?.getD undef = cond X undef (.int .i64 (M : Int)) := hty 21 138 rfl (by obtain rfl := (Option.some.inj ho); rfl)
              have h137 : tmps[137]?.getD undef = .bool X := hty 20 137 rfl (by obtain rfl := (Option.some.inj ho); rfl)
              obtain rfl := (Option.some.inj ho)
              clear hty ho
              cases X
              case true => exact step_skip (unwanted_guard rfl rfl h137 (by decide)) rfl
              case false =>
                refine step_pure (.bool true) (wanted_guard rfl rfl h137) ?_ (Ext.refl _) rfl
                simp [execOp, Act.eval, h138, go_sem]
            | 23, ho =>
              have h139 : tmps[139]?.getD undef = cond X undef (.bool true) := hty 22 139 rfl (by obtain rfl := (Option.some.inj ho); rfl)
              have h137 : tmps[137]?.getD undef = .bool X := hty 20 137 rfl (by obtain rfl := (Option.some.inj ho); rfl)
              obtain rfl := (Option.some.inj ho)
              clear hty ho
              cases X
              case true => exact step_skip (unwanted_guard rfl rfl h137 (by decide)) rfl
              case false =>
                refine step_pure (.bool true) (wanted_guard rfl rfl h137) ?_ (Ext.refl _) rfl
                simp [execOp, Act.eval, h139, go_sem]
            | 24, ho =>
              have h140 : tmps[140]?.getD undef = cond X undef (.bool true) := hty 23 140 rfl (by obtain rfl := (Option.some.inj ho); rfl)
              obtain rfl := (Option.some.inj ho)
              clear hty ho
              cases X
              case true => exact step_skip (unwanted_undef rfl rfl h140) rfl
              case false =>
                refine step_pure (.int .i64 (M : Int)) (wanted_guard rfl rfl h140) ?_ (Ext.refl _) rfl
                simp [execOp, Act.eval, h22, go_sem]
            | 25, ho =>
              have h140 : tmps[140]?.getD undef = cond X undef (.bool true) := hty 23 140 rfl (by obtain rfl := (Option.some.inj ho); rfl)
              obtain rfl := (Option.some.inj ho)
              clear hty ho
              cases X
              case true => exact step_skip (unwanted_undef rfl rfl h140) rfl
              case false =>
                refine step_pure (.string s) (wanted_guard rfl rfl h140) ?_ (Ext.refl _) rfl
                simp [execOp, Act.eval, h2, go_sem]
            | 26, ho =>
              have h142 : tmps[142]?.getD undef = cond X undef (.string s) := hty 25 142 rfl (by obtain rfl := (Option.some.inj ho); rfl)
              have h140 : tmps[140]?.getD undef = cond X undef (.bool true) := hty 23 140 rfl (by obtain rfl := (Option.some.inj ho); rfl)
              obtain rfl := (Option.some.inj ho)
              clear hty ho
              cases X
              case true => exact step_skip (unwanted_undef rfl rfl h140) rfl
              case false =>
                refine step_pure (.int .i64 (s.size : Int)) (wanted_guard rfl rfl h140) ?_ (Ext.refl _) rfl
                simp [execOp, Act.eval, h142, go_sem]
            | 27, ho =>
              have h141 : tmps[141]?.getD undef = cond X undef (.int .i64 (M : Int)) := hty 24 141 rfl (by obtain rfl := (Option.some.inj ho); rfl)
              have h143 : tmps[143]?.getD undef = cond X undef (.int .i64 (s.size : Int)) := hty 26 143 rfl (by obtain rfl := (Option.some.inj ho); rfl)
              have h140 : tmps[140]?.getD undef = cond X undef (.bool true) := hty 23 140 rfl (by obtain rfl := (Option.some.inj ho); rfl)
              obtain rfl := (Option.some.inj ho)
              clear hty ho
              cases X
              case true => exact step_skip (unwanted_undef rfl rfl h140) rfl
              case false =>
                refine step_pure (.bool true) (wanted_guard rfl rfl h140) ?_ (Ext.refl _) rfl
                simp [execOp, Act.eval, h141, h143, hM1, go_sem]
            | 28, ho =>
              have h140 : tmps[140]?.getD undef = cond X undef (.bool true) := hty 23 140 rfl (by obtain rfl := (Option.some.inj ho); rfl)
              have h144 : tmps[144]?.getD undef = cond X undef (.bool true) := hty 27 144 rfl (by obtain rfl := (Option.some.inj ho); rfl)
              have h137 : tmps[137]?.getD undef = .bool X := hty 20 137 rfl (by obtain rfl := (Option.some.inj ho); rfl)
              obtain rfl := (Option.some.inj ho)
              clear hty ho
              cases X
              case true => exact step_skip (unwanted_guard rfl rfl h137 (by decide)) rfl
              case false =>
                refine step_pure (.bool true) (wanted_guard rfl rfl h137) ?_ (Ext.refl _) rfl
                simp [execOp, Act.eval, h140, h144, go_sem]
            | 29, ho =>
              have h145 : tmps[145]?.getD undef = cond X undef (.bool true) := hty 28 145 rfl (by obtain rfl := (Option.some.inj ho); rfl)
              have h137 : tmps[137]?.getD undef = .bool X := hty 20 137 rfl (by obtain rfl := (Option.some.inj ho); rfl)
              obtain rfl := (Option.some.inj ho)
              clear hty ho
              cases X
              case true => exact step_skip (unwanted_guard rfl rfl h137 (by decide)) rfl
              case false =>
                refine step_pure (.bool true) (wanted_guard rfl rfl h137) ?_ (Ext.refl _) rfl
                simp [execOp, Act.eval, h145, go_sem]
            | 30, ho =>
              have h146 : tmps[146]?.getD undef = cond X undef (.bool true) := hty 29 146 rfl (by obtain rfl := (Option.some.inj ho); rfl)
              obtain rfl := (Option.some.inj ho)
              clear hty ho
              cases X
              case true => exact step_skip (unwanted_undef rfl rfl h146) rfl
              case false =>
                refine step_pure (.int .u64 (U : Int)) (wanted_guard rfl rfl h146) ?_ (Ext.refl _) rfl
                simp [execOp, Act.eval, h21, go_sem]
            | 31, ho =>
              have h147 : tmps[147]?.getD undef = cond X undef (.int .u64 (U : Int)) := hty 30 147 rfl (by obtain rfl := (Option.some.inj ho); rfl)
              have h146 : tmps[146]?.getD undef = cond X undef (.bool true) := hty 29 146 rfl (by obtain rfl := (Option.some.inj ho); rfl)
              obtain rfl := (Option.some.inj ho)
              clear hty ho
              cases X
              case true => exact step_skip (unwanted_undef rfl rfl h146) (fun h9 => by cases h9)
              case false =>
                refine step_call 8 #[.slice none 0 0, .int .u64 (U : Int)] (wanted_guard rfl rfl h146) ?_ ?_
                · simp [execOp, Act.eval, h147, go_sem]
                · exact (put_at _ [] U _ (Bytes.nil _) (by simp) hUl).mono fun e w' ⟨r, h1, h2, h3⟩ => ⟨r, h1, h3, fun _ => Bytes.of_own h2⟩
            | 32, ho =>
              have h148 : X = false → Bytes wr (tmps[148]?.getD undef) (zb U) := hty 31 148 rfl (by obtain rfl := (Option.some.inj ho); rfl)
              have h146 : tmps[146]?.getD undef = cond X undef (.bool true) := hty 29 146 rfl (by obtain rfl := (Option.some.inj ho); rfl)
              obtain rfl := (Option.some.inj ho)
              clear hty ho
              cases X
              case true => exact step_skip (unwanted_undef rfl rfl h146) rfl
              case false =>
                refine step_pure (.string ⟨(zb U).toArray⟩) (wanted_guard rfl rfl h146) ?_ (Ext.refl _) rfl
                have hcv := run_string_bytes Try.underlying22 Try.underlying5 Try.underlying9 (h148 rfl)
                simp [execOp, Act.eval, hcv, go_sem]
            | 33, ho =>
              have h146 : tmps[146]?.getD undef = cond X undef (.bool true) := hty 29 146 rfl (by obtain rfl := (Option.some.inj ho); rfl)
              obtain rfl := (Option.some.inj ho)
              clear hty ho
              cases X
              case true => exact step_skip (unwanted_undef rfl rfl h146) rfl
              case false =>
                refine step_pure (.string s) (wanted_guard rfl rfl h146) ?_ (Ext.refl _) rfl
                simp [execOp, Act.eval, h2, go_sem]
            | 34, ho =>
              have h146 : tmps[146]?.getD undef = cond X undef (.bool true) := hty 29 146 rfl (by obtain rfl := (Option.some.inj ho); rfl)
              obtain rfl := (Option.some.inj ho)
              clear hty ho
              cases X
              case true => exact step_skip (unwanted_undef rfl rfl h146) rfl
              case false =>
                refine step_pure (.int .i64 (M : Int)) (wanted_guard rfl rfl h146) ?_ (Ext.refl _) rfl
                simp [execOp, Act.eval, h22, go_sem]
            | 35, ho =>
              have h150 : tmps[150]?.getD undef = cond X undef (.string s) := hty 33 150 rfl (by obtain rfl := (Option.some.inj ho); rfl)
              have h151 : tmps[151]?.getD undef = cond X undef (.int .i64 (M : Int)) := hty 34 151 rfl (by obtain rfl := (Option.some.inj ho); rfl)
              have h146 : tmps[146]?.getD undef = cond X undef (.bool true) := hty 29 146 rfl (by obtain rfl := (Option.some.inj ho); rfl)
              obtain rfl := (Option.some.inj ho)
              clear hty ho
              cases X
              case true => exact step_skip (unwanted_undef rfl rfl h146) rfl
              case false =>
                refine step_pure (.string ⟨(zb U).toArray⟩) (wanted_guard rfl rfl h146) ?_ (Ext.refl _) rfl
                simp [execOp, Act.eval, h150, h151, hM1, hM2, go_sem]
            | 36, ho =>
              have h149 : tmps[149]?.getD undef = cond X undef (.string ⟨(zb U).toArray⟩) := hty 32 149 rfl (by obtain rfl := (Option.some.inj ho); rfl)
              have h152 : tmps[152]?.getD undef = cond X undef (.string ⟨(zb U).toArray⟩) := hty 35 152 rfl (by obtain rfl := (Option.some.inj ho); rfl)
              have h146 : tmps[146]?.getD undef = cond X undef (.bool true) := hty 29 146 rfl (by obtain rfl := (Option.some.inj ho); rfl)
              obtain rfl := (Option.some.inj ho)
              clear hty ho
              cases X
              case true => exact step_skip (unwanted_undef rfl rfl h146) rfl
              case false =>
                refine step_pure (.bool true) (wanted_guard rfl rfl h146) ?_ (Ext.refl _) rfl
                simp [execOp, Act.eval, h149, h152, go_sem]
            | 37, ho =>
              have h146 : tmps[146]?.getD undef = cond X undef (.bool true) := hty 29 146 rfl (by obtain rfl := (Option.some.inj ho); rfl)
              have h153 : tmps[153]?.getD undef = cond X undef (.bool true) := hty 36 153 rfl (by obtain rfl := (Option.some.inj ho); rfl)
              have h137 : tmps[137]?.getD undef = .bool X := hty 20 137 rfl (by obtain rfl := (Option.some.inj ho); rfl)
              obtain rfl := (Option.some.inj ho)
              clear hty ho
              cases X
              case true => exact step_skip (unwanted_guard rfl rfl h137 (by decide)) rfl
              case false =>
                refine step_pure (.bool true) (wanted_guard rfl rfl h137) ?_ (Ext.refl _) rfl
                simp [execOp, Act.eval, h146, h153, go_sem]
            | 38, ho =>
              have h137 : tmps[137]?.getD undef = .bool X := hty 20 137 rfl (by obtain rfl := (Option.some.inj ho); rfl)
              have h154 : tmps[154]?.getD undef = cond X undef (.bool true) := hty 37 154 rfl (by obtain rfl := (Option.some.inj ho); rfl)
              have h134 : tmps[134]?.getD undef = .bool true := hty 17 134 rfl (by obtain rfl := (Option.some.inj ho); rfl)
              obtain rfl := (Option.some.inj ho)
              clear hty ho
              refine step_pure (.bool true) (wanted_guard rfl rfl h134) ?_ (Ext.refl _) rfl
              cases X <;> simp [execOp, Act.eval, h137, h154, go_sem]
            | 39, ho =>
              have h134 : tmps[134]?.getD undef = .bool true := hty 17 134 rfl (by obtain rfl := (Option.some.inj ho); rfl)
              have h155 : tmps[155]?.getD undef = .bool true := hty 38 155 rfl (by obtain rfl := (Option.some.inj ho); rfl)
              obtain rfl := (Option.some.inj ho)
              clear hty ho
              refine step_pure (.bool true) (wanted_free rfl) ?_ (Ext.refl _) rfl
              simp [execOp, Act.eval, h134, h155, go_sem]
            | 40, ho =>
              have h156 : tmps[156]?.getD undef = .bool true := hty 39 156 rfl (by obtain rfl := (Option.some.inj ho); rfl)
              obtain rfl := (Option.some.inj ho)
              clear hty ho
              refine step_pure (.bool true) (wanted_free rfl) ?_ (Ext.refl _) rfl
              simp [execOp, Act.eval, h156, go_sem]
            | 41, ho =>
              have h157 : tmps[157]?.getD undef = .bool true := hty 40 157 rfl (by obtain rfl := (Option.some.inj ho); rfl)
              obtain rfl := (Option.some.inj ho)
              clear hty ho
              refine step_call 7 #[] (wanted_guard rfl rfl h157) ?_ ?_
              · simp [execOp, Act.eval, go_sem]
              · exact (awake_any _).mono fun e w' ⟨h1, h2⟩ => ⟨_, h1, h2, rfl⟩
            | 42, ho =>
              have h157 : tmps[157]?.getD undef = .bool true := hty 40 157 rfl (by obtain rfl := (Option.some.inj ho); rfl)
              have h158 : tmps[158]?.getD undef = .bool true := hty 41 158 rfl (by obtain rfl := (Option.some.inj ho); rfl)
              obtain rfl := (Option.some.inj ho)
              clear hty ho
              refine step_pure (.bool true) (wanted_free rfl) ?_ (Ext.refl _) rfl
              simp [execOp, Act.eval, h157, h158, go_sem]
            | 43, ho =>
              have h159 : tmps[159]?.getD undef = .bool true := hty 42 159 rfl (by obtain rfl := (Option.some.inj ho); rfl)
              obtain rfl := (Option.some.inj ho)
              clear hty ho
              refine step_pure (.bool true) (wanted_free rfl) ?_ (Ext.refl _) rfl
              simp [execOp, Act.eval, h159, go_sem]
            | (j + 44), ho => exact absurd ho (by simp)
          · intro tmps w6 hle hs hfr hty
            have h6 : tmps[6]?.getD undef = .bool true := hty 43 6 rfl
            have hfe := frame_eq [117, 118, 119, 120, 121, 122, 123, 124, 125, 126, 127, 128, 129, 130, 131, 132, 133, 134, 135, 136, 137, 138, 139, 140, 141, 142, 143, 144, 145, 146, 147, 148, 149, 150, 151, 152, 153, 154, 155, 156, 157, 158, 159, 6] hs hfr (by kernel_rfl)
            rw [hfe]
            clear hfe hfr hs hty
            simp only [List.foldl_cons, List.foldl_nil]
            generalize tmps[117]?.getD undef = x117
            generalize tmps[118]?.getD undef = x118
            generalize tmps[119]?.getD undef = x119
            generalize tmps[120]?.getD undef = x120
            generalize tmps[121]?.getD undef = x121
            generalize tmps[122]?.getD undef = x122
            generalize tmps[123]?.getD undef = x123
            generalize tmps[124]?.getD undef = x124
            generalize tmps[125]?.getD undef = x125
            generalize tmps[126]?.getD undef = x126
            generalize tmps[127]?.getD undef = x127
            generalize tmps[128]?.getD undef = x128
            generalize tmps[129]?.getD undef = x129
            generalize tmps[130]?.getD undef = x130
            generalize tmps[131]?.getD undef = x131
            generalize tmps[132]?.getD undef = x132
            generalize tmps[133]?.getD undef = x133
            generalize tmps[134]?.getD undef = x134
            generalize tmps[135]?.getD undef = x135
            generalize tmps[136]?.getD undef = x136
            generalize tmps[137]?.getD undef = x137
            generalize tmps[138]?.getD undef = x138
            generalize tmps[139]?.getD undef = x139
            generalize tmps[140]?.getD undef = x140
            generalize tmps[141]?.getD undef = x141
            generalize tmps[142]?.getD undef = x142
            generalize tmps[143]?.getD undef = x143
            generalize tmps[144]?.getD undef = x144
            generalize tmps[145]?.getD undef = x145
            generalize tmps[146]?.getD undef = x146
            generalize tmps[147]?.getD undef = x147
            generalize tmps[148]?.getD undef = x148
            generalize tmps[149]?.getD undef = x149
            generalize tmps[150]?.getD undef = x150
            generalize tmps[151]?.getD undef = x151
            generalize tmps[152]?.getD undef = x152
            generalize tmps[153]?.getD undef = x153
            generalize tmps[154]?.getD undef = x154
            generalize tmps[155]?.getD undef = x155
            generalize tmps[156]?.getD undef = x156
            generalize tmps[157]?.getD undef = x157
            generalize tmps[158]?.getD undef = x158
            generalize tmps[159]?.getD undef = x159
            rw [h6]
            clear h6
            simp only [List.setIfInBounds_toArray, List.set_cons_succ, List.set_cons_zero]
            have HX5 := hid (HX3.out.trans hle)
            clear hle
            go_wp2_with fail
            go_ret
            exact ⟨rfl, HX5.out⟩

set_option maxRecDepth 100000 in
set_option maxHeartbeats 400000 in
theorem zback_out (A : Option Addr) (L : List Nat) (c : Nat) (n : Int) (s : ByteArray) (w : World) (hlm : L.length ≤ maxLen) (hsm : s.size ≤ maxLen) (h : 20 < L.length ∨ 100 < s.size) :
    Calls Try.prog 5 #[.slice A L.length c, .int .i64 n, .string s] w (Says w (.bool true)) := by
  unfold maxLen at hlm hsm
  by_cases h1 : 20 < L.length
  · clear h
    go_enter Try.func5, Try.ntmps5
    go_wp2_with fail
    refine (awake_any _).mono ?_
    rintro e w4 ⟨rfl, hx⟩
    go_wp2_with fail
    go_ret
    exact ⟨rfl, hx⟩
  · have h2 : 100 < s.size := by omega
    clear h
    go_enter Try.func5, Try.ntmps5
    go_wp2_with fail
    refine (awake_any _).mono ?_
    rintro e w4 ⟨rfl, hx⟩
    go_wp2_with fail
    go_ret
    exact ⟨rfl, hx⟩

theorem zback_any (A : Option Addr) (L : List Nat) (c : Nat) (n : Int) (s : ByteArray) (w : World) (hL : Lies w A (uvs L)) (hu : ∀ u ∈ L, u ≤ 18446744073709551615) (hlm : L.length ≤ maxLen) (hsm : s.size ≤ maxLen)
    (hn0 : -9223372036854775808 ≤ n) (hn1 : n ≤ 9223372036854775807) :
    Calls Try.prog 5 #[.slice A L.length c, .int .i64 n, .string s] w (Says w (.bool true)) := by
  by_cases h : 20 < L.length ∨ 100 < s.size
  · exact zback_out A L c n s w hlm hsm h
  · exact zback_in A L c n s w hL hu (by omega) (by omega) hn0 hn1
end Go.Proofs.Ytldepfojgmhehaa
