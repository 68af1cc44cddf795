/- OctetBack: the walk. -/
import Derived.Test.YtekkmpahienaeaaBackM
import Derived.Test.YtekkmpahienaeaaMem2
namespace Go.Proofs.Ytekkmpahienaeaa
open Go Go.RowKit

theorem Lies.open_at {w : World} {A : Option Addr} {xs : List Value} (h : Lies w A xs) {k : Nat} (hk : k < xs.length) : ∃ b off, A = some ⟨b, off, none⟩ ∧ w.cell? ⟨b, off + k, none⟩ = some xs[k] := by
  obtain ⟨ad, ha, hc⟩ := h (by intro e; subst e; simp at hk)
  obtain ⟨b, off, spot⟩ := ad
  have hspot : spot = none := by simpa [Addr.add] using World.cell?_spot (hc 0 _ (List.getElem?_eq_getElem (by omega)))
  subst hspot
  exact ⟨b, off, ha, by rw [← Addr.add_lit]; exact hc k _ (List.getElem?_eq_getElem hk)⟩

theorem own_some {w : World} {base n : Nat} {e : TypeId} {v : Value} {l : List UInt8} (h : w.ownsRow base e 1 v n (bvs l)) (hl : 0 < l.length) :
    ∃ g c, v = .slice (some ⟨g, 0, none⟩) l.length c ∧ l.length ≤ c ∧ c ≤ maxLen ∧ base ≤ g ∧ g < w.heap.size := by
  have hn : l.length = n := by have := h.1; rwa [bvs_length, Nat.mul_one] at this
  rcases h.2 with ⟨_, h0⟩ | ⟨g, cap, cur, hv, hb, hg, hnc, hcm, _⟩
  · omega
  · exact ⟨g, cap, by rw [hn]; exact hv, by omega, hcm, hb, (Array.getElem?_eq_some_iff.1 hg).1⟩

theorem Lies.sub {w : World} {g : Nat} {xs : List Value} (h : Lies w (some ⟨g, 0, none⟩) xs) (p n : Nat) : Lies w (some ⟨g, p, none⟩) ((xs.drop p).take n) := fun hx => by
  obtain ⟨ad, ha, hc⟩ := h (by intro e; subst e; simp at hx)
  injection ha with ha
  subst ha
  refine ⟨_, rfl, fun j u hu => ?_⟩
  rw [List.getElem?_take] at hu
  split at hu
  · rw [List.getElem?_drop] at hu
    have := hc (p + j) u hu
    rw [Addr.add_lit] at this ⊢
    simpa using this
  · cases hu

theorem sub_bytes {w : World} {g N c : Nat} {T : List UInt8} (p n m d : Nat) (h : Bytes w (.slice (some ⟨g, 0, none⟩) N c) T) (hn : m = n) (hpn : p + n ≤ T.length) (hd : n ≤ d) (hdm : d ≤ maxLen) : Bytes w (.slice (some ⟨g, p, none⟩) m d) ((T.drop p).take n) := by
  obtain ⟨A, c', hv, _, _, hl⟩ := h
  injection hv with h1 h2 h3
  subst h1
  have e : ((T.drop p).take n).length = n := by rw [List.length_take, List.length_drop]; omega
  refine ⟨_, d, by rw [e, hn], by rw [e]; exact hd, hdm, ?_⟩
  rw [bvs_take, bvs_drop]
  exact Lies.sub hl p n

def uvs (L : List Nat) : List Value := L.map fun (u : Nat) => Value.int .u64 (u : Int)
theorem uvs_length (L : List Nat) : (uvs L).length = L.length := by simp [uvs]

theorem num_fine (l : List UInt8) (k n : Nat) (h1 : 1 ≤ k) (h2 : k ≤ 6) (h3 : n < 256 ^ k) : numSpec l k n = (l ++ be k n, 0) := by
  unfold numSpec
  rw [if_neg (by omega), Int.toNat_natCast, Int.toNat_natCast, if_neg]
  rintro (h | h)
  · omega
  · have : ((256 ^ k : Nat) : Int) ≤ (n : Int) := by simpa using h
    omega

set_option maxRecDepth 100000 in
set_option maxHeartbeats 1000000 in
theorem back_in (A : Option Addr) (L : List Nat) (c : Nat) (s : ByteArray) (w : World) (hL : Lies w A (uvs L)) (hu : ∀ u ∈ L, u ≤ 18446744073709551615) (hl1 : L.length ≤ 20) (hs1 : s.size ≤ 300) :
    Calls Try.prog 5 #[.slice A L.length c, .string s] w (Says w (.bool true)) := by
  have HL := hid hL
  have HU := hid hu
  clear hL hu
  have hl2 : ¬ 20 < L.length := by omega
  have hs2 : ¬ 300 < s.size := by omega
  go_enter Try.func5, Try.ntmps5
  go_wp2_with fail
  go_loopw [5, 6] (fun b i wr => ∃ k : Nat, k ≤ L.length ∧ i = .int .i64 (k : Int) ∧ Hid (Bytes wr b (layAll (L.take k))) ∧ Ext w wr)
    (fun _ i _ => L.length - (intOf i).toNat)
  case atStart => exact ⟨0, by omega, rfl, Bytes.nil w, Ext.refl w⟩
  case round =>
    rename_i b i
    obtain ⟨k, hk, rfl, hb, hext⟩ := hrel
    by_cases hkl : k < L.length
    · obtain ⟨bl, off, rfl, hc⟩ := (HL.out.ext hext).open_at (k := k) (by rw [uvs_length]; exact hkl)
      have hcu : (uvs L)[k]'(by rw [uvs_length]; exact hkl) = .int .u64 (L[k] : Int) := by simp [uvs]
      rw [hcu] at hc
      clear hcu
      have hul := HU.out L[k] (List.getElem_mem hkl)
      obtain ⟨u, hu⟩ : ∃ u, u = L[k] := ⟨_, rfl⟩
      rw [← hu] at hc hul
      have HU1 := hid hu
      clear hu
      have htl : (layAll (L.take k)).length = 14 * k := by rw [layAll_length, List.length_take, Nat.min_eq_left hk]
      obtain ⟨X, hX⟩ : ∃ X, X = layAll (L.take k) := ⟨_, rfl⟩
      rw [← hX] at htl hb
      have HXX := hid hX
      have HTL := hid htl
      have htl1 : X.length ≤ 280 := by omega
      clear hX htl
      go_wp2_with fail
      obtain ⟨i, hi⟩ : ∃ i : Nat, i = u % 281474976710656 := ⟨_, rfl⟩
      have hil : i < 256 ^ 6 := by omega
      rw [show (u : Int) % 281474976710656 = (i : Int) from by omega]
      have HI := hid hi
      clear hi
      refine (num_at _ X 6 i _ _ (num_fine X 6 i (by omega) (by omega) hil) hb.out (by omega) (by omega)).mono ?_
      rintro e w1 ⟨r1, rfl, ho1, hx⟩
      have hB1 := Bytes.of_own ho1
      obtain ⟨A1, c1, hv1, _, _, _⟩ := hB1
      replace hB1 := hid (Bytes.of_own ho1)
      rw [List.length_append, be_length, HTL.out] at hv1
      subst hv1
      have hc1 := hx.cell hc
      have HX := hid hx
      clear hc ho1 hx
      go_wp2_with fail
      refine (word_at _ (X ++ be 6 i) _ u _ rfl hB1.out (by rw [List.length_append, be_length]; omega) hul).mono ?_
      rintro e w2 ⟨r2, rfl, ho2, hx⟩
      have hB2 := hid (Bytes.of_own ho2)
      replace HX := hid (HX.out.trans hx)
      clear hx ho2
      go_wp2_with fail
      go_roundw
      case rel =>
        refine ⟨k + 1, by omega, by go_num, ?_, hext.trans HX.out⟩
        show Bytes _ _ _
        rw [layAll_take L k hkl, ← HXX.out, ← HU1.out, ← HI.out]
        exact hB2.out
      case measure => simp [intOf]; omega
    · have hke : k = L.length := by omega
      have htk : L.take k = L := by rw [hke, List.take_length]
      rw [htk] at hb
      have HK := hid hke
      clear htk hke
      have hge : (L.length : Int) ≤ (k : Int) := by omega
      clear hkl
      go_wp2_with fail
      have hsp : textSpec (layAll L) s.data.toList = (layAll L ++ (be 2 s.size ++ s.data.toList), 0) := by
        unfold textSpec
        rw [if_neg (by rw [size_toList]; omega)]
        rfl
      have hll : (layAll L).length = 14 * L.length := layAll_length L
      refine (text_at2 _ (layAll L) s _ _ hsp hb.out (by omega) (by omega)).mono ?_
      rintro e w1 ⟨r, rfl, ho, hx⟩
      clear hsp
      obtain ⟨T, hT⟩ : ∃ T, T = layAll L ++ (be 2 s.size ++ s.data.toList) := ⟨_, rfl⟩
      have hTl : T.length = 14 * L.length + 2 + s.size := by
        rw [hT]
        simp only [List.length_append, be_length, hll, size_toList]
        omega
      have ho' : w1.ownsRow wr.heap.size 5 1 r T.length (bvs T) := by rw [hT]; exact ho
      obtain ⟨g, cb, hr, hcb, hcm, _, hgl⟩ := own_some ho' (by rw [hTl]; omega)
      have hB := hid (Bytes.of_own ho')
      rw [hTl] at hr
      subst hr
      have HT := hid hT
      have HTL := hid hTl
      have HX := hid (hext.trans hx)
      clear hT hTl ho ho' hx hext hb
      obtain ⟨ST, hST⟩ : ∃ ST : ByteArray, ST = ⟨T.toArray⟩ := ⟨_, rfl⟩
      have hcv : (convert 22 9 (.slice (some ⟨g, 0, none⟩) (14 * L.length + 2 + s.size) cb)).run Try.prog w1 = .ok (.string ST) w1 := by
        rw [hST]
        exact run_string_bytes Try.underlying22 Try.underlying5 Try.underlying9 hB.out
      have hSS : ST.size ≤ 9223372036854775807 := by
        have : ST.size = T.length := by rw [hST]; rfl
        rw [this, HTL.out]; omega
      have HST := hid hST
      clear hST
      have hge' := hge
      go_wp2_with fail
      refine (open_any _ _).mono ?_
      rintro e w2 ⟨rfl, hx⟩
      replace HX := hid (HX.out.trans hx)
      replace hB := hid (hB.out.ext hx)
      clear hx hcv
      go_wp2_with fail
      have hD0 := hid (heap_alloc_new w2 (.cells #[Value.string ST, .int .i64 0, .int .i64 0] 39))
      have hE0 := hid (Ext.alloc w2 (.cells #[Value.string ST, .int .i64 0, .int .i64 0] 39))
      go_loopw [11] (fun i wq => ∃ j : Nat, j ≤ L.length ∧ i = .int .i64 (j : Int) ∧ Hid (wq.heap[w2.heap.size]? = some (.cells #[.string ST, .int .i64 ((14 * j : Nat) : Int), .int .i64 0] 39 (0, 0))) ∧ Ext w2 wq)
        (fun i _ => L.length - (intOf i).toNat)
      case atStart => exact ⟨0, by omega, rfl, hD0.out, hE0.out⟩
      case round =>
        rename_i i2 wq
        obtain ⟨j, hj, rfl, hD, hq⟩ := hrel
        have HQ := hid hq
        clear hD0 hE0 hq
        by_cases hjl : j < L.length
        · obtain ⟨bl, off, rfl, hc⟩ := (HL.out.ext (HX.out.trans HQ.out)).open_at (k := j) (by rw [uvs_length]; exact hjl)
          have hcu : (uvs L)[j]'(by rw [uvs_length]; exact hjl) = .int .u64 (L[j] : Int) := by simp [uvs]
          rw [hcu] at hc
          clear hcu
          have hul := HU.out L[j] (List.getElem_mem hjl)
          obtain ⟨u, hu⟩ : ∃ u, u = L[j] := ⟨_, rfl⟩
          rw [← hu] at hc hul
          obtain ⟨i, hi⟩ : ∃ i : Nat, i = u % 281474976710656 := ⟨_, rfl⟩
          have hra := reads_at L j u i _ T hjl hu hul hi HT.out
          rw [← HST.out, HTL.out] at hra
          have HR := hid hra
          have HI := hid hi
          clear hu hra hi
          obtain ⟨⟨c0, c1, c2⟩, ⟨f0, f1, f2⟩, y1⟩ := box3 hD.out
          go_wp2_with fail
          refine (rdnum_any ST (14 * (j : Int)) 0 6 _ hSS).mono ?_
          rintro e w3 ⟨rfl, hx⟩
          rw [HR.out.1.1, HR.out.1.2.1, HR.out.1.2.2]
          clear c0 c1 c2 f0 f1 f2 y1
          replace hc := hx.cell hc
          replace hD := hid (hx.block hD.out)
          replace HQ := hid (HQ.out.trans hx)
          clear hx
          go_wp2_with fail
          refine (rdword_any ST (14 * (j : Int) + 6) 0 _ hSS).mono ?_
          rintro e w4 ⟨rfl, hx⟩
          rw [HR.out.2.1.1, HR.out.2.1.2.1, HR.out.2.1.2.2]
          replace hc := hx.cell ((Ext.alloc _ _).cell hc)
          replace hD := hid (hx.block ((Ext.alloc _ _).block hD.out))
          replace HQ := hid ((HQ.out.then_alloc _).trans hx)
          clear hx
          have him : (u : Int) % 281474976710656 = (i : Int) := by rw [HI.out]; omega
          have hblk : bl < w4.heap.size := World.block_lt_of_cell? _ _ hc
          go_wp2_with fail
          refine (left_any ST (14 * (j : Int) + 14) 0 _ hSS).mono ?_
          rintro e w5 ⟨rfl, hx⟩
          rw [HR.out.2.2]
          have hF := hid (hx.block (heap_alloc_new w4 _))
          replace hD := hid (hx.block ((Ext.alloc _ _).block hD.out))
          replace HQ := hid ((HQ.out.then_alloc _).trans hx)
          clear hx hc him hblk
          obtain ⟨⟨c0, c1, c2⟩, ⟨f0, f1, f2⟩, y1⟩ := box3 hF.out
          obtain ⟨⟨d0, d1, d2⟩, ⟨g0, g1, g2⟩, z1⟩ := box3 hD.out
          go_wp2_with fail
          go_roundw
          case rel =>
            refine ⟨j + 1, by omega, by go_num, ?_, ?_⟩
            · show _ = _
              rw [show ((14 * (j + 1) : Nat) : Int) = 14 * (j : Int) + 14 from by omega]
              exact set3 hD.out
            · exact Ext.setCell (Ext.setCell (Ext.setCell HQ.out (Nat.le_refl _) _) (Nat.le_refl _) _) (Nat.le_refl _) _
          case measure => simp [intOf]; omega
        · have hje : j = L.length := by omega
          have hge2 : (L.length : Int) ≤ (j : Int) := by omega
          have hsm := str_mid (layAll L) s.data.toList T (by rw [size_toList]; omega) HT.out
          rw [layAll_length, ← HST.out, HTL.out, show ((14 * L.length : Nat) : Int) = 14 * (j : Int) from by omega] at hsm
          have HSM := hid hsm
          have HJ := hid hje
          clear hsm hje hjl
          obtain ⟨⟨c0, c1, c2⟩, ⟨f0, f1, f2⟩, y1⟩ := box3 hD.out
          go_wp2_with fail
          refine (rdstr_any ST _ 0 _ hSS).mono ?_
          rintro e w3 ⟨rfl, hx⟩
          rw [HSM.out.1, HSM.out.2.1, ba_eq HSM.out.2.2]
          clear c0 c1 c2 f0 f1 f2 y1
          replace HQ := hid (HQ.out.trans hx)
          clear hx
          replace hB := hid (hB.out.ext HQ.out)
          have hsl : (T.drop (14 * L.length)).take (s.size + 1) = (be 2 s.data.toList.length ++ s.data.toList).take (s.data.toList.length + 1) := by
            rw [HT.out, ← layAll_length L, List.drop_left]
            rfl
          obtain ⟨SH, hSH⟩ : ∃ SH : ByteArray, SH = ⟨((T.drop (14 * L.length)).take (s.size + 1)).toArray⟩ := ⟨_, rfl⟩
          have hSHs : SH.size ≤ 9223372036854775807 := by
            have : SH.size = ((T.drop (14 * L.length)).take (s.size + 1)).length := by rw [hSH]; rfl
            rw [this, List.length_take]; omega
          have hcut : strE SH 0 0 = 3 := by rw [hSH]; exact str_cut s.data.toList _ (by rw [size_toList]; omega) hsl
          have HCUT := hid hcut
          have hcv2 : ∀ o, (convert 22 9 (.slice (some ⟨g, 14 * L.length, none⟩) (14 * L.length + 1 + s.size - 14 * L.length) (cb - 14 * L.length))).run Try.prog (w3.alloc o) = .ok (.string SH) (w3.alloc o) := fun o => by
            rw [hSH]
            exact run_string_bytes Try.underlying22 Try.underlying5 Try.underlying9 (sub_bytes (14 * L.length) (s.size + 1) _ _ (hB.out.ext (Ext.alloc _ o)) (by omega) (by rw [HTL.out]; omega) (by have := hcb; rw [HTL.out] at this; omega) (by have := hcm; omega))
          clear hSH hsl hcut
          have hcb2 : 14 * L.length + 2 + s.size ≤ cb := by rw [← HTL.out]; exact hcb
          go_wp2_with fail
          refine (open_any SH _).mono ?_
          rintro e w4 ⟨rfl, hx⟩
          have hF := hid (hx.block (heap_alloc_new w3 _))
          replace HQ := hid ((HQ.out.then_alloc _).trans hx)
          clear hx hcv2
          go_wp2_with fail
          refine (rdstr_any SH 0 0 _ hSHs).mono ?_
          rintro e w5 ⟨rfl, hx⟩
          rw [HCUT.out]
          replace hF := hid (hx.block ((Ext.alloc _ _).block hF.out))
          replace HQ := hid ((HQ.out.then_alloc _).trans hx)
          clear hx
          obtain ⟨⟨c0, c1, c2⟩, ⟨f0, f1, f2⟩, y1⟩ := box3 hF.out
          have hend : endOf ST (14 * (L.length : Int) + 2 + (s.size : Int)) 0 = 0 := by
            unfold endOf
            rw [if_neg (by omega)]
            have h1 := left_mid T T.length (Nat.le_refl _)
            rw [← HST.out, HTL.out] at h1
            rw [show ((14 * L.length + 2 + s.size : Nat) : Int) = 14 * (L.length : Int) + 2 + (s.size : Int) from by omega] at h1
            rw [h1, if_neg (by omega)]
          have HEND := hid hend
          clear hend
          go_wp2_with fail
          refine (end_any ST _ 0 _ hSS).mono ?_
          rintro e w6 ⟨rfl, hx⟩
          rw [HEND.out]
          have hG := hid (hx.block (heap_alloc_new w5 _))
          replace HQ := hid ((HQ.out.then_alloc _).trans hx)
          clear hx c0 c1 c2 f0 f1 f2 y1
          obtain ⟨⟨c0, c1, c2⟩, ⟨f0, f1, f2⟩, y1⟩ := box3 hG.out
          go_wp2_with fail
          refine (awake_any _).mono ?_
          rintro e w7 ⟨rfl, hx⟩
          go_wp2_with fail
          go_ret
          exact ⟨rfl, (HX.out.trans HQ.out).trans hx⟩

set_option maxRecDepth 100000 in
set_option maxHeartbeats 400000 in
theorem back_out (A : Option Addr) (L : List Nat) (c : Nat) (s : ByteArray) (w : World) (hlm : L.length ≤ maxLen) (hsm : s.size ≤ maxLen) (h : 20 < L.length ∨ 300 < s.size) :
    Calls Try.prog 5 #[.slice A L.length c, .string s] w (Says w (.bool true)) := by
  unfold maxLen at hlm hsm
  by_cases h1 : 20 < L.length
  · clear h
    go_enter Try.func5, Try.ntmps5
    go_wp2_with fail
    refine (awake_any _).mono ?_
    rintro e w4 ⟨rfl, hx⟩
    go_wp2_with fail
    go_ret
    exact ⟨rfl, hx⟩
  · have h2 : 300 < s.size := by omega
    clear h
    go_enter Try.func5, Try.ntmps5
    go_wp2_with fail
    refine (awake_any _).mono ?_
    rintro e w4 ⟨rfl, hx⟩
    go_wp2_with fail
    go_ret
    exact ⟨rfl, hx⟩

theorem back_any (A : Option Addr) (L : List Nat) (c : Nat) (s : ByteArray) (w : World) (hL : Lies w A (uvs L)) (hu : ∀ u ∈ L, u ≤ 18446744073709551615) (hlm : L.length ≤ maxLen) (hsm : s.size ≤ maxLen) :
    Calls Try.prog 5 #[.slice A L.length c, .string s] w (Says w (.bool true)) := by
  by_cases h : 20 < L.length ∨ 300 < s.size
  · exact back_out A L c s w hlm hsm h
  · exact back_in A L c s w hL hu (by omega) (by omega)
end Go.Proofs.Ytekkmpahienaeaa
