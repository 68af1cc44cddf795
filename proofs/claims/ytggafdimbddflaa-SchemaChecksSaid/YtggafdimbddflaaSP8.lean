/- strings.Cut at one byte, and the landed program's kindOf and parseField, by their contracts. Conditions: texts of up to 2^20 bytes. -/
import Derived.Test.YtggafdimbddflaaSP7
import Derived.Test.YtggafdimbddflaaSR8
import Derived.Test.YtggafdimbddflaaVV4
import Derived.Lib.Bytealg
namespace Go.Proofs.Ytggafdimbddflaa
open Go Go.RowKit

theorem index_cut (c : UInt8) : ∀ (l : List UInt8), (Lib.indexByte l c = -1 ∧ cutZ c l = (l, [], false)) ∨ ∃ i : Nat, Lib.indexByte l c = (i : Int) ∧ i < l.length ∧ cutZ c l = (l.take i, l.drop (i + 1), true)
  | [] => .inl ⟨rfl, rfl⟩
  | b :: r => by
    have e : Lib.indexByte (b :: r) c = if b == c then 0 else if Lib.indexByte r c == -1 then -1 else Lib.indexByte r c + 1 := rfl
    rw [e]
    by_cases h : b = c
    · rw [if_pos (beq_iff_eq.2 h), cut_here h]
      exact .inr ⟨0, rfl, Nat.succ_pos _, rfl⟩
    · rw [if_neg (fun k => h (beq_iff_eq.1 k)), cut_on h]
      rcases index_cut c r with ⟨h1, h2⟩ | ⟨i, h1, h2, h3⟩
      · rw [h1, h2]
        exact .inl ⟨rfl, rfl⟩
      · rw [h1, h3, if_neg (fun k => by have := beq_iff_eq.1 k; omega)]
        exact .inr ⟨i + 1, by omega, Nat.succ_lt_succ h2, rfl⟩

set_option maxHeartbeats 1000000 in
theorem sindexb_just (s : ByteArray) (c : UInt8) (w : World) : Calls Try.prog 69 #[.string s, .int .u8 (c.toNat : Int)] w (Just w (.int .i64 (Lib.indexByte s.data.toList c))) := by
  have h2 := fun args W => run_callFunc_extern (P := Try.prog) Try.func73 (by kernel_rfl) (by kernel_rfl) (by kernel_rfl) (e := Extern.BytealgIndexByte.indexByte) (by kernel_rfl) args W
  have h3 := fun W => Lib.run_indexByteString (P := Try.prog) s (c.toNat : Int) W
  rw [Int.toNat_natCast, show c.toNat.toUInt8 = c by simp] at h3
  go_enter Try.func69, Try.ntmps69
  go_wp2
  go_ret
  exact ⟨rfl, rfl⟩

set_option maxHeartbeats 2000000 in
set_option maxRecDepth 100000 in
theorem sindex_just (s : ByteArray) (c : UInt8) (w : World) : Calls Try.prog 65 #[.string s, .string ⟨#[c]⟩] w (Just w (.int .i64 (Lib.indexByte s.data.toList c))) := by
  have kb := fun W => sindexb_just s c W
  by_cases he : s = ⟨#[c]⟩
  · have hb : ((⟨#[c]⟩ : ByteArray).toList == s.toList) = true := by rw [he]; exact beq_iff_eq.2 rfl
    have hz : Lib.indexByte s.data.toList c = 0 := by rw [he]; exact if_pos (beq_iff_eq.2 rfl)
    rw [hz]
    clear kb he
    rw [ByteArray.toList_eq] at hb
    go_enter Try.func65, Try.ntmps65
    go_wp2_with fail
    go_ret
    exact ⟨rfl, rfl⟩
  · have hb : ((⟨#[c]⟩ : ByteArray).toList == s.toList) = false := beq_eq_false_iff_ne.2 (fun e => he ((list_ba _ _).1 e).symm)
    generalize Lib.indexByte s.data.toList c = I at *
    clear he
    rw [ByteArray.toList_eq] at hb
    go_enter Try.func65, Try.ntmps65
    go_wp2_with (go_at_call 69; refine (kb _).mono ?_; rintro e w1 ⟨rfl, rfl⟩)
    go_ret
    exact ⟨rfl, rfl⟩

set_option maxHeartbeats 2000000 in
theorem scutl_any (s : ByteArray) (c : UInt8) (w : World) (hs : s.size ≤ 1048576) : Calls Try.prog 59 #[.string s, .string ⟨#[c]⟩] w (SaysCut w c s) := by
  have ki := fun W => sindex_just s c W
  unfold SaysCut
  rcases index_cut c s.data.toList with ⟨h1, h2⟩ | ⟨i, h1, h2, h3⟩
  · rw [h1] at ki
    rw [h2, bytesA_self]
    dsimp only
    clear h1 h2
    go_enter Try.func59, Try.ntmps59
    go_wp2_with (go_at_call 65; refine (ki _).mono ?_; rintro e w1 ⟨rfl, rfl⟩)
    go_ret3
    exact ⟨rfl, Ext.refl _⟩
  · rw [h1] at ki
    rw [h3, ← extract_take, ← extract_drop]
    rw [size_toList] at h2
    have hi0 : (0 : Int) ≤ (i : Int) := by omega
    have hi1 : ((i : Int) + 1) ≤ (s.size : Int) := by omega
    have hi2 : (i : Int) ≤ (s.size : Int) := by omega
    have hi3 : (0 : Int) ≤ ((i : Int) + 1) := by omega
    dsimp only
    clear h1 h3
    go_enter Try.func59, Try.ntmps59
    go_wp2_with (go_at_call 65; refine (ki _).mono ?_; rintro e w1 ⟨rfl, rfl⟩)
    go_quiet (fail)
    go_wp2_with fail
    go_ret3
    exact ⟨rfl, Ext.drewN _ _⟩
theorem scut_any (s : ByteArray) (c : UInt8) (w : World) (hs : s.size ≤ 1048576) : Calls Try.prog 48 #[.string s, .string ⟨#[c]⟩] w (SaysCut w c s) := by
  have kc := scutl_any s c w hs
  unfold SaysCut at *
  generalize cutZ c s.data.toList = C at *
  go_enter Try.func48, Try.ntmps48
  go_wp2_with (go_at_call 59; refine kc.mono ?_; rintro e w1 ⟨rfl, hx⟩)
  go_ret3
  exact ⟨rfl, hx⟩

set_option maxHeartbeats 2000000 in
theorem skind_any (s : ByteArray) (w : World) : Calls Try.prog 66 #[.string s] w (Says w (.int .u8 (kindOf s.data.toList : Int))) := by
  go_enter Try.func66, Try.ntmps66
  go_wp2_with fail
  go_loopw [3] (fun x wr => ∃ i : Nat, 1 ≤ i ∧ i ≤ 5 ∧ x = .int .u8 (i : Int) ∧ Hid (∀ j, 1 ≤ j → j < i → wordV j ≠ s) ∧ Ext w wr)
    (fun x _ => 5 - (intOf x).toNat)
  case atStart => exact ⟨1, by omega, by omega, rfl, hid (fun j h1 h2 => by omega), Ext.refl _⟩
  case round =>
    obtain ⟨i, h1, h7, rfl, ho, hext⟩ := hrel
    have HE := hid hext
    clear hext
    by_cases h6 : (i : Int) ≤ 4
    · have hs := fun W => vword_any i W (by omega)
      have hat := @kind_at i s h1 (by omega)
      obtain ⟨S, hS⟩ : ∃ S, S = wordV i := ⟨_, rfl⟩
      rw [← hS] at hs hat
      have HS := hid hS
      have HA := hid hat
      clear hS hat
      go_wp2_with fail
      refine (hs _).mono ?_
      rintro e w1 ⟨rfl, hx⟩
      by_cases he : S = s
      · subst he
        go_wp2_with fail
        go_ret
        exact Says.mk_int (by rw [HA.out trivial]) (HE.out.trans hx)
      · have hb : (S.toList == s.toList) = false := beq_eq_false_iff_ne.2 (fun e => he ((list_ba S s).1 e))
        go_wp2_with fail
        go_roundw
        case rel => exact ⟨i + 1, by omega, by omega, by go_num, hid (fun j g1 g2 => by
          by_cases hj : j = i
          · subst hj; rw [← HS.out]; exact he
          · exact ho.out j g1 (by omega)), HE.out.trans hx⟩
        case measure => simp only [intOf]; omega
    · have hi : i = 5 := by omega
      subst hi
      have H := hid (kind_no ho.out)
      go_wp2_with fail
      go_ret
      exact Says.mk_int (by rw [H.out]; rfl) HE.out

/-- a field is told, and whether -/
def SaysField (w : World) (R : Option FZ) (e : Ending) (w' : World) : Prop :=
  ∃ (f : FZ) (b : Bool), e = .returned (.tuple #[.agg #[.string f.n, .int .u8 (f.k : Int)], .bool b]) ∧ Ext w w' ∧ R = if b then some f else none
theorem wordf_none {l : List UInt8} (h : kindOf (cutZ 58 l).2.1 = 0) : wordF l = none := if_neg (fun k => k.2 h)
theorem wordf_some {l : List UInt8} (h : kindOf (cutZ 58 l).2.1 ≠ 0) : wordF l = some ⟨bytesA (cutZ 58 l).1, kindOf (cutZ 58 l).2.1⟩ := by
  refine if_pos ⟨?_, h⟩
  rcases index_cut 58 l with ⟨_, h2⟩ | ⟨i, _, _, h3⟩
  · rw [h2] at h
    exact absurd rfl h
  · rw [h3]

set_option maxRecDepth 100000 in
set_option maxHeartbeats 2000000 in
theorem spfield_any (s : ByteArray) (w : World) (hs : s.size ≤ 1048576) : Calls Try.prog 60 #[.string s] w (SaysField w (wordF s.data.toList)) := by
  have kc := fun W => scut_any s 58 W hs
  have hn := @wordf_none s.data.toList
  have hy := @wordf_some s.data.toList
  have hc1 := cut_le1 58 s.data.toList
  rw [size_toList] at hc1
  unfold SaysCut at kc
  generalize wordF s.data.toList = R at *
  generalize cutZ 58 s.data.toList = C at *
  obtain ⟨NM, WH, IS⟩ := C
  dsimp only at *
  have kk := fun W => skind_any (bytesA WH) W
  have kl := fun W => clone_any (bytesA NM) W (by rw [bytesA_size]; omega)
  rw [bytesA_list] at kk
  have hkle := kindof_le WH
  generalize kindOf WH = K at *
  go_enter Try.func60, Try.ntmps60
  go_wp2_with fail
  have HB := hid (heap_alloc_new w (Obj.cells #[.string noText, .int .u8 0] 70 (0, 0)))
  have HX := hid (Ext.alloc w (Obj.cells #[.string noText, .int .u8 0] 70 (0, 0)))
  refine (kc _).mono ?_
  rintro e w1 ⟨rfl, hx⟩
  replace HB := hid (hx.block HB.out)
  replace HX := hid (HX.out.trans hx)
  clear hx kc
  go_wp2_with fail
  refine (kk _).mono ?_
  rintro e w2 ⟨rfl, hx⟩
  replace HB := hid (hx.block HB.out)
  replace HX := hid (HX.out.trans hx)
  clear hx kk
  by_cases hK : K = 0
  · subst hK
    have hR := hn rfl
    subst hR
    obtain ⟨⟨b0, b1⟩, ⟨m0, m1⟩, z0⟩ := box2 HB.out
    go_wp2_with fail
    refine bodyPost_ret (ret_cell_tmp rfl _ _ w.heap.size 70 _ (0, 0) _ rfl (set2 HB.out) Try.underlying70 rfl (by kernel_rfl)) rfl ?_
    refine ⟨⟨noText, 0⟩, false, rfl, ?_, rfl⟩
    repeat (first | (with_reducible exact HX.out) | (with_reducible refine Ext.setCell ?_ (by simp) _))
  · have hR := hy hK
    subst hR
    have hKb : ((K : Int) == 0) = false := beq_eq_false_iff_ne.2 (by omega)
    clear hK hn hy
    go_wp2_with fail
    refine (kl _).mono ?_
    rintro e w3 ⟨rfl, hx⟩
    replace HB := hid (hx.block HB.out)
    replace HX := hid (HX.out.trans hx)
    clear hx kl
    obtain ⟨⟨b0, b1⟩, ⟨m0, m1⟩, z0⟩ := box2 HB.out
    go_wp2_with fail
    refine bodyPost_ret (ret_cell_tmp rfl _ _ w.heap.size 70 _ (0, 0) _ rfl (set2 HB.out) Try.underlying70 rfl (by kernel_rfl)) rfl ?_
    refine ⟨⟨bytesA NM, K⟩, true, rfl, ?_, rfl⟩
    repeat (first | (with_reducible exact HX.out) | (with_reducible refine Ext.setCell ?_ (by simp) _))
end Go.Proofs.Ytggafdimbddflaa
