/- telltalelaw01.awake answers true, and changes nothing that was there. Conditions: none. -/
import Derived.Test.YtekkmpahienaeaaOct6
namespace Go.Proofs.Ytekkmpahienaeaa
open Go Go.RowKit

theorem spec_a : numSpec [9] 2 258 = ([9, 1, 2], 0) := by decide
theorem spec_b : textSpec [9, 1, 2] [104, 105] = ([9, 1, 2, 0, 2, 104, 105], 0) := by decide
theorem spec_c : numSpec [] 1 256 = ([], 8) := by decide
theorem spec_d : numSpec [] 7 0 = ([], 2) := by decide
theorem spec_e : numP ⟨#[1, 2, 0, 2, 104, 105]⟩ 0 0 2 = 2 ∧ numE ⟨#[1, 2, 0, 2, 104, 105]⟩ 0 0 2 = 0 ∧ numN ⟨#[1, 2, 0, 2, 104, 105]⟩ 0 0 2 = 258 := by decide
theorem spec_f : strP ⟨#[1, 2, 0, 2, 104, 105]⟩ 2 0 = 6 ∧ strE ⟨#[1, 2, 0, 2, 104, 105]⟩ 2 0 = 0 ∧ strB ⟨#[1, 2, 0, 2, 104, 105]⟩ 2 0 = ⟨#[104, 105]⟩ := by decide
theorem spec_g : takeP ⟨#[0, 0, 0, 0, 0, 0, 1, 0]⟩ 0 0 8 = 8 ∧ takeE ⟨#[0, 0, 0, 0, 0, 0, 1, 0]⟩ 0 0 8 = 0 ∧ worth (takeB ⟨#[0, 0, 0, 0, 0, 0, 1, 0]⟩ 0 0 8).data.toList = 256 := by decide
theorem spec_h : endOf ⟨#[1, 2, 0, 2, 104, 105]⟩ 6 0 = 0 := by decide
theorem spec_i : leftOf ⟨#[1, 2, 0, 2, 104, 105]⟩ 6 = 0 := by decide
theorem spec_j : ([] : List UInt8) ++ be 8 256 = [0, 0, 0, 0, 0, 0, 1, 0] := by decide

theorem num_at (v : Value) (l : List UInt8) (k n : Int) (w : World) (q : List UInt8 × Int) (hq : numSpec l k n = q) (hv : Bytes w v l) (hlen : l.length ≤ 70368744177664) (h63 : n ≤ 9223372036854775807) :
    Calls Try.prog 8 #[v, .int .i64 k, .int .i64 n] w (Told2 w q) := by
  obtain ⟨A, c, rfl, hc, _, hl⟩ := hv
  subst hq
  exact num_any A l c k n w hl hc hlen h63
theorem text_at (v : Value) (l s : List UInt8) (y : ByteArray) (w : World) (q : List UInt8 × Int) (hy : y = ⟨s.toArray⟩) (hq : textSpec l s = q) (hv : Bytes w v l) (hlen : l.length ≤ 70368744177664) (h63 : y.size ≤ 9223372036854775807) :
    Calls Try.prog 10 #[v, .string y] w (Told2 w q) := by
  obtain ⟨A, c, rfl, hc, _, hl⟩ := hv
  subst hq
  subst hy
  have h := text_any A l c ⟨s.toArray⟩ w hl hc hlen h63
  simpa using h
theorem word_at (v : Value) (l q : List UInt8) (u : Nat) (w : World) (hq : l ++ be 8 u = q) (hv : Bytes w v l) (hlen : l.length ≤ 70368744177664) (hu : u ≤ 18446744073709551615) :
    Calls Try.prog 12 #[v, .int .u64 (u : Int)] w (Told1 w q) := by
  obtain ⟨A, c, rfl, hc, _, hl⟩ := hv
  subst hq
  exact word_any A l c u w hl hc hlen hu

set_option maxHeartbeats 1000000 in
theorem awake_any (w : World) : Calls Try.prog 7 #[] w (Says w (.bool true)) := by
  go_enter Try.func7, Try.ntmps7
  go_wp2_with fail
  refine (num_at _ [9] 2 258 _ _ spec_a (Bytes.of_own (own_build w 0 5 1 1 #[.int .u8 9] (by omega) (by simp [maxLen]) rfl)) (by simp) (by omega)).mono ?_
  rintro e w1 ⟨r1, rfl, ho1, hx⟩
  have HX := hid ((Ext.alloc w _).trans hx)
  have B1 := hid (Bytes.of_own ho1)
  clear hx ho1
  go_wp2_with fail
  refine (text_at _ [9, 1, 2] [104, 105] _ _ _ rfl spec_b B1.out (by simp) (by decide)).mono ?_
  rintro e w2 ⟨r2, rfl, ho2, hx⟩
  replace HX := hid (HX.out.trans hx)
  replace B2 := hid (Bytes.of_own ho2)
  clear hx ho2 B1
  go_wp2_with fail
  refine (num_at _ [] 1 256 _ _ spec_c (Bytes.nil _) (by simp) (by omega)).mono ?_
  rintro e w3 ⟨r3, rfl, ho3, hx⟩
  replace HX := hid (HX.out.trans hx)
  replace B2 := hid (B2.out.ext hx)
  clear hx ho3
  go_wp2_with fail
  refine (num_at _ [] 7 0 _ _ spec_d (Bytes.nil _) (by simp) (by omega)).mono ?_
  rintro e w4 ⟨r4, rfl, ho4, hx⟩
  replace HX := hid (HX.out.trans hx)
  replace B2 := hid (B2.out.ext hx)
  clear hx ho4
  go_wp2_with fail
  refine (open_any _ _).mono ?_
  rintro e w5 ⟨rfl, hx⟩
  replace HX := hid (HX.out.trans hx)
  replace B2 := hid (B2.out.ext hx)
  clear hx
  go_wp2_with fail
  refine (rdnum_any _ _ _ _ _ (by decide)).mono ?_
  rintro e w6 ⟨rfl, hx⟩
  rw [spec_e.1, spec_e.2.1, spec_e.2.2]
  replace HX := hid (HX.out.trans hx)
  replace B2 := hid (B2.out.ext hx)
  clear hx
  go_wp2_with fail
  refine (rdstr_any _ _ _ _ (by decide)).mono ?_
  rintro e w7 ⟨rfl, hx⟩
  rw [spec_f.1, spec_f.2.1, spec_f.2.2]
  replace HX := hid ((HX.out.then_alloc _).trans hx)
  replace B2 := hid ((B2.out.ext (Ext.alloc _ _)).ext hx)
  clear hx
  go_wp2_with fail
  refine (open_any _ _).mono ?_
  rintro e w8 ⟨rfl, hx⟩
  have hD := hid (hx.block (heap_alloc_new w7 _))
  replace HX := hid ((HX.out.then_alloc _).trans hx)
  replace B2 := hid ((B2.out.ext (Ext.alloc _ _)).ext hx)
  clear hx
  go_wp2_with fail
  refine (rdword_any _ _ _ _ (by decide)).mono ?_
  rintro e w9 ⟨rfl, hx⟩
  rw [spec_g.1, spec_g.2.1, spec_g.2.2]
  replace hD := hid (hx.block hD.out)
  replace HX := hid (HX.out.trans hx)
  replace B2 := hid (B2.out.ext hx)
  clear hx
  obtain ⟨⟨c0, c1, c2⟩, ⟨f0, f1, f2⟩, y1⟩ := box3 hD.out
  have hcv : ∀ o, (convert 22 9 r2).run Try.prog (w9.alloc o) = .ok (.string ⟨#[9, 1, 2, 0, 2, 104, 105]⟩) (w9.alloc o) := fun o =>
    run_string_bytes Try.underlying22 Try.underlying5 Try.underlying9 (B2.out.ext (Ext.alloc _ o))
  go_wp2_with fail
  refine (end_any _ _ _ _ (by decide)).mono ?_
  rintro e w10 ⟨rfl, hx⟩
  rw [spec_h]
  clear c0 c1 c2 f0 f1 f2 hcv
  replace hD := hid (hx.block ((heap_alloc_old _ _ y1).trans hD.out))
  replace HX := hid ((HX.out.then_alloc _).trans hx)
  clear hx y1
  obtain ⟨⟨c0, c1, c2⟩, ⟨f0, f1, f2⟩, y1⟩ := box3 hD.out
  go_wp2_with fail
  refine (left_any _ _ _ _ (by decide)).mono ?_
  rintro e w11 ⟨rfl, hx⟩
  rw [spec_i]
  clear c0 c1 c2 f0 f1 f2 y1
  replace HX := hid (HX.out.trans hx)
  clear hx
  go_wp2_with fail
  refine (word_at _ [] _ 256 _ spec_j (Bytes.nil _) (by simp) (by omega)).mono ?_
  rintro e w12 ⟨r5, rfl, ho5, hx⟩
  replace HX := hid (HX.out.trans hx)
  have hcv : (convert 22 9 r5).run Try.prog w12 = .ok (.string ⟨#[0, 0, 0, 0, 0, 0, 1, 0]⟩) w12 :=
    run_string_bytes Try.underlying22 Try.underlying5 Try.underlying9 (Bytes.of_own ho5)
  clear hx ho5
  go_wp2_with fail
  go_ret
  exact ⟨rfl, HX.out⟩

theorem text_at2 (v : Value) (l : List UInt8) (y : ByteArray) (w : World) (q : List UInt8 × Int) (hq : textSpec l y.data.toList = q) (hv : Bytes w v l) (hlen : l.length ≤ 70368744177664) (h63 : y.size ≤ 9223372036854775807) :
    Calls Try.prog 10 #[v, .string y] w (Told2 w q) := by
  obtain ⟨A, c, rfl, hc, _, hl⟩ := hv
  subst hq
  exact text_any A l c y w hl hc hlen h63

end Go.Proofs.Ytekkmpahienaeaa
