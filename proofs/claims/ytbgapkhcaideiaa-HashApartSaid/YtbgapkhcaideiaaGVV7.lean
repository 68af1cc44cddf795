/- Several texts in one: VV7, VV8. Conditions: those of each. -/
import Derived.BigQuiet
import Derived.Lib.AppendZeros
import Derived.Test.YtbgapkhcaideiaaVV1
import Derived.Test.YtbgapkhcaideiaaBase
import Derived.Test.YtbgapkhcaideiaaGVV3
import Derived.Test.YtbgapkhcaideiaaVR1
/- slices.Grow of nothing and slices.Concat of two lists of bytes, as the landed program calls them, by their contracts. Conditions: the reach of a slice. -/
namespace Go.Proofs.Ytbgapkhcaideiaa
open Go Go.RowKit

set_option maxRecDepth 100000 in
set_option maxHeartbeats 400000 in
theorem grow_any (n : Nat) (w : World) (hn : n ≤ 140737488355328) : Calls Try.prog 39 #[.slice none 0 0, .int .i64 (n : Int)] w fun e w' => ∃ v, e = .returned v ∧ w'.ownsRow w.heap.size 5 1 v 0 [] ∧ Ext w w' := by
  by_cases h0 : n = 0
  · subst h0
    go_enter Try.func39, Try.ntmps39
    go_wp2_with fail
    go_ret
    exact ⟨_, rfl, World.ownsRow_nil _ _ _ _, Ext.refl _⟩
  · obtain ⟨i, hi, hz, hi1, hi2⟩ := info_parts infoByte
    have ha := fun W ty => Go.Lib.run_append_nil_zeros (P := Try.prog) W 39 3 ty 5 i (.int .u8 0) .i64 .i64 Try.underlying39 Try.underlying3 hi hz n (by omega) (by rw [hi1]; decide) (by omega) (by rw [hi2]; omega)
    have hge := grownCap_ge w n 0 5
    have hle := grownCap_le_maxLen w n 0 5 (by unfold maxLen; omega)
    obtain ⟨c, hc⟩ : ∃ c, c = grownCap w n 0 5 := ⟨_, rfl⟩
    have ha0 := ha w 39
    rw [← hc] at ha0 hge hle
    obtain ⟨cs, hcs⟩ : ∃ cs, cs = Builtin.zeroCells (Value.int .u8 0).cells n ++ Builtin.zeroCells (Value.int .u8 0).cells (c - n) := ⟨_, rfl⟩
    rw [← hcs] at ha0
    have hsz : cs.size = c * 1 := by
      rw [hcs]
      rw [Array.size_append, Go.size_zeroCells, Go.size_zeroCells]
      show n * 1 + (c - n) * 1 = c * 1
      omega
    have HS := hid hsz
    have HL := hid hle
    have hc0 : 0 < c := by omega
    have hn1 : (n : Int) ≤ 9223372036854775807 := by omega
    have hnp : (0 : Int) < (n : Int) := by omega
    clear ha hge hle hc hcs hsz hi hz hi1 hi2 hn
    have HA := hid ha0
    clear ha0
    go_enter Try.func39, Try.ntmps39
    go_wp2_with ((with_reducible show wpList _ _ _ (⟨some 22, _, _, _, _, _⟩ :: _) _ _); refine Go.Lib.wpList_append_run w rfl (.tmp 20) (.tmp 21) _ _ rfl _ _ rfl rfl _ _ HA.out ?_)
    go_ret
    refine ⟨_, rfl, ?_, (Ext.drew w).then_alloc _⟩
    exact own_later (World.ownsRow_made w cs c (Nat.le_refl _) HL.out HS.out) (Ext.drew _)

set_option maxHeartbeats 2000000 in
theorem concat_two (g : Nat) (A B : Option Addr) (c d : Nat) (l m : List UInt8) (w : World) (hg : w.heap[g]? = some (.cells #[.slice A l.length c, .slice B m.length d] 39 (0, 0))) (hl : Lies w A (bvs l)) (hm : Lies w B (bvs m)) (hlen : l.length + m.length ≤ 140737488355328) :
    Calls Try.prog 30 #[.slice (some ⟨g, 0, none⟩) 2 2] w (Told1 w (l ++ m)) := by
  have hc0 : w.cell? ⟨g, 0, none⟩ = some (.slice A l.length c) := cell_of_row _ _ 0 _ _ _ hg
  have hc1 : w.cell? ⟨g, 1, none⟩ = some (.slice B m.length d) := cell_of_row _ _ 1 _ _ _ hg
  have HL := hid hl
  have HM := hid hm
  have HG := hid hg
  have HN := hid hlen
  have kg := fun W => grow_any (l.length + m.length) W hlen
  rw [show ((l.length + m.length : Nat) : Int) = (l.length : Int) + (m.length : Int) from by omega] at kg
  have hn1 : (l.length : Int) + (m.length : Int) ≤ 140737488355328 := by omega
  clear hl hm hg hlen
  go_enter Try.func30, Try.ntmps30
  go_wp2_with fail
  go_loopw [11, 3] (fun i x wr => ∃ k : Nat, k ≤ 2 ∧ i = .int .i64 (k : Int) ∧ x = .int .i64 (if k = 0 then 0 else if k = 1 then (l.length : Int) else (l.length : Int) + (m.length : Int)) ∧ w = wr)
    (fun i _ _ => 2 - (intOf i).toNat)
  case atStart => exact ⟨0, by omega, rfl, rfl, rfl⟩
  case round =>
    obtain ⟨k, hk, rfl, rfl, rfl⟩ := hrel
    have : k = 0 ∨ k = 1 ∨ k = 2 := by omega
    rcases this with rfl | rfl | rfl
    · go_wp2_with fail
      exact ⟨⟨1, by omega, rfl, rfl, trivial⟩, by simp [intOf]⟩
    · go_wp2_with fail
      exact ⟨⟨2, by omega, rfl, rfl, trivial⟩, by simp [intOf]⟩
    · go_wp2_with fail
      refine (kg _).mono ?_
      rintro e w1 ⟨v, rfl, ho, hx⟩
      have HO := hid ho
      have HX := hid hx
      clear ho hx kg
      go_wp2_with fail
      go_loopw [27, 6] (fun i x wr => ∃ (k n : Nat) (ys : List Value), k ≤ 2 ∧ i = .int .i64 (k : Int) ∧ Hid (ys = if k = 0 then [] else if k = 1 then bvs l else bvs (l ++ m)) ∧ wr.ownsRow w.heap.size 5 1 x n ys ∧ Ext w wr)
        (fun i _ _ => 2 - (intOf i).toNat)
      case atStart => exact ⟨0, 0, [], by omega, rfl, rfl, HO.out, HX.out⟩
      case round =>
        obtain ⟨k, n, ys, hk, rfl, HY, ho, hx⟩ := hrel
        have HO2 := hid ho
        have HX2 := hid hx
        have hb2 : w.heap.size ≤ wr.heap.size := hx.size
        replace hc0 := hx.cell hc0
        replace hc1 := hx.cell hc1
        have hlen : ys.length = n := by have := ho.1; rwa [Nat.mul_one] at this
        clear ho hx HO HX
        have : k = 0 ∨ k = 1 ∨ k = 2 := by omega
        rcases this with rfl | rfl | rfl
        · have hys : ys = [] := HY.out
          subst hys
          subst hlen
          clear HY
          go_wp2_with ((with_reducible show wpList _ _ _ (⟨some 33, _, _, _, _, _⟩ :: _) _ _); refine wpList_append_lies _ rfl (.tmp 31) (.tmp 32) _ rfl w.heap.size 5 (.int .u8 0) 1 1 Try.underlying39 infoByte rfl (by omega) _ _ _ rfl HO2.out A l.length c (bvs l) rfl (by rw [bvs_length, Nat.mul_one]) (HL.out.ext HX2.out) (bvs_one l) (by simp only [maxLen, List.length_nil]; omega) (by simp only [List.length_nil]; omega) hb2 (fun v1 w2 ho1 hg1 _ => ?_))
          exact ⟨⟨1, _, bvs l, by omega, rfl, rfl, ho1, HX2.out.grown hg1 (own_block_ge HO2.out)⟩, by simp [intOf]⟩
        · have hys : ys = bvs l := HY.out
          subst hys
          rw [bvs_length] at hlen
          subst hlen
          clear HY
          go_wp2_with ((with_reducible show wpList _ _ _ (⟨some 33, _, _, _, _, _⟩ :: _) _ _); refine wpList_append_lies _ rfl (.tmp 31) (.tmp 32) _ rfl w.heap.size 5 (.int .u8 0) 1 1 Try.underlying39 infoByte rfl (by omega) _ _ _ rfl HO2.out B m.length d (bvs m) rfl (by rw [bvs_length, Nat.mul_one]) (HM.out.ext HX2.out) (bvs_one m) (by simp only [maxLen]; omega) (by omega) hb2 (fun v1 w2 ho1 hg1 _ => ?_))
          rw [← bvs_append] at ho1
          exact ⟨⟨2, _, bvs (l ++ m), by omega, rfl, rfl, ho1, HX2.out.grown hg1 (own_block_ge HO2.out)⟩, by simp [intOf]⟩
        · have hys : ys = bvs (l ++ m) := HY.out
          subst hys
          go_wp2_with fail
          go_ret
          exact Told1.mk HO2.out HX2.out
end Go.Proofs.Ytbgapkhcaideiaa

/- The landed program's Put of a value, by its contract. Conditions: the reach of a slice, numbers within their kinds. -/
namespace Go.Proofs.Ytbgapkhcaideiaa
open Go Go.RowKit

set_option maxRecDepth 100000 in
set_option maxHeartbeats 400000 in
theorem vput_bad (A : Option Addr) (l : List UInt8) (c : Nat) (k : Nat) (n : Int) (b : Nat) (t : ByteArray) (w : World) (hb : b ≤ 18446744073709551615) (ht : t.size ≤ 9223372036854775807) (h : checkV k n b t ≠ 0) :
    Calls Try.prog 24 #[.slice A l.length c, vv k n b t] w (Told2 w (putV l k n b t)) := by
  have kc := fun W => vcheck_free k n b t W hb ht
  have hr : putV l k n b t = ([], checkV k n b t) := if_neg h
  rw [hr]
  unfold vv at *
  generalize checkV k n b t = E at *
  have he : (E != 0) = true := bne_iff_ne.2 h
  clear h hr ht hb
  go_enter Try.func24, Try.ntmps24
  go_wp2_with fail
  refine (kc _).mono ?_
  rintro e w1 ⟨rfl, hx⟩
  have HX := hid ((Ext.alloc w _).trans hx)
  clear hx kc
  go_wp2_with fail
  go_ret2
  exact Told2.none' _ _ _ _ rfl HX.out

/-- a goal that the walk leaves alone -/
def Hold (p : Prop) : Prop := p
theorem hold {p : Prop} (h : Hold p) : p := h

/-- what the slots of the region hold where a text is laid -/
def vlayG (B : Nat) (v1 p : Value) (t : ByteArray) (L : List UInt8) : Nat → Value → World → Prop
  | 0, v, _ => v = v1
  | 1, v, _ => v = p
  | 2, v, _ => v = .string t
  | 3, v, _ => v = .int .i64 (t.size : Int)
  | 4, v, _ => v = .int .u64 (t.size : Int)
  | 5, v, w => w.ownsRow B 5 1 v L.length (bvs L)
  | 6, v, _ => v = p
  | 7, v, _ => v = .string t
  | _, _, _ => True
theorem vlayG_st (B : Nat) (v1 p : Value) (t : ByteArray) (L : List UInt8) : ∀ i9 z9 x9 y9, vlayG B v1 p t L i9 z9 x9 → Ext x9 y9 → vlayG B v1 p t L i9 z9 y9 := by
  intro i9 z9 x9 y9 h e
  unfold vlayG at *
  split at h <;> first | exact h | exact own_later h e | trivial

set_option maxRecDepth 100000 in
set_option maxHeartbeats 2000000 in
theorem vput_whole (A : Option Addr) (l : List UInt8) (c : Nat) (n : Int) (b : Nat) (t : ByteArray) (w : World) (hl : Lies w A (bvs l)) (hlen : l.length ≤ 70368744177600) (hn0 : -9223372036854775808 ≤ n) (hn1 : n ≤ 9223372036854775807) (hb : b ≤ 18446744073709551615) (ht : t.size ≤ 9223372036854775807) (hc : checkV 1 n b t = 0) :
    Calls Try.prog 24 #[.slice A l.length c, .agg #[.int .u8 1, .int .i64 n, .int .u64 (b : Int), .string t]] w (Told2 w (l ++ bytesV 1 n b t, 0)) := by
  have kc := fun W => vcheck_free 1 n b t W hb ht
  have HC := hid hc
  rw [hc] at kc
  replace kc : ∀ W, Calls Try.prog 22 #[.agg #[.int .u8 1, .int .i64 n, .int .u64 (b : Int), .string t]] W (Says W (.int .i64 0)) := kc
  have kn := fun W => need_any 1 W
  rw [need_one] at kn
  have a0 := as_whole_whole
  have HL := hid hl
  have HN := hid hlen
  have HNN := hid (And.intro hn0 hn1)
  have HBB := hid hb
  clear hl hc hn0 hn1 hb ht hlen
  go_enter Try.func24, Try.ntmps24
  go_wp2_with fail
  refine (kc _).mono ?_
  rintro e w1 ⟨rfl, hx⟩
  have hR := hid (hx.block (heap_alloc_new w _))
  have HX := hid ((Ext.alloc w _).trans hx)
  clear hx kc
  obtain ⟨⟨c0, c1, c2, c3⟩, _, z0⟩ := box4 hR.out
  have HX2 : Hid (Ext w (w1.alloc (.cells #[.int .u8 1] 5))) := HX.out.then_alloc _
  have HV : Hid (Bytes (w1.alloc (.cells #[.int .u8 1] 5)) (.slice (some ⟨w1.heap.size, 0, none⟩) 1 1) [UInt8.ofNat 1]) := hid (Bytes.of_row (l := [UInt8.ofNat 1]) (t := 5) (fr := (0, 0)) (heap_alloc_new w1 (.cells #[.int .u8 1] 5)) (by simp [maxLen]))
  have HLEN : Hid (l.length + (bytesV 1 n b t).length ≤ 140737488355328) := by
    have := HN.out
    have h1 := fold_bounds HNN.out.1 HNN.out.2
    have hz := zs_ten (u := (foldZ n).toNat) (by omega)
    have hzl := zb_length (foldZ n).toNat
    show l.length + (zb (foldZ n).toNat).length.succ ≤ _
    omega
  go_wp2_with ((with_reducible show Calls _ 26 _ _ _); refine (kn _).mono ?_; rintro e w1 ⟨rfl, rfl⟩)
  refine (putint_at _ _ n _ HV.out (by simp) HNN.out.1 HNN.out.2).mono ?_
  rintro e w5 ⟨r, rfl, ho, hx⟩
  have HX5 := hid (HX2.out.trans hx)
  have HO : Hid (w5.ownsRow _ 5 1 r (bytesV 1 n b t).length (bvs (bytesV 1 n b t))) := ho
  clear ho hx
  obtain ⟨B, d, rfl, _, _, hB⟩ := own_shape HO.out
  have HB := hid hB
  clear hB HO
  go_wp2_with fail
  refine (concat_two _ A B c d l (bytesV 1 n b t) _ (heap_alloc_new _ _) (HL.out.ext (HX5.out.then_alloc _)) (HB.out.ext (Ext.alloc _ _)) (by have := HLEN.out; omega)).mono ?_
  rintro e w6 ⟨r, rfl, ho6, hx6⟩
  have HO6 := hid ho6
  have HX6 := hid ((HX5.out.then_alloc _).trans hx6)
  have hs5 := HX5.out.size
  clear ho6 hx6
  go_wp2_with fail
  go_ret2
  exact ⟨_, rfl, own_from HO6.out (by simp; omega), HX6.out⟩

set_option maxRecDepth 100000 in
set_option maxHeartbeats 2000000 in
theorem vput_flag (A : Option Addr) (l : List UInt8) (c : Nat) (n : Int) (b : Nat) (t : ByteArray) (w : World) (hl : Lies w A (bvs l)) (hlen : l.length ≤ 70368744177600) (hn0 : -9223372036854775808 ≤ n) (hn1 : n ≤ 9223372036854775807) (hb : b ≤ 18446744073709551615) (ht : t.size ≤ 9223372036854775807) (hc : checkV 2 n b t = 0) :
    Calls Try.prog 24 #[.slice A l.length c, .agg #[.int .u8 2, .int .i64 n, .int .u64 (b : Int), .string t]] w (Told2 w (l ++ bytesV 2 n b t, 0)) := by
  have kc := fun W => vcheck_free 2 n b t W hb ht
  have HC := hid hc
  rw [hc] at kc
  replace kc : ∀ W, Calls Try.prog 22 #[.agg #[.int .u8 2, .int .i64 n, .int .u64 (b : Int), .string t]] W (Says W (.int .i64 0)) := kc
  have kn := fun W => need_any 2 W
  rw [need_two] at kn
  have a0 := as_flag_whole
  have a1 := as_flag_flag
  have HL := hid hl
  have HN := hid hlen
  have HNN := hid (And.intro hn0 hn1)
  have HBB := hid hb
  clear hl hc hn0 hn1 hb ht hlen
  go_enter Try.func24, Try.ntmps24
  go_wp2_with fail
  refine (kc _).mono ?_
  rintro e w1 ⟨rfl, hx⟩
  have hR := hid (hx.block (heap_alloc_new w _))
  have HX := hid ((Ext.alloc w _).trans hx)
  clear hx kc
  obtain ⟨⟨c0, c1, c2, c3⟩, _, z0⟩ := box4 hR.out
  have HX2 : Hid (Ext w (w1.alloc (.cells #[.int .u8 2] 5))) := HX.out.then_alloc _
  have HV : Hid (Bytes (w1.alloc (.cells #[.int .u8 2] 5)) (.slice (some ⟨w1.heap.size, 0, none⟩) 1 1) [UInt8.ofNat 2]) := hid (Bytes.of_row (l := [UInt8.ofNat 2]) (t := 5) (fr := (0, 0)) (heap_alloc_new w1 (.cells #[.int .u8 2] 5)) (by simp [maxLen]))
  have hz1 : w.heap.size ≤ w1.heap.size := by omega
  have HOWN : Hid ((w1.alloc (.cells #[.int .u8 2] 5)).ownsRow w.heap.size 5 1 (.slice (some ⟨w1.heap.size, 0, none⟩) 1 1) 1 [.int .u8 2]) := own_build w1 w.heap.size 5 1 1 #[.int .u8 2] hz1 (by simp [maxLen]) rfl
  have hn : n = 0 ∨ n = 1 := by
    have h := HC.out
    rw [check_flag] at h
    by_cases h1 : n < 0 ∨ 1 < n
    · rw [if_pos h1] at h; cases h
    · omega
  have hw : IntKind.u8.wrap n = n := by rcases hn with rfl | rfl <;> decide
  have hbs : [Value.int .u8 2] ++ [Value.int .u8 n] = bvs (bytesV 2 n b t) := by rcases hn with rfl | rfl <;> rfl
  have HBS := hid hbs
  have HLEN : Hid (l.length + (bytesV 2 n b t).length ≤ 140737488355328) := by
    have := HN.out
    show l.length + 2 ≤ _
    omega
  have hn2 : 0 ≤ n ∧ n ≤ 255 := by omega
  clear hn hbs
  go_wp2_with (first | ((with_reducible show Calls _ 26 _ _ _); refine (kn _).mono ?_; rintro e w1 ⟨rfl, rfl⟩) | ((with_reducible show wpList _ _ _ (⟨some 34, _, _, _, _, _⟩ :: _) _ _); refine hold ?_))
  unfold Hold
  refine wpList_append_lies _ rfl (.tmp 29) (.tmp 33) _ rfl w.heap.size 5 (.int .u8 0) 1 1 Try.underlying39 infoByte rfl (by omega) _ _ _ rfl (HOWN.out.alloc _) _ 1 1 [.int .u8 n] rfl rfl (Lies.of_row (heap_alloc2_new w1 (.cells #[.int .u8 2] 5) (.cells #[.int .u8 n] 5)) 0 1) (by simp [Value.oneCell']) (by simp [maxLen]) (by simp) (by simp; omega) (fun v2 w7 ho2 hg2 _ => ?_)
  have HO2 := hid ho2
  have HG2 := hid hg2
  clear ho2 hg2
  have HX5 := hid ((HX2.out.then_alloc _).grown HG2.out (fun q hq => by have := own_block_ge HOWN.out q hq; omega))
  have HO : Hid (w7.ownsRow w.heap.size 5 1 v2 (bytesV 2 n b t).length (bvs (bytesV 2 n b t))) := by
    have h := HO2.out
    rw [HBS.out] at h
    exact own_len h
  clear HO2 HG2
  obtain ⟨B, d, rfl, _, _, hB⟩ := own_shape HO.out
  have HB := hid hB
  clear hB HO
  go_wp2_with fail
  refine (concat_two _ A B c d l (bytesV 2 n b t) _ (heap_alloc_new _ _) (HL.out.ext (HX5.out.then_alloc _)) (HB.out.ext (Ext.alloc _ _)) (by have := HLEN.out; omega)).mono ?_
  rintro e w6 ⟨r, rfl, ho6, hx6⟩
  have HO6 := hid ho6
  have HX6 := hid ((HX5.out.then_alloc _).trans hx6)
  have hs5 := HX5.out.size
  clear ho6 hx6
  go_wp2_with fail
  go_ret2
  exact ⟨_, rfl, own_from HO6.out (by simp; omega), HX6.out⟩

set_option maxRecDepth 100000 in
set_option maxHeartbeats 2000000 in
theorem vput_double (A : Option Addr) (l : List UInt8) (c : Nat) (n : Int) (b : Nat) (t : ByteArray) (w : World) (hl : Lies w A (bvs l)) (hlen : l.length ≤ 70368744177600) (hn0 : -9223372036854775808 ≤ n) (hn1 : n ≤ 9223372036854775807) (hb : b ≤ 18446744073709551615) (ht : t.size ≤ 9223372036854775807) (hc : checkV 3 n b t = 0) :
    Calls Try.prog 24 #[.slice A l.length c, .agg #[.int .u8 3, .int .i64 n, .int .u64 (b : Int), .string t]] w (Told2 w (l ++ bytesV 3 n b t, 0)) := by
  have kc := fun W => vcheck_free 3 n b t W hb ht
  have HC := hid hc
  rw [hc] at kc
  replace kc : ∀ W, Calls Try.prog 22 #[.agg #[.int .u8 3, .int .i64 n, .int .u64 (b : Int), .string t]] W (Says W (.int .i64 0)) := kc
  have kn := fun W => need_any 3 W
  rw [need_three] at kn
  have a0 := as_double_whole
  have a1 := as_double_flag
  have a2 := as_double_double
  have HL := hid hl
  have HN := hid hlen
  have HNN := hid (And.intro hn0 hn1)
  have HBB := hid hb
  clear hl hc hn0 hn1 hb ht hlen
  go_enter Try.func24, Try.ntmps24
  go_wp2_with fail
  refine (kc _).mono ?_
  rintro e w1 ⟨rfl, hx⟩
  have hR := hid (hx.block (heap_alloc_new w _))
  have HX := hid ((Ext.alloc w _).trans hx)
  clear hx kc
  obtain ⟨⟨c0, c1, c2, c3⟩, _, z0⟩ := box4 hR.out
  have HX2 : Hid (Ext w (w1.alloc (.cells #[.int .u8 3] 5))) := HX.out.then_alloc _
  have HV : Hid (Bytes (w1.alloc (.cells #[.int .u8 3] 5)) (.slice (some ⟨w1.heap.size, 0, none⟩) 1 1) [UInt8.ofNat 3]) := hid (Bytes.of_row (l := [UInt8.ofNat 3]) (t := 5) (fr := (0, 0)) (heap_alloc_new w1 (.cells #[.int .u8 3] 5)) (by simp [maxLen]))
  have HLEN : Hid (l.length + (bytesV 3 n b t).length ≤ 140737488355328) := by
    have := HN.out
    show l.length + 9 ≤ _
    omega
  have HVL : Hid (Lies (w1.alloc (.cells #[.int .u8 3] 5)) (some ⟨w1.heap.size, 0, none⟩) (bvs [UInt8.ofNat 3])) := Lies.of_row (heap_alloc_new w1 (.cells #[.int .u8 3] 5)) 0 1
  go_wp2_with ((with_reducible show Calls _ 26 _ _ _); refine (kn _).mono ?_; rintro e w1 ⟨rfl, rfl⟩)
  refine (word_any _ [UInt8.ofNat 3] 1 b _ HVL.out (by simp) (by simp) HBB.out).mono ?_
  rintro e w5 ⟨r, rfl, ho, hx⟩
  have HX5 := hid (HX2.out.trans hx)
  have HO : Hid (w5.ownsRow _ 5 1 r (bytesV 3 n b t).length (bvs (bytesV 3 n b t))) := ho
  clear ho hx
  obtain ⟨B, d, rfl, _, _, hB⟩ := own_shape HO.out
  have HB := hid hB
  clear hB HO
  go_wp2_with fail
  refine (concat_two _ A B c d l (bytesV 3 n b t) _ (heap_alloc_new _ _) (HL.out.ext (HX5.out.then_alloc _)) (HB.out.ext (Ext.alloc _ _)) (by have := HLEN.out; omega)).mono ?_
  rintro e w6 ⟨r, rfl, ho6, hx6⟩
  have HO6 := hid ho6
  have HX6 := hid ((HX5.out.then_alloc _).trans hx6)
  have hs5 := HX5.out.size
  clear ho6 hx6
  go_wp2_with fail
  go_ret2
  exact ⟨_, rfl, own_from HO6.out (by simp; omega), HX6.out⟩

set_option maxRecDepth 100000 in
set_option maxHeartbeats 2000000 in
theorem vput_text (A : Option Addr) (l : List UInt8) (c : Nat) (n : Int) (b : Nat) (t : ByteArray) (w : World) (hl : Lies w A (bvs l)) (hlen : l.length ≤ 70368744177600) (hn0 : -9223372036854775808 ≤ n) (hn1 : n ≤ 9223372036854775807) (hb : b ≤ 18446744073709551615) (ht : t.size ≤ 9223372036854775807) (hc : checkV 4 n b t = 0) :
    Calls Try.prog 24 #[.slice A l.length c, .agg #[.int .u8 4, .int .i64 n, .int .u64 (b : Int), .string t]] w (Told2 w (l ++ bytesV 4 n b t, 0)) := by
  have kc := fun W => vcheck_free 4 n b t W hb ht
  have HC := hid hc
  rw [hc] at kc
  replace kc : ∀ W, Calls Try.prog 22 #[.agg #[.int .u8 4, .int .i64 n, .int .u64 (b : Int), .string t]] W (Says W (.int .i64 0)) := kc
  have kn := fun W => need_any 4 W
  rw [need_four] at kn
  have a0 := as_text_whole
  have a1 := as_text_flag
  have a2 := as_text_double
  have a3 := as_text_text
  have HL := hid hl
  have HN := hid hlen
  have HNN := hid (And.intro hn0 hn1)
  have HBB := hid hb
  clear hl hc hn0 hn1 hb ht hlen
  go_enter Try.func24, Try.ntmps24
  go_wp2_with fail
  refine (kc _).mono ?_
  rintro e w1 ⟨rfl, hx⟩
  have hR := hid (hx.block (heap_alloc_new w _))
  have HX := hid ((Ext.alloc w _).trans hx)
  clear hx kc
  obtain ⟨⟨c0, c1, c2, c3⟩, _, z0⟩ := box4 hR.out
  have HX2 : Hid (Ext w (w1.alloc (.cells #[.int .u8 4] 5))) := HX.out.then_alloc _
  have HV : Hid (Bytes (w1.alloc (.cells #[.int .u8 4] 5)) (.slice (some ⟨w1.heap.size, 0, none⟩) 1 1) [UInt8.ofNat 4]) := hid (Bytes.of_row (l := [UInt8.ofNat 4]) (t := 5) (fr := (0, 0)) (heap_alloc_new w1 (.cells #[.int .u8 4] 5)) (by simp [maxLen]))
  have hts : t.size ≤ 24 := by
    have h := HC.out
    rw [check_text] at h
    by_cases h1 : 24 < t.size
    · rw [if_pos h1] at h; cases h
    · omega
  have hz := zs_ten (u := t.size) (by omega)
  have hzl := zb_length t.size
  have hbs : [UInt8.ofNat 4] ++ zb t.size ++ t.data.toList = bytesV 4 n b t := rfl
  have HBS := hid hbs
  have HLEN : Hid (l.length + (bytesV 4 n b t).length ≤ 140737488355328) := by
    have := HN.out
    show _ ≤ _
    rw [← hbs, List.length_append, List.length_append, hzl, size_toList, List.length_singleton]
    omega
  obtain ⟨L, hL⟩ : ∃ L, L = [UInt8.ofNat 4] ++ zb t.size := ⟨_, rfl⟩
  have hLl : L.length ≤ 30 := by rw [hL, List.length_append, hzl, List.length_singleton]; omega
  rw [← hL] at HBS
  have HL4 := hid hL
  clear hbs hzl hz hL
  go_wp2_with ((with_reducible show Calls _ 26 _ _ _); refine (kn _).mono ?_; rintro e w1 ⟨rfl, rfl⟩)
  have hbase : w.heap.size ≤ w1.heap.size := Nat.le_of_lt z0
  refine wp_region_tail 8 Ext (vlayG w.heap.size (.slice (some ⟨w1.heap.size, 0, none⟩) 1 1) (.pointer (some ⟨w.heap.size, 3, none⟩)) t L) (by kernel_rfl) Ext.trans Ext.refl (Ext.drew _) (vlayG_st _ _ _ _ _) (by kernel_rfl) (by kernel_rfl) ?_ ?_
  · intro tmps df wr hle hfr j o hj ho hty
    have h7 : tmps[7]?.getD undef = .slice (some ⟨w1.heap.size, 0, none⟩) 1 1 := hfr 7 (by kernel_rfl)
    have h3 : tmps[3]?.getD undef = .pointer (some ⟨w.heap.size, 0, none⟩) := hfr 3 (by kernel_rfl)
    have hbr : w.heap.size ≤ wr.heap.size := (HX2.out.trans hle).size
    have hc3 := ((Ext.alloc w1 _).trans hle).cell c3
    have hv := HV.out.ext hle
    clear hfr
    match j, ho, hj with
    | 0, ho, _ =>
      obtain rfl := (Option.some.inj ho)
      clear hty ho
      refine step_pure (.slice (some ⟨w1.heap.size, 0, none⟩) 1 1) (wanted_free rfl) ?_ (Ext.refl _) rfl
      simp [execOp, Act.eval, h7, go_sem]
    | 1, ho, _ =>
      obtain rfl := (Option.some.inj ho)
      clear hty ho
      refine step_pure (.pointer (some ⟨w.heap.size, 3, none⟩)) (wanted_free rfl) ?_ (Ext.refl _) rfl
      simp [execOp, Act.eval, h3, go_sem]
    | 2, ho, _ =>
      have h46 : tmps[46]?.getD undef = .pointer (some ⟨w.heap.size, 3, none⟩) := hty 1 46 (by kernel_rfl) (by obtain rfl := (Option.some.inj ho); rfl)
      obtain rfl := (Option.some.inj ho)
      clear hty ho
      refine step_pure (.string t) (wanted_free rfl) ?_ (Ext.refl _) rfl
      simp [execOp, Act.eval, h46, hc3, go_sem]
    | 3, ho, _ =>
      have h47 : tmps[47]?.getD undef = .string t := hty 2 47 (by kernel_rfl) (by obtain rfl := (Option.some.inj ho); rfl)
      obtain rfl := (Option.some.inj ho)
      clear hty ho
      refine step_pure (.int .i64 (t.size : Int)) (wanted_free rfl) ?_ (Ext.refl _) rfl
      simp [execOp, Act.eval, h47, go_sem]
    | 4, ho, _ =>
      have h48 : tmps[48]?.getD undef = .int .i64 (t.size : Int) := hty 3 48 (by kernel_rfl) (by obtain rfl := (Option.some.inj ho); rfl)
      obtain rfl := (Option.some.inj ho)
      clear hty ho
      refine step_pure (.int .u64 (t.size : Int)) (wanted_free rfl) ?_ (Ext.refl _) rfl
      have hwr : IntKind.u64.wrap (t.size : Int) = (t.size : Int) := by rw [IntKind.wrap_u64]; omega
      simp [execOp, Act.eval, h48, hwr, go_sem]
    | 5, ho, _ =>
      have h45 : tmps[45]?.getD undef = .slice (some ⟨w1.heap.size, 0, none⟩) 1 1 := hty 0 45 (by kernel_rfl) (by obtain rfl := (Option.some.inj ho); rfl)
      have h49 : tmps[49]?.getD undef = .int .u64 (t.size : Int) := hty 4 49 (by kernel_rfl) (by obtain rfl := (Option.some.inj ho); rfl)
      obtain rfl := (Option.some.inj ho)
      clear hty ho
      refine step_call 29 #[.slice (some ⟨w1.heap.size, 0, none⟩) 1 1, .int .u64 (t.size : Int)] (wanted_free rfl) ?_ ?_
      · simp [execOp, Act.eval, h45, h49, go_sem]
      · exact (put_at _ [UInt8.ofNat 4] t.size _ hv (by simp) (by omega)).mono fun e w' ⟨r, h1, h2, h3⟩ => ⟨r, h1, h3, by rw [HL4.out]; exact own_from h2 hbr⟩
    | 6, ho, _ =>
      obtain rfl := (Option.some.inj ho)
      clear hty ho
      refine step_pure (.pointer (some ⟨w.heap.size, 3, none⟩)) (wanted_free rfl) ?_ (Ext.refl _) rfl
      simp [execOp, Act.eval, h3, go_sem]
    | 7, ho, _ =>
      have h51 : tmps[51]?.getD undef = .pointer (some ⟨w.heap.size, 3, none⟩) := hty 6 51 (by kernel_rfl) (by obtain rfl := (Option.some.inj ho); rfl)
      obtain rfl := (Option.some.inj ho)
      clear hty ho
      refine step_pure (.string t) (wanted_free rfl) ?_ (Ext.refl _) rfl
      simp [execOp, Act.eval, h51, hc3, go_sem]
    | (j + 8), _, hj => omega
  · intro tmps w7 hle hs hfr hty
    have h50 : w7.ownsRow w.heap.size 5 1 (tmps[50]?.getD undef) L.length (bvs L) := hty 5 50 (by kernel_rfl)
    have h52 : tmps[52]?.getD undef = .string t := hty 7 52 (by kernel_rfl)
    have hfe := nframe_eq [45, 46, 47, 48, 49, 50, 51, 52] hs hfr (by kernel_rfl)
    rw [hfe]
    clear hfe hfr hs hty
    simp only [List.foldl_cons, List.foldl_nil]
    rw [h52]
    generalize tmps[45]?.getD undef = x45
    generalize tmps[46]?.getD undef = x46
    generalize tmps[47]?.getD undef = x47
    generalize tmps[48]?.getD undef = x48
    generalize tmps[49]?.getD undef = x49
    generalize tmps[50]?.getD undef = x50 at *
    generalize tmps[51]?.getD undef = x51
    have H50 := hid h50
    have hb7 : w.heap.size ≤ w7.heap.size := (HX2.out.trans hle).size
    have HX7 := hid (HX2.out.trans hle)
    clear h50 h52 hle
    simp only [List.drop_succ_cons, List.drop_zero, List.setIfInBounds_toArray, List.set_cons_succ, List.set_cons_zero]
    refine wpList_append_str _ rfl (.tmp 50) (.tmp 52) _ _ rfl w.heap.size 5 Try.underlying39 Try.underlying9 infoByte x50 _ _ rfl H50.out t rfl (by omega) hb7 (fun v2 w8 ho2 hg2 => ?_)
    have HX5 := hid (HX7.out.grown hg2 (own_block_ge H50.out))
    rw [← bvs_append, HBS.out] at ho2
    have HO : Hid (w8.ownsRow w.heap.size 5 1 v2 (bytesV 4 n b t).length (bvs (bytesV 4 n b t))) := own_len ho2
    clear ho2 hg2
    obtain ⟨B, d, rfl, _, _, hB⟩ := own_shape HO.out
    have HB := hid hB
    clear hB HO
    go_wp2_with fail
    refine (concat_two _ A B c d l (bytesV 4 n b t) _ (heap_alloc_new _ _) (HL.out.ext (HX5.out.then_alloc _)) (HB.out.ext (Ext.alloc _ _)) (by have := HLEN.out; omega)).mono ?_
    rintro e w6 ⟨r, rfl, ho6, hx6⟩
    have HO6 := hid ho6
    have HX6 := hid ((HX5.out.then_alloc _).trans hx6)
    have hs5 := HX5.out.size
    clear ho6 hx6
    go_wp2_with fail
    go_ret2
    exact ⟨_, rfl, own_from HO6.out (by simp; omega), HX6.out⟩

theorem vput_any (A : Option Addr) (l : List UInt8) (c : Nat) (k : Nat) (n : Int) (b : Nat) (t : ByteArray) (w : World) (hl : Lies w A (bvs l)) (_hlc : l.length ≤ c) (hlen : l.length ≤ 70368744177600) (hk : k ≤ 255) (hn0 : -9223372036854775808 ≤ n) (hn1 : n ≤ 9223372036854775807) (hb : b ≤ 18446744073709551615) (ht : t.size ≤ 9223372036854775807) :
    Calls Try.prog 24 #[.slice A l.length c, vv k n b t] w (Told2 w (putV l k n b t)) := by
  by_cases h : checkV k n b t = 0
  · have e : putV l k n b t = (l ++ bytesV k n b t, 0) := if_pos h
    rw [e]
    by_cases hk4 : k < 1 ∨ 4 < k
    · rw [check_kind hk4] at h; cases h
    · have : k = 1 ∨ k = 2 ∨ k = 3 ∨ k = 4 := by omega
      rcases this with rfl | rfl | rfl | rfl
      · exact vput_whole A l c n b t w hl hlen hn0 hn1 hb ht h
      · exact vput_flag A l c n b t w hl hlen hn0 hn1 hb ht h
      · exact vput_double A l c n b t w hl hlen hn0 hn1 hb ht h
      · exact vput_text A l c n b t w hl hlen hn0 hn1 hb ht h
  · exact vput_bad A l c k n b t w hb ht h
end Go.Proofs.Ytbgapkhcaideiaa

