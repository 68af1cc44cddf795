/- zig.Put and zig.PutInt, by their contracts. Conditions: the reach of a slice. -/
import Derived.Test.YtkblpbpmaoofgaaZC1
namespace Go.Proofs.Ytkblpbpmaoofgaa
open Go Go.RowKit

/-- j of n sevens are laid -/
def laid (l : List UInt8) (n j u : Nat) : List UInt8 := l ++ (hi j u ++ List.replicate (n - j) 0)
theorem laid_length (l : List UInt8) (n j u : Nat) (h : j ≤ n) : (laid l n j u).length = l.length + n := by simp [laid, hi_length]; omega
theorem laid_zero (l : List UInt8) (n u : Nat) : laid l n 0 u = l ++ List.replicate n 0 := by simp [laid, hi]
theorem laid_step (l : List UInt8) (n j u : Nat) (h : j < n) : (laid l n j u).set (l.length + j) (UInt8.ofNat (u / 128 ^ j % 128 + 128)) = laid l n (j + 1) u := by
  unfold laid
  rw [List.set_append_right _ _ (by omega), Nat.add_sub_cancel_left, List.set_append_right _ _ (by rw [hi_length]; omega), hi_length, Nat.sub_self, hi, show n - j = (n - (j + 1)) + 1 from by omega, List.replicate_succ, List.set_cons_zero, List.append_assoc]
  rfl
theorem laid_all (l : List UInt8) (u : Nat) : (laid l (zs u) (zs u) u).set (l.length + (zs u - 1)) (UInt8.ofNat (u / 128 ^ (zs u - 1))) = l ++ zb u := by
  have hp := (zs_spec u).1
  obtain ⟨k, hk⟩ : ∃ k, zs u = k + 1 := ⟨zs u - 1, by omega⟩
  unfold laid zb
  rw [hk, Nat.sub_self, List.replicate_zero, List.append_nil, Nat.add_sub_cancel, List.set_append_right _ _ (by omega), Nat.add_sub_cancel_left, hi, List.set_append_right _ _ (by rw [hi_length]; omega), hi_length, Nat.sub_self]
  rfl
theorem laid_last (l : List UInt8) (u : Nat) : (laid l (zs u) (zs u) u)[l.length + (zs u - 1)]? = some (UInt8.ofNat (u / 128 ^ (zs u - 1) + 128)) := by
  have hp := (zs_spec u).1
  have h1 := (zb_last u).1
  obtain ⟨k, hk⟩ : ∃ k, zs u = k + 1 := ⟨zs u - 1, by omega⟩
  rw [hk, Nat.add_sub_cancel] at h1
  unfold laid
  rw [hk, Nat.sub_self, List.replicate_zero, List.append_nil, Nat.add_sub_cancel, List.getElem?_append_right (by omega), Nat.add_sub_cancel_left, hi, List.getElem?_append_right (by rw [hi_length]; omega), hi_length, Nat.sub_self, Nat.mod_eq_of_lt h1]
  rfl

theorem byte_val (n : Nat) (h : n < 256) {x : Int} (e : x = (n : Int)) : Value.int .u8 x = bv (UInt8.ofNat n) := by
  unfold bv
  rw [ofNat_toNat h, e]

set_option maxHeartbeats 800000 in
theorem put_any (A : Option Addr) (l : List UInt8) (c u : Nat) (w : World) (hl : Lies w A (bvs l)) (_hlc : l.length ≤ c) (hlen : l.length ≤ 70368744177664) (hu : u ≤ 18446744073709551615) :
    Calls Try.prog 31 #[.slice A l.length c, .int .u64 (u : Int)] w (Told1 w (l ++ zb u)) := by
  have hz10 := zs_ten (u := u) (by omega)
  have hzp := (zs_spec u).1
  obtain ⟨z, hz⟩ : ∃ z, z = zs u := ⟨_, rfl⟩
  rw [← hz] at hz10 hzp
  have HZ := hid hz
  have hsz := fun W => size_any u W hu
  rw [← hz] at hsz
  clear hz
  have hmk := fun W => run_make_row' (P := Try.prog) 25 5 (.int .u8 0) 1 Try.underlying25 infoByte rfl .i64 .i64 (l.length + z) (by omega) (by omega) W
  rw [show ((l.length + z : Nat) : Int) = (l.length : Int) + (z : Int) from by omega] at hmk
  obtain ⟨cs, hcs⟩ : ∃ cs, cs = bvs l := ⟨_, rfl⟩
  have hcl : cs.length = l.length := by rw [hcs, bvs_length]
  have HC := hid hcs
  have hl' : Lies w A cs := by rw [hcs]; exact hl
  have h1 : ∀ u ∈ cs, u.oneCell' = true := by rw [hcs]; exact bvs_one l
  have HL := hid hl'
  have H1 := hid h1
  have HN := hid hcl
  clear hcs hcl hl' h1 hl
  go_enter Try.func31, Try.ntmps31
  go_wp2_with fail
  refine (hsz _).mono ?_
  rintro e w1 ⟨rfl, hx⟩
  have hrow : (w1.alloc (.cells (madeCells #[Value.int .u8 0] (l.length + z)) 5)).heap[w1.heap.size]? = some (.cells (bvs (List.replicate (l.length + z) 0)).toArray 5 (0, 0)) := by
    rw [heap_alloc_new, bvs_zeros]
    congr 2
    rw [← toList_madeCells_one, Array.toArray_toList]
  have HR := hid hrow
  have HX := hid hx
  clear hrow hx hsz
  go_wp2_with ((with_reducible show wpList _ _ _ (⟨some 18, _, _, _, _, _⟩ :: _) _ _); refine wpList_copy_splice rfl (.tmp 16) (.tmp 17) _ _ rfl 5 Try.underlying25 (by kernel_rfl) _ _ _ _ _ _ rfl rfl w1.heap.size 0 _ 5 HR.out cs ?_ ?_ ?_ H1.out w1.heap.size w1 (Ext.alloc w1 _) (Nat.le_refl _) ?_)
  · rw [HN.out]; exact (Nat.min_eq_left (by omega)).symm
  · intro hpos
    obtain ⟨ad, ha, hc⟩ := HL.out (by intro e; rw [e] at hpos; simp at hpos)
    exact ⟨ad, ha, fun j v hj => (HX.out.then_alloc _).cell (hc j v hj)⟩
  · rw [bvs_length, List.length_replicate, HN.out]; omega
  · intro w2 hg2 hb2
    have hrow2 : w2.heap[w1.heap.size]? = some (.cells (bvs (laid l z 0 u)).toArray 5 (0, 0)) := by
      rw [hg2.out]
      congr 3
      rw [splice, HC.out, laid_zero]
      simp [bvs]
    have HR2 := hid hrow2
    have HX2 := hid (HX.out.trans hb2)
    have hge := HX.out.size
    clear hg2 hb2 hrow2 HX
    go_wp2_with fail
    rw [HN.out]
    go_loopw [20, 1] (fun i x wr => ∃ j : Nat, j ≤ z ∧ i = .int .i64 (j : Int) ∧ x = .int .u64 ((u / 128 ^ j : Nat) : Int) ∧ Hid (wr.heap[w1.heap.size]? = some (.cells (bvs (laid l z j u)).toArray 5 (0, 0))) ∧ Ext w wr)
      (fun i _ _ => z - (intOf i).toNat)
    case atStart => exact ⟨0, by omega, rfl, by simp, HR2.out, HX2.out⟩
    case round =>
      obtain ⟨j, hj, rfl, rfl, hrow, hext⟩ := hrel
      obtain ⟨x, hx⟩ : ∃ x : Nat, x = u / 128 ^ j := ⟨_, rfl⟩
      rw [← hx]
      have hxl : x ≤ 18446744073709551615 := by rw [hx]; exact Nat.le_trans (Nat.div_le_self _ _) hu
      have HX := hid hx
      clear hx
      by_cases hjz : j < z
      · have hlen : (laid l z j u).length = l.length + z := laid_length _ _ _ _ (by omega)
        have hin : l.length + j < (laid l z j u).length := by rw [hlen]; omega
        have hcell : wr.cell? ⟨w1.heap.size, l.length + j, none⟩ = some (bv ((laid l z j u)[l.length + j]'hin)) := by
          rw [cell_of_row wr w1.heap.size _ _ _ _ hrow.out]
          simp [bvs, List.getElem?_eq_getElem hin]
        have hfr : wr.frozen? ⟨w1.heap.size, l.length + j, none⟩ = false := frozen_of_row wr w1.heap.size _ _ _ hrow.out
        obtain ⟨old, hold⟩ : ∃ old, old = bv ((laid l z j u)[l.length + j]'hin) := ⟨_, rfl⟩
        rw [← hold] at hcell
        clear hold hin hlen
        have hbit : bits .or .u8 ((x : Int) % 256) 128 = (x : Int) % 128 + 128 := by rw [u8_high (by omega) (by omega)]; omega
        go_wp2_with fail
        go_roundw
        case rel =>
          refine ⟨j + 1, by omega, rfl, ?_, ?_, ?_⟩
          · rw [show u / 128 ^ (j + 1) = x / 128 from by rw [HX.out, Nat.div_div_eq_div_mul, ← Nat.pow_succ]]
            rfl
          · show _ = _
            rw [heap_setCell_same wr w1.heap.size (l.length + j) _ 5 _ hrow.out]
            have h2 := laid_step l z j u hjz
            rw [← HX.out] at h2
            rw [← h2, byte_val (x % 128 + 128) (by omega) (x := (x : Int) % 128 + 128) (by omega)]
            simp [bvs, List.map_set]
          · exact hext.setCell hge _
        case measure => simp [intOf]; omega
      · have hje : j = z := by omega
        obtain ⟨k, rfl⟩ : ∃ k, z = k + 1 := ⟨z - 1, by omega⟩
        have hlast := laid_last l u
        have hall := laid_all l u
        have hy := (zb_last u).1
        rw [← HZ.out, Nat.add_sub_cancel] at hlast hall hy
        obtain ⟨y, hyy⟩ : ∃ y : Nat, y = u / 128 ^ k := ⟨_, rfl⟩
        rw [← hyy] at hlast hall hy
        rw [hje] at hrow
        have hcell : wr.cell? ⟨w1.heap.size, l.length + k, none⟩ = some (.int .u8 ((y : Int) + 128)) := by
          rw [cell_of_row wr w1.heap.size _ _ _ _ hrow.out, byte_val (y + 128) (by omega) (x := (y : Int) + 128) (by omega)]
          simp [bvs, hlast]
        have hfr : wr.frozen? ⟨w1.heap.size, l.length + k, none⟩ = false := frozen_of_row wr w1.heap.size _ _ _ hrow.out
        have hbit : bits .andNot .u8 ((y : Int) + 128) 128 = (y : Int) := by rw [u8_low (by omega) (by omega)]; omega
        have HALL := hid hall
        clear hlast hall hyy
        go_wp2_with fail
        go_ret
        rw [show l.length + (k + 1) - 1 = l.length + k from by omega]
        have hnew := heap_setCell_same wr w1.heap.size (l.length + k) _ 5 (.int .u8 (y : Int)) hrow.out
        have hset : ((bvs (laid l (k + 1) (k + 1) u)).toArray.setIfInBounds (l.length + k) (.int .u8 (y : Int))) = (bvs (l ++ zb u)).toArray := by
          rw [← HALL.out, byte_val y (by omega) rfl]
          simp [bvs, List.map_set]
        rw [hset] at hnew
        have hll : (l ++ zb u).length = l.length + (k + 1) := by rw [List.length_append, zb_length, ← HZ.out]
        have ho := own_row (base := w.heap.size) hnew hge (by rw [hll]; simp only [maxLen]; omega)
        rw [hll] at ho
        exact Told1.mk ho (hext.setCell hge _)

theorem put_at (v : Value) (l : List UInt8) (u : Nat) (w : World) (hb : Bytes w v l) (hlen : l.length ≤ 70368744177664) (hu : u ≤ 18446744073709551615) :
    Calls Try.prog 31 #[v, .int .u64 (u : Int)] w (Told1 w (l ++ zb u)) := by
  obtain ⟨A, c, rfl, h1, _, h2⟩ := hb
  exact put_any A l c u w h2 h1 hlen hu

theorem own_base {w : World} {b base : Nat} {e : TypeId} {size n : Nat} {v : Value} {xs : List Value} (h : w.ownsRow base e size v n xs) (hb : b ≤ base) : w.ownsRow b e size v n xs := by
  refine ⟨h.1, ?_⟩
  rcases h.2 with h2 | ⟨g, cap, cur, h3, h4, h5⟩
  · exact Or.inl h2
  · exact Or.inr ⟨g, cap, cur, h3, Nat.le_trans hb h4, h5⟩

/-- a folded number's bytes -/
def zf (n : Int) : List UInt8 := zb (foldZ n).toNat

set_option maxHeartbeats 400000 in
theorem putint_at (v : Value) (l : List UInt8) (n : Int) (w : World) (hb : Bytes w v l) (hlen : l.length ≤ 70368744177664) (h0 : -9223372036854775808 ≤ n) (h1 : n ≤ 9223372036854775807) :
    Calls Try.prog 29 #[v, .int .i64 n] w (Told1 w (l ++ zf n)) := by
  have HB := hid hb
  clear hb
  obtain ⟨u, hu, hul⟩ : ∃ u : Nat, foldZ n = (u : Int) ∧ u ≤ 18446744073709551615 := by
    have := fold_bounds h0 h1
    exact ⟨(foldZ n).toNat, by omega, by omega⟩
  have hzf : zf n = zb u := by unfold zf; rw [hu, Int.toNat_natCast]
  have HU := hid hu
  rw [hzf]
  clear hu hzf
  go_enter Try.func29, Try.ntmps29
  go_wp2_with fail
  refine (fold_any n _ h0 h1).mono ?_
  rintro e w1 ⟨rfl, hx⟩
  rw [HU.out]
  have HX := hid hx
  have hle := hx.size
  replace HB := hid (HB.out.ext hx)
  clear hx
  go_wp2_with fail
  refine (put_at v l u _ HB.out hlen hul).mono ?_
  rintro e w2 ⟨r, rfl, ho, hx⟩
  have HO := hid ho
  replace HX := hid (HX.out.trans hx)
  clear hx ho
  go_wp2_with fail
  go_ret
  exact ⟨r, rfl, own_base HO.out hle, HX.out⟩
end Go.Proofs.Ytkblpbpmaoofgaa
