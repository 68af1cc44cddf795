/- The document's sevens, Size and Put, by their contracts. Conditions: the reach of a slice. -/
import Derived.Test.YtkblpbpmaoofgaaZC3
namespace Go.Proofs.Ytkblpbpmaoofgaa
open Go Go.RowKit

theorem infoInt : (Try.prog.info? 3).map (fun i => (i.zero, i.size, i.bytes)) = some (some (.int .i64 0), 1, 8) := by kernel_rfl

/-- the k lowest digits to the base 128 -/
def dg : Nat → Nat → List Value
  | 0, _ => []
  | k + 1, u => dg k u ++ [.int .i64 ((u / 128 ^ k % 128 : Nat) : Int)]
theorem dg_length (k u : Nat) : (dg k u).length = k := by
  induction k with
  | zero => rfl
  | succ k ih => simp [dg, ih]
theorem dg_at (u : Nat) : ∀ k j, j < k → (dg k u)[j]? = some (.int .i64 ((u / 128 ^ j % 128 : Nat) : Int)) := by
  intro k
  induction k with
  | zero => intro j hj; omega
  | succ k ih =>
    intro j hj
    rw [dg]
    rcases Nat.lt_or_ge j k with h | h
    · rw [List.getElem?_append_left (by rw [dg_length]; exact h), ih j h]
    · have : j = k := by omega
      subst this
      rw [List.getElem?_append_right (by rw [dg_length]; omega), dg_length, Nat.sub_self]
      rfl

theorem pow_nine {k u : Nat} (h : 128 ^ k ≤ u) (hu : u ≤ 18446744073709551615) : k ≤ 9 := by
  rcases Nat.lt_or_ge 9 k with h1 | h1
  · have hm := pow128_mono (show 10 ≤ k by omega)
    have : (18446744073709551615 : Nat) < 128 ^ 10 := by decide
    omega
  · exact h1
theorem one_of_div {k u x : Nat} (hx : x = u / 128 ^ k) (h : x ≠ 0) : 128 ^ k ≤ u := by
  rcases Nat.lt_or_ge u (128 ^ k) with h2 | h2
  · rw [Nat.div_eq_of_lt h2] at hx; omega
  · exact h2
theorem own_to {w : World} {base : Nat} {e : TypeId} {size n m : Nat} {v : Value} {xs ys : List Value} (h : w.ownsRow base e size v n xs) (hn : n = m) (hx : xs = ys) : w.ownsRow base e size v m ys := by
  subst hn; subst hx; exact h

set_option maxHeartbeats 400000 in
theorem sevens_any (u : Nat) (w : World) (hu : u ≤ 18446744073709551615) :
    Calls Try.prog 55 #[.int .u64 (u : Int)] w fun e w' => ∃ r, e = .returned r ∧ w'.ownsRow w.heap.size 3 1 r (zs u) (dg (zs u) u) ∧ Ext w w' := by
  go_enter Try.func55, Try.ntmps55
  go_wp2_with fail
  go_loopw [3, 0] (fun v x wr => ∃ k : Nat, k ≤ 9 ∧ Hid (wr.ownsRow w.heap.size 3 1 v (k + 1) (dg (k + 1) u)) ∧ x = .int .u64 ((u / 128 ^ (k + 1) : Nat) : Int) ∧ Hid (k = 0 ∨ 128 ^ k ≤ u) ∧ Ext w wr)
    (fun _ x _ => (intOf x).toNat)
  case atStart =>
    refine ⟨0, by omega, own_to (own_build w w.heap.size 3 1 1 _ (Nat.le_refl _) (by simp [maxLen]) rfl) rfl ?_, ?_, hid (Or.inl rfl), Ext.alloc w _⟩
    · simp [dg]
    · go_num
  case round =>
    obtain ⟨k, hk, hown, rfl, hz, hext⟩ := hrel
    obtain ⟨x, hx⟩ : ∃ x : Nat, x = u / 128 ^ (k + 1) := ⟨_, rfl⟩
    have hx' : u / 128 ^ (k + 1 + 1) = x / 128 := by rw [hx, Nat.div_div_eq_div_mul, ← Nat.pow_succ]
    rw [← hx]
    have hxl : x ≤ 18446744073709551615 := by rw [hx]; exact Nat.le_trans (Nat.div_le_self _ _) hu
    have HX := hid hx'
    have HY := hid hx
    clear hx' hx
    by_cases h0 : x = 0
    · have hz2 := zs_uniq hz.out ((Nat.div_eq_zero_iff_lt (Nat.pow_pos (by decide))).1 (HY.out.symm.trans h0))
      have HZ2 := hid hz2
      clear hz2
      go_wp2_with fail
      go_ret
      exact ⟨u3, rfl, by rw [HZ2.out]; exact hown.out, hext⟩
    · have h1 := one_of_div HY.out h0
      have h2 := pow_nine h1 hu
      have H1 := hid h1
      clear h1
      go_wp2_with ((with_reducible show wpList _ _ _ (⟨some 17, _, _, _, _, _⟩ :: _) _ _); (refine wpList_append_lies _ rfl (.tmp 12) (.tmp 16) _ rfl w.heap.size 3 (.int .i64 0) 1 8 Try.underlying88 infoInt rfl (by omega) _ (k + 1) _ rfl (hown.out.alloc _) _ 1 1 [_] rfl rfl (Lies.of_row (heap_alloc_new wr _) 0 1) (by simp [Value.oneCell']) (by simp only [maxLen]; omega) (by omega) (by have := hext.size; simp; omega) (fun v1 w1 ho1 hg1 hb1 => ?_)); have HO1 := hid ho1; have HG1 := hid (((hext.then_alloc _).grown hg1 (fun q hq => own_block_ge hown.out q hq))); clear ho1 hg1 hb1)
      go_roundw
      case rel =>
        refine ⟨k + 1, h2, own_to HO1.out rfl ?_, ?_, hid (Or.inr H1.out), HG1.out⟩
        · show _ = dg (k + 1) u ++ [.int .i64 ((u / 128 ^ (k + 1) % 128 : Nat) : Int)]
          rw [← HY.out]; rfl
        · rw [HX.out]; go_num
      case measure => simp [intOf]; omega

/-- part of a number's bytes -/
def part (j u : Nat) : List UInt8 := if j < zs u then hi j u else zb u
theorem part_low {j u : Nat} (h : j < zs u) : part j u = hi j u := if_pos h
theorem part_all {j u : Nat} (h : ¬ j < zs u) : part j u = zb u := if_neg h
theorem part_mid {j u : Nat} (h : j + 1 < zs u) : part (j + 1) u = part j u ++ [UInt8.ofNat (u / 128 ^ j % 128 + 128)] := by
  rw [part_low h, part_low (by omega), hi]
theorem part_end {j u : Nat} (h : j + 1 = zs u) : part (j + 1) u = part j u ++ [UInt8.ofNat (u / 128 ^ j % 128)] := by
  have h1 := (zb_last u).1
  rw [part_all (by omega), part_low (by omega), zb, ← h, Nat.add_sub_cancel]
  rw [← h, Nat.add_sub_cancel] at h1
  rw [Nat.mod_eq_of_lt h1]

theorem own_apart {w1 w2 : World} {b : Nat} {e f : TypeId} {n m : Nat} {v r : Value} {xs ys : List Value} (h1 : w1.ownsRow b e 1 v n xs) (h2 : w2.ownsRow w1.heap.size f 1 r m ys) (hm : 0 < m) : v.ownBlock ≠ r.ownBlock := by
  intro he
  rcases h2.2 with ⟨_, h0⟩ | ⟨g, cap, cur, hv, hb, _⟩
  · omega
  · have hr : r.ownBlock = some g := by rw [hv]; rfl
    have := (h1.lt g (by rw [he, hr])).2
    omega

theorem own_ext {w w' : World} {base : Nat} {e : TypeId} {size n : Nat} {v : Value} {xs : List Value} (h : w.ownsRow base e size v n xs) (x : Ext w w') : w'.ownsRow base e size v n xs :=
  h.kept (row := none) ⟨x.os, x.tape, x.output, x.size, fun k hk _ => Below.block x k hk⟩ (by cases v.ownBlock <;> simp)

theorem put_step {w wr w1 : World} {o : Obj} {u5 v1 : Value} {g6 c6 n m : Nat} {e f : TypeId} {xs ys : List Value} (hext : Ext w wr) (h5 : wr.ownsRow w.heap.size e 1 u5 n xs)
    (h6 : wr.ownsRow w.heap.size f 1 (.slice (some ⟨g6, 0, none⟩) m c6) m ys) (hap : u5.ownBlock ≠ some g6) (hg : (wr.alloc o).grownBy w1 u5.ownBlock) (hb : v1.ownBlock = u5.ownBlock ∨ v1.ownBlock = some (wr.alloc o).heap.size) :
    Ext w w1 ∧ w1.ownsRow w.heap.size f 1 (.slice (some ⟨g6, 0, none⟩) m c6) m ys ∧ v1.ownBlock ≠ some g6 := by
  refine ⟨(hext.then_alloc o).grown hg (fun q hq => own_block_ge h5 q hq), (h6.alloc o).kept hg (Or.inr (fun e => hap e.symm)), ?_⟩
  rcases hb with h | h
  · rw [h]; exact hap
  · rw [h]
    intro e
    injection e with e
    have := (h6.lt g6 rfl).2
    simp at e
    omega

set_option maxHeartbeats 800000 in
theorem rput_any (A : Option Addr) (l : List UInt8) (c u : Nat) (w : World) (hl : Lies w A (bvs l)) (hlen : l.length ≤ 70368744177664) (hu : u ≤ 18446744073709551615) :
    Calls Try.prog 33 #[.slice A l.length c, .int .u64 (u : Int)] w (Told1 w (l ++ zb u)) := by
  have HL := hid hl
  clear hl
  go_enter Try.func33, Try.ntmps33
  go_wp2_with ((with_reducible show wpList _ _ _ (⟨some 10, _, _, _, _, _⟩ :: _) _ _); (refine wpList_append_lies _ rfl (.tmp 8) (.tmp 9) _ rfl w.heap.size 5 (.int .u8 0) 1 1 Try.underlying25 infoByte rfl (by omega) _ 0 _ rfl (own_build w w.heap.size 5 1 0 _ (Nat.le_refl _) (by simp [maxLen]) rfl) A l.length c (bvs l) rfl (by simp [bvs_length]) (HL.out.ext (Ext.alloc _ _)) (bvs_one _) (by simp only [maxLen]; omega) (by omega) (by simp) (fun v1 w1 ho1 hg1 hb1 => ?_)); have HO1 := hid ho1; have HE1 := hid (lit_ext hg1); clear ho1 hg1 hb1)
  refine (sevens_any u _ hu).mono ?_
  rintro e w2 ⟨r, rfl, ho, hx⟩
  have hzp := (zs_spec u).1
  have hz10 := zs_ten (u := u) (by omega)
  have HAP := hid (own_apart HO1.out ho hzp)
  have HO5 := hid (own_to (m := l.length + 0) (ys := bvs (l ++ part 0 u)) (own_ext HO1.out hx) (by omega) (by rw [part_low hzp]; simp [hi]))
  have HO6 := hid (own_base ho HE1.out.size)
  have HX := hid (HE1.out.trans hx)
  obtain ⟨g6, c6, hr⟩ : ∃ g c, r = .slice (some ⟨g, 0, none⟩) (zs u) c := by
    rcases ho.2 with ⟨_, h0⟩ | ⟨g, cap, cur, hv, _⟩
    · omega
    · exact ⟨g, cap, hv⟩
  subst hr
  generalize hz : zs u = z at hzp hz10 HO6 HAP
  have HZ := hid hz
  clear ho hx HO1 HE1 hz
  go_wp2_with fail
  go_loopw [5, 7] (fun v i wr => ∃ j : Nat, j ≤ z ∧ i = .int .i64 (j : Int) ∧ Hid (wr.ownsRow w.heap.size 5 1 v (l.length + j) (bvs (l ++ part j u))) ∧ Hid (wr.ownsRow w.heap.size 3 1 (.slice (some ⟨g6, 0, none⟩) z c6) z (dg z u)) ∧ Hid (v.ownBlock ≠ some g6) ∧ Ext w wr)
    (fun _ i _ => z - (intOf i).toNat)
  case atStart => exact ⟨0, by omega, rfl, HO5, HO6, hid HAP.out, HX.out⟩
  case round =>
    obtain ⟨j, hj, rfl, ho5, ho6, hap, hext⟩ := hrel
    by_cases hjz : j < z
    · obtain ⟨d, hd⟩ : ∃ d : Nat, d = u / 128 ^ j % 128 := ⟨_, rfl⟩
      have hdl : d < 128 := by rw [hd]; exact Nat.mod_lt _ (by decide)
      have hcell : wr.cell? ⟨g6, j, none⟩ = some (.int .i64 (d : Int)) := by
        rw [ho6.out.cellAt j (by omega), dg_at u z j hjz, ← hd]
      have HD := hid hd
      clear hd
      by_cases hj1 : j + 1 < z
      · go_wp2_with ((with_reducible show wpList _ _ _ (⟨some 32, _, _, _, _, _⟩ :: _) _ _); (refine wpList_append_lies _ rfl (.tmp 24) (.tmp 31) _ rfl w.heap.size 5 (.int .u8 0) 1 1 Try.underlying25 infoByte rfl (by omega) u5 (l.length + j) _ rfl (ho5.out.alloc _) _ 1 1 [_] rfl rfl (Lies.of_row (heap_alloc_new wr _) 0 1) (by simp [Value.oneCell']) (by simp only [maxLen]; omega) (by omega) (by have := hext.size; simp; omega) (fun v1 w1 ho1 hg1 hb1 => ?_)); have HO1 := hid ho1; have HP1 := hid (put_step hext ho5.out ho6.out hap.out hg1 hb1); clear ho1 hg1 hb1)
        go_roundw
        case rel =>
          refine ⟨j + 1, by omega, rfl, ?_, hid HP1.out.2.1, hid HP1.out.2.2, HP1.out.1⟩
          have h1 := part_mid (j := j) (u := u) (by rw [HZ.out]; exact hj1)
          rw [← HD.out] at h1
          refine own_to HO1.out rfl ?_
          rw [h1, byte_val (d + 128) (by omega) (by omega)]
          simp [bvs]
        case measure => simp [intOf]; omega
      · go_wp2_with ((with_reducible show wpList _ _ _ (⟨some 40, _, _, _, _, _⟩ :: _) _ _); (refine wpList_append_lies _ rfl (.tmp 33) (.tmp 39) _ rfl w.heap.size 5 (.int .u8 0) 1 1 Try.underlying25 infoByte rfl (by omega) u5 (l.length + j) _ rfl (ho5.out.alloc _) _ 1 1 [_] rfl rfl (Lies.of_row (heap_alloc_new wr _) 0 1) (by simp [Value.oneCell']) (by simp only [maxLen]; omega) (by omega) (by have := hext.size; simp; omega) (fun v1 w1 ho1 hg1 hb1 => ?_)); have HO1 := hid ho1; have HP1 := hid (put_step hext ho5.out ho6.out hap.out hg1 hb1); clear ho1 hg1 hb1)
        go_roundw
        case rel =>
          refine ⟨j + 1, by omega, rfl, ?_, hid HP1.out.2.1, hid HP1.out.2.2, HP1.out.1⟩
          have h1 := part_end (j := j) (u := u) (by rw [HZ.out]; omega)
          rw [← HD.out] at h1
          refine own_to HO1.out rfl ?_
          rw [h1, byte_val d (by omega) rfl]
          simp [bvs]
        case measure => simp [intOf]; omega
    · go_wp2_with fail
      go_ret
      have h1 := ho5.out
      rw [part_all (by rw [HZ.out]; exact hjz)] at h1
      exact Told1.mk h1 hext

theorem rput_at (v : Value) (l : List UInt8) (u : Nat) (w : World) (hb : Bytes w v l) (hlen : l.length ≤ 70368744177664) (hu : u ≤ 18446744073709551615) :
    Calls Try.prog 33 #[v, .int .u64 (u : Int)] w (Told1 w (l ++ zb u)) := by
  obtain ⟨A, c, rfl, _, _, h2⟩ := hb
  exact rput_any A l c u w h2 hlen hu
end Go.Proofs.Ytkblpbpmaoofgaa
