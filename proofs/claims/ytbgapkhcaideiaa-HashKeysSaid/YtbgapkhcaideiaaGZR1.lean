/- Several texts in one: ZR1, VR5, VR4. Conditions: those of each. -/
import Derived.BigQuiet
import Derived.Test.YtbgapkhcaideiaaBase
import Derived.Test.YtbgapkhcaideiaaGRR1
import Derived.Test.YtbgapkhcaideiaaOrf2
/- The document's sevens, Size and Put, by their contracts. Conditions: the reach of a slice. -/
namespace Go.Proofs.Ytbgapkhcaideiaa
open Go Go.RowKit

theorem infoInt : (Try.prog.info? 3).map (fun i => (i.zero, i.size, i.bytes)) = some (some (.int .i64 0), 1, 8) := by kernel_rfl

/-- the k lowest digits to the base 128 -/
def dg : Nat → Nat → List Value
  | 0, _ => []
  | k + 1, u => dg k u ++ [.int .i64 ((u / 128 ^ k % 128 : Nat) : Int)]
theorem dg_length (k u : Nat) : (dg k u).length = k := by
  induction k with
  | zero => rfl
  | succ k ih => simp [dg, ih]
theorem dg_at (u : Nat) : ∀ k j, j < k → (dg k u)[j]? = some (.int .i64 ((u / 128 ^ j % 128 : Nat) : Int)) := by
  intro k
  induction k with
  | zero => intro j hj; omega
  | succ k ih =>
    intro j hj
    rw [dg]
    rcases Nat.lt_or_ge j k with h | h
    · rw [List.getElem?_append_left (by rw [dg_length]; exact h), ih j h]
    · have : j = k := by omega
      subst this
      rw [List.getElem?_append_right (by rw [dg_length]; omega), dg_length, Nat.sub_self]
      rfl

theorem pow_nine {k u : Nat} (h : 128 ^ k ≤ u) (hu : u ≤ 18446744073709551615) : k ≤ 9 := by
  rcases Nat.lt_or_ge 9 k with h1 | h1
  · have hm := pow128_mono (show 10 ≤ k by omega)
    have : (18446744073709551615 : Nat) < 128 ^ 10 := by decide
    omega
  · exact h1
theorem one_of_div {k u x : Nat} (hx : x = u / 128 ^ k) (h : x ≠ 0) : 128 ^ k ≤ u := by
  rcases Nat.lt_or_ge u (128 ^ k) with h2 | h2
  · rw [Nat.div_eq_of_lt h2] at hx; omega
  · exact h2
theorem own_to {w : World} {base : Nat} {e : TypeId} {size n m : Nat} {v : Value} {xs ys : List Value} (h : w.ownsRow base e size v n xs) (hn : n = m) (hx : xs = ys) : w.ownsRow base e size v m ys := by
  subst hn; subst hx; exact h

set_option maxHeartbeats 400000 in
theorem sevens_any (u : Nat) (w : World) (hu : u ≤ 18446744073709551615) :
    Calls Try.prog 41 #[.int .u64 (u : Int)] w fun e w' => ∃ r, e = .returned r ∧ w'.ownsRow w.heap.size 3 1 r (zs u) (dg (zs u) u) ∧ Ext w w' := by
  go_enter Try.func41, Try.ntmps41
  go_wp2_with fail
  go_loopw [3, 0] (fun v x wr => ∃ k : Nat, k ≤ 9 ∧ Hid (wr.ownsRow w.heap.size 3 1 v (k + 1) (dg (k + 1) u)) ∧ x = .int .u64 ((u / 128 ^ (k + 1) : Nat) : Int) ∧ Hid (k = 0 ∨ 128 ^ k ≤ u) ∧ Ext w wr)
    (fun _ x _ => (intOf x).toNat)
  case atStart =>
    refine ⟨0, by omega, own_to (own_build w w.heap.size 3 1 1 _ (Nat.le_refl _) (by simp [maxLen]) rfl) rfl ?_, ?_, hid (Or.inl rfl), Ext.alloc w _⟩
    · simp [dg]
    · go_num
  case round =>
    obtain ⟨k, hk, hown, rfl, hz, hext⟩ := hrel
    obtain ⟨x, hx⟩ : ∃ x : Nat, x = u / 128 ^ (k + 1) := ⟨_, rfl⟩
    have hx' : u / 128 ^ (k + 1 + 1) = x / 128 := by rw [hx, Nat.div_div_eq_div_mul, ← Nat.pow_succ]
    rw [← hx]
    have hxl : x ≤ 18446744073709551615 := by rw [hx]; exact Nat.le_trans (Nat.div_le_self _ _) hu
    have HX := hid hx'
    have HY := hid hx
    clear hx' hx
    by_cases h0 : x = 0
    · have hz2 := zs_uniq hz.out ((Nat.div_eq_zero_iff_lt (Nat.pow_pos (by decide))).1 (HY.out.symm.trans h0))
      have HZ2 := hid hz2
      clear hz2
      go_wp2_with fail
      go_ret
      exact ⟨u3, rfl, by rw [HZ2.out]; exact hown.out, hext⟩
    · have h1 := one_of_div HY.out h0
      have h2 := pow_nine h1 hu
      have H1 := hid h1
      clear h1
      go_wp2_with ((with_reducible show wpList _ _ _ (⟨some 17, _, _, _, _, _⟩ :: _) _ _); (refine wpList_append_lies _ rfl (.tmp 12) (.tmp 16) _ rfl w.heap.size 3 (.int .i64 0) 1 8 Try.underlying68 infoInt rfl (by omega) _ (k + 1) _ rfl (hown.out.alloc _) _ 1 1 [_] rfl rfl (Lies.of_row (heap_alloc_new wr _) 0 1) (by simp [Value.oneCell']) (by simp only [maxLen]; omega) (by omega) (by have := hext.size; simp; omega) (fun v1 w1 ho1 hg1 hb1 => ?_)); have HO1 := hid ho1; have HG1 := hid (((hext.then_alloc _).grown hg1 (fun q hq => own_block_ge hown.out q hq))); clear ho1 hg1 hb1)
      go_roundw
      case rel =>
        refine ⟨k + 1, h2, own_to HO1.out rfl ?_, ?_, hid (Or.inr H1.out), HG1.out⟩
        · show _ = dg (k + 1) u ++ [.int .i64 ((u / 128 ^ (k + 1) % 128 : Nat) : Int)]
          rw [← HY.out]; rfl
        · rw [HX.out]; go_num
      case measure => simp [intOf]; omega

/-- part of a number's bytes -/
def part (j u : Nat) : List UInt8 := if j < zs u then hi j u else zb u
theorem part_low {j u : Nat} (h : j < zs u) : part j u = hi j u := if_pos h
theorem part_all {j u : Nat} (h : ¬ j < zs u) : part j u = zb u := if_neg h
theorem part_mid {j u : Nat} (h : j + 1 < zs u) : part (j + 1) u = part j u ++ [UInt8.ofNat (u / 128 ^ j % 128 + 128)] := by
  rw [part_low h, part_low (by omega), hi]
theorem part_end {j u : Nat} (h : j + 1 = zs u) : part (j + 1) u = part j u ++ [UInt8.ofNat (u / 128 ^ j % 128)] := by
  have h1 := (zb_last u).1
  rw [part_all (by omega), part_low (by omega), zb, ← h, Nat.add_sub_cancel]
  rw [← h, Nat.add_sub_cancel] at h1
  rw [Nat.mod_eq_of_lt h1]

theorem own_apart {w1 w2 : World} {b : Nat} {e f : TypeId} {n m : Nat} {v r : Value} {xs ys : List Value} (h1 : w1.ownsRow b e 1 v n xs) (h2 : w2.ownsRow w1.heap.size f 1 r m ys) (hm : 0 < m) : v.ownBlock ≠ r.ownBlock := by
  intro he
  rcases h2.2 with ⟨_, h0⟩ | ⟨g, cap, cur, hv, hb, _⟩
  · omega
  · have hr : r.ownBlock = some g := by rw [hv]; rfl
    have := (h1.lt g (by rw [he, hr])).2
    omega

theorem own_ext {w w' : World} {base : Nat} {e : TypeId} {size n : Nat} {v : Value} {xs : List Value} (h : w.ownsRow base e size v n xs) (x : Ext w w') : w'.ownsRow base e size v n xs :=
  h.kept (row := none) ⟨x.os, x.tape, x.output, x.size, fun k hk _ => Below.block x k hk⟩ (by cases v.ownBlock <;> simp)

theorem put_step {w wr w1 : World} {o : Obj} {u5 v1 : Value} {g6 c6 n m : Nat} {e f : TypeId} {xs ys : List Value} (hext : Ext w wr) (h5 : wr.ownsRow w.heap.size e 1 u5 n xs)
    (h6 : wr.ownsRow w.heap.size f 1 (.slice (some ⟨g6, 0, none⟩) m c6) m ys) (hap : u5.ownBlock ≠ some g6) (hg : (wr.alloc o).grownBy w1 u5.ownBlock) (hb : v1.ownBlock = u5.ownBlock ∨ v1.ownBlock = some (wr.alloc o).heap.size) :
    Ext w w1 ∧ w1.ownsRow w.heap.size f 1 (.slice (some ⟨g6, 0, none⟩) m c6) m ys ∧ v1.ownBlock ≠ some g6 := by
  refine ⟨(hext.then_alloc o).grown hg (fun q hq => own_block_ge h5 q hq), (h6.alloc o).kept hg (Or.inr (fun e => hap e.symm)), ?_⟩
  rcases hb with h | h
  · rw [h]; exact hap
  · rw [h]
    intro e
    injection e with e
    have := (h6.lt g6 rfl).2
    simp at e
    omega

set_option maxHeartbeats 800000 in
theorem rput_any (A : Option Addr) (l : List UInt8) (c u : Nat) (w : World) (hl : Lies w A (bvs l)) (hlen : l.length ≤ 70368744177664) (hu : u ≤ 18446744073709551615) :
    Calls Try.prog 32 #[.slice A l.length c, .int .u64 (u : Int)] w (Told1 w (l ++ zb u)) := by
  have HL := hid hl
  clear hl
  go_enter Try.func32, Try.ntmps32
  go_wp2_with ((with_reducible show wpList _ _ _ (⟨some 10, _, _, _, _, _⟩ :: _) _ _); (refine wpList_append_lies _ rfl (.tmp 8) (.tmp 9) _ rfl w.heap.size 5 (.int .u8 0) 1 1 Try.underlying39 infoByte rfl (by omega) _ 0 _ rfl (own_build w w.heap.size 5 1 0 _ (Nat.le_refl _) (by simp [maxLen]) rfl) A l.length c (bvs l) rfl (by simp [bvs_length]) (HL.out.ext (Ext.alloc _ _)) (bvs_one _) (by simp only [maxLen]; omega) (by omega) (by simp) (fun v1 w1 ho1 hg1 hb1 => ?_)); have HO1 := hid ho1; have HE1 := hid (lit_ext hg1); clear ho1 hg1 hb1)
  refine (sevens_any u _ hu).mono ?_
  rintro e w2 ⟨r, rfl, ho, hx⟩
  have hzp := (zs_spec u).1
  have hz10 := zs_ten (u := u) (by omega)
  have HAP := hid (own_apart HO1.out ho hzp)
  have HO5 := hid (own_to (m := l.length + 0) (ys := bvs (l ++ part 0 u)) (own_ext HO1.out hx) (by omega) (by rw [part_low hzp]; simp [hi]))
  have HO6 := hid (own_base ho HE1.out.size)
  have HX := hid (HE1.out.trans hx)
  obtain ⟨g6, c6, hr⟩ : ∃ g c, r = .slice (some ⟨g, 0, none⟩) (zs u) c := by
    rcases ho.2 with ⟨_, h0⟩ | ⟨g, cap, cur, hv, _⟩
    · omega
    · exact ⟨g, cap, hv⟩
  subst hr
  generalize hz : zs u = z at hzp hz10 HO6 HAP
  have HZ := hid hz
  clear ho hx HO1 HE1 hz
  go_wp2_with fail
  go_loopw [5, 7] (fun v i wr => ∃ j : Nat, j ≤ z ∧ i = .int .i64 (j : Int) ∧ Hid (wr.ownsRow w.heap.size 5 1 v (l.length + j) (bvs (l ++ part j u))) ∧ Hid (wr.ownsRow w.heap.size 3 1 (.slice (some ⟨g6, 0, none⟩) z c6) z (dg z u)) ∧ Hid (v.ownBlock ≠ some g6) ∧ Ext w wr)
    (fun _ i _ => z - (intOf i).toNat)
  case atStart => exact ⟨0, by omega, rfl, HO5, HO6, hid HAP.out, HX.out⟩
  case round =>
    obtain ⟨j, hj, rfl, ho5, ho6, hap, hext⟩ := hrel
    by_cases hjz : j < z
    · obtain ⟨d, hd⟩ : ∃ d : Nat, d = u / 128 ^ j % 128 := ⟨_, rfl⟩
      have hdl : d < 128 := by rw [hd]; exact Nat.mod_lt _ (by decide)
      have hcell : wr.cell? ⟨g6, j, none⟩ = some (.int .i64 (d : Int)) := by
        rw [ho6.out.cellAt j (by omega), dg_at u z j hjz, ← hd]
      have HD := hid hd
      clear hd
      by_cases hj1 : j + 1 < z
      · go_wp2_with ((with_reducible show wpList _ _ _ (⟨some 32, _, _, _, _, _⟩ :: _) _ _); (refine wpList_append_lies _ rfl (.tmp 24) (.tmp 31) _ rfl w.heap.size 5 (.int .u8 0) 1 1 Try.underlying39 infoByte rfl (by omega) u5 (l.length + j) _ rfl (ho5.out.alloc _) _ 1 1 [_] rfl rfl (Lies.of_row (heap_alloc_new wr _) 0 1) (by simp [Value.oneCell']) (by simp only [maxLen]; omega) (by omega) (by have := hext.size; simp; omega) (fun v1 w1 ho1 hg1 hb1 => ?_)); have HO1 := hid ho1; have HP1 := hid (put_step hext ho5.out ho6.out hap.out hg1 hb1); clear ho1 hg1 hb1)
        go_roundw
        case rel =>
          refine ⟨j + 1, by omega, rfl, ?_, hid HP1.out.2.1, hid HP1.out.2.2, HP1.out.1⟩
          have h1 := part_mid (j := j) (u := u) (by rw [HZ.out]; exact hj1)
          rw [← HD.out] at h1
          refine own_to HO1.out rfl ?_
          rw [h1, byte_val (d + 128) (by omega) (by omega)]
          simp [bvs]
        case measure => simp [intOf]; omega
      · go_wp2_with ((with_reducible show wpList _ _ _ (⟨some 40, _, _, _, _, _⟩ :: _) _ _); (refine wpList_append_lies _ rfl (.tmp 33) (.tmp 39) _ rfl w.heap.size 5 (.int .u8 0) 1 1 Try.underlying39 infoByte rfl (by omega) u5 (l.length + j) _ rfl (ho5.out.alloc _) _ 1 1 [_] rfl rfl (Lies.of_row (heap_alloc_new wr _) 0 1) (by simp [Value.oneCell']) (by simp only [maxLen]; omega) (by omega) (by have := hext.size; simp; omega) (fun v1 w1 ho1 hg1 hb1 => ?_)); have HO1 := hid ho1; have HP1 := hid (put_step hext ho5.out ho6.out hap.out hg1 hb1); clear ho1 hg1 hb1)
        go_roundw
        case rel =>
          refine ⟨j + 1, by omega, rfl, ?_, hid HP1.out.2.1, hid HP1.out.2.2, HP1.out.1⟩
          have h1 := part_end (j := j) (u := u) (by rw [HZ.out]; omega)
          rw [← HD.out] at h1
          refine own_to HO1.out rfl ?_
          rw [h1, byte_val d (by omega) rfl]
          simp [bvs]
        case measure => simp [intOf]; omega
    · go_wp2_with fail
      go_ret
      have h1 := ho5.out
      rw [part_all (by rw [HZ.out]; exact hjz)] at h1
      exact Told1.mk h1 hext

theorem rput_at (v : Value) (l : List UInt8) (u : Nat) (w : World) (hb : Bytes w v l) (hlen : l.length ≤ 70368744177664) (hu : u ≤ 18446744073709551615) :
    Calls Try.prog 32 #[v, .int .u64 (u : Int)] w (Told1 w (l ++ zb u)) := by
  obtain ⟨A, c, rfl, _, _, h2⟩ := hb
  exact rput_any A l c u w h2 hlen hu
end Go.Proofs.Ytbgapkhcaideiaa

/- The document's Take of a value, by its contract. Conditions: the reach of a string. -/
namespace Go.Proofs.Ytbgapkhcaideiaa
open Go Go.RowKit

/-- a value, a place and an error are told -/
def SaysV (w : World) (t : VZ × Int × Int) (e : Ending) (w' : World) : Prop := e = .returned (.tuple #[t.1.v, .int .i64 t.2.1, .int .i64 t.2.2]) ∧ Ext w w'
theorem SaysV.mk {w w' : World} {t : VZ × Int × Int} {k : Nat} {n : Int} {b : Nat} {s : ByteArray} {m e : Int} {v : Value} (h : t = (⟨k, n, b, s⟩, m, e)) (hv : v = vv k n b s) (hx : Ext w w') : SaysV w t (.returned (.tuple #[v, .int .i64 m, .int .i64 e])) w' := by
  subst h; subst hv
  exact ⟨rfl, hx⟩

end Go.Proofs.Ytbgapkhcaideiaa

/- The document's Put of a value, by its contract. Conditions: the reach of a slice, numbers within their kinds. -/
namespace Go.Proofs.Ytbgapkhcaideiaa
open Go Go.RowKit

/-- what the slots of the region hold -/
def vputG (B k : Nat) (r0 : Value) (l : List UInt8) (p : Value) : Nat → Value → World → Prop
  | 0, v, w => ∃ g, v = .slice (some ⟨g, 0, none⟩) 0 0 ∧ w.ownsRow B 5 1 v 0 []
  | 1, v, _ => v = r0
  | 2, v, w => w.ownsRow B 5 1 v l.length (bvs l)
  | 3, v, _ => v = p
  | 4, v, _ => v = .int .u8 (k : Int)
  | 5, v, w => ∃ g, v = .slice (some ⟨g, 0, none⟩) 1 1 ∧ Lies w (some ⟨g, 0, none⟩) [.int .u8 (k : Int)]
  | _, _, _ => True
theorem vputG_st (B k : Nat) (r0 : Value) (l : List UInt8) (p : Value) : ∀ i9 z9 x9 y9, vputG B k r0 l p i9 z9 x9 → Ext x9 y9 → vputG B k r0 l p i9 z9 y9 := by
  intro i9 z9 x9 y9 h e
  unfold vputG at *
  split at h
  · obtain ⟨g, h1, h2⟩ := h; exact ⟨g, h1, own_later h2 e⟩
  · exact h
  · exact own_later h e
  · exact h
  · exact h
  · obtain ⟨g, h1, h2⟩ := h; exact ⟨g, h1, h2.ext e⟩
  · trivial

/-- what the slots of the region hold where a text is laid -/
def vputH (B : Nat) (v1 p : Value) (t : ByteArray) (L : List UInt8) : Nat → Value → World → Prop
  | 0, v, _ => v = v1
  | 1, v, _ => v = p
  | 2, v, _ => v = .string t
  | 3, v, _ => v = .int .i64 (t.size : Int)
  | 4, v, _ => v = .int .u64 (t.size : Int)
  | 5, v, w => w.ownsRow B 5 1 v L.length (bvs L)
  | 6, v, _ => v = p
  | 7, v, _ => v = .string t
  | _, _, _ => True
theorem vputH_st (B : Nat) (v1 p : Value) (t : ByteArray) (L : List UInt8) : ∀ i9 z9 x9 y9, vputH B v1 p t L i9 z9 x9 → Ext x9 y9 → vputH B v1 p t L i9 z9 y9 := by
  intro i9 z9 x9 y9 h e
  unfold vputH at *
  split at h <;> first | exact h | exact own_later h e | trivial

theorem rputv_bad (A : Option Addr) (l : List UInt8) (c : Nat) (k : Nat) (n : Int) (b : Nat) (t : ByteArray) (w : World) (hb : b ≤ 18446744073709551615) (h : checkV k n b t ≠ 0) :
    Calls Try.prog 25 #[.slice A l.length c, vv k n b t] w (Told2 w (putV l k n b t)) := by
  have kc := fun W => rcheck_any k n b t W hb
  have hr : putV l k n b t = ([], checkV k n b t) := if_neg h
  rw [hr]
  unfold vv at *
  generalize checkV k n b t = E at *
  have he : (E != 0) = true := bne_iff_ne.2 h
  clear h hr
  go_enter Try.func25, Try.ntmps25
  go_wp2_with fail
  refine (kc _).mono ?_
  rintro e w1 ⟨rfl, hx⟩
  have HX := hid ((Ext.alloc w _).trans hx)
  clear hx
  go_wp2_with fail
  go_ret2
  exact ⟨_, rfl, World.ownsRow_nil _ _ _ _, HX.out⟩

theorem one_byte (k : Nat) (hk : k ≤ 255) : [Value.int .u8 (k : Int)] = bvs [UInt8.ofNat k] := by
  have : (UInt8.ofNat k).toNat = k := ofNat_toNat (by omega)
  simp [bvs, bv, this]

set_option maxRecDepth 100000 in
set_option maxHeartbeats 2000000 in
theorem rputv_good (A : Option Addr) (l : List UInt8) (c : Nat) (k : Nat) (n : Int) (b : Nat) (t : ByteArray) (w : World) (hl : Lies w A (bvs l)) (hlen : l.length ≤ 70368744177663) (hn0 : -9223372036854775808 ≤ n) (hn1 : n ≤ 9223372036854775807) (hb : b ≤ 18446744073709551615) (h : checkV k n b t = 0) :
    Calls Try.prog 25 #[.slice A l.length c, .agg #[.int .u8 (k : Int), .int .i64 n, .int .u64 (b : Int), .string t]] w (Told2 w (l ++ bytesV k n b t, 0)) := by
  have kc := fun W => rcheck_any k n b t W hb
  rw [h] at kc
  have HC := hid h
  have hk : 1 ≤ k ∧ k ≤ 4 := by
    rcases Nat.lt_or_ge k 1 with h1 | h1
    · rw [check_kind (Or.inl h1)] at h; cases h
    · rcases Nat.lt_or_ge 4 k with h2 | h2
      · rw [check_kind (Or.inr h2)] at h; cases h
      · omega
  have HK := hid hk
  have HL := hid hl
  clear hl h hk
  go_enter Try.func25, Try.ntmps25
  go_wp2_with fail
  refine (kc _).mono ?_
  rintro e w1 ⟨rfl, hx⟩
  have HBOX := hid (hx.block (heap_alloc_new w _))
  have HX := hid ((Ext.alloc w _).trans hx)
  have hsz : w.heap.size < w1.heap.size := by have := hx.size; simp at this; omega
  clear hx kc
  go_wp2_with fail
  refine wp_region_tail 6 Ext (vputG w1.heap.size k (.slice A l.length c) l (.pointer (some ⟨w.heap.size, 0, none⟩))) (by kernel_rfl) Ext.trans Ext.refl (Ext.drew _) (vputG_st _ _ _ _ _) (by kernel_rfl) (by kernel_rfl) ?_ ?_
  · intro tmps df wr hle hfr j o hj ho hty
    have h0 : tmps[0]?.getD undef = .slice A l.length c := hfr 0 (by kernel_rfl)
    have h3 : tmps[3]?.getD undef = .pointer (some ⟨w.heap.size, 0, none⟩) := hfr 3 (by kernel_rfl)
    have hbr : w1.heap.size ≤ wr.heap.size := hle.size
    obtain ⟨⟨c0, c1, c2, c3⟩, _, _⟩ := box4 HBOX.out
    have hc0 := hle.cell c0
    clear hfr
    match j, ho, hj with
    | 0, ho, _ =>
      obtain rfl := (Option.some.inj ho)
      clear hty ho
      refine step_make (.slice (some ⟨wr.heap.size, 0, none⟩) 0 0) (wr.alloc (.cells #[] 5)) (wanted_free rfl) ?_ (Ext.alloc _ _) ⟨_, rfl, own_build wr w1.heap.size 5 1 0 _ hbr (by simp [maxLen]) rfl⟩
      simp [execOp, Act.eval, go_sem]
    | 1, ho, _ =>
      obtain rfl := (Option.some.inj ho)
      clear hty ho
      refine step_pure (.slice A l.length c) (wanted_free rfl) ?_ (Ext.refl _) rfl
      simp [execOp, Act.eval, h0, go_sem]
    | 2, ho, _ =>
      have h13 : ∃ g, tmps[13]?.getD undef = .slice (some ⟨g, 0, none⟩) 0 0 ∧ wr.ownsRow w1.heap.size 5 1 (tmps[13]?.getD undef) 0 [] := hty 0 13 (by kernel_rfl) (by obtain rfl := (Option.some.inj ho); rfl)
      have h14 : tmps[14]?.getD undef = .slice A l.length c := hty 1 14 (by kernel_rfl) (by obtain rfl := (Option.some.inj ho); rfl)
      obtain rfl := (Option.some.inj ho)
      clear hty ho
      obtain ⟨g, h13, ho13⟩ := h13
      rw [h13] at ho13
      obtain ⟨v', w', hr, hb, hx⟩ := run_append_own_empty (P := Try.prog) wr w1.heap.size 39 39 5 Try.underlying39 infoByte hbr g ho13 A c l (HL.out.ext (HX.out.trans hle)) (by omega)
      refine step_make v' w' (wanted_free rfl) ?_ hx hb
      simp [execOp, Act.eval, resolve, invoke, builtin, h13, h14, hr]
    | 3, ho, _ =>
      obtain rfl := (Option.some.inj ho)
      clear hty ho
      refine step_pure (.pointer (some ⟨w.heap.size, 0, none⟩)) (wanted_free rfl) ?_ (Ext.refl _) rfl
      simp [execOp, Act.eval, h3, go_sem]
    | 4, ho, _ =>
      have h16 : tmps[16]?.getD undef = .pointer (some ⟨w.heap.size, 0, none⟩) := hty 3 16 (by kernel_rfl) (by obtain rfl := (Option.some.inj ho); rfl)
      obtain rfl := (Option.some.inj ho)
      clear hty ho
      refine step_pure (.int .u8 (k : Int)) (wanted_free rfl) ?_ (Ext.refl _) rfl
      simp [execOp, Act.eval, h16, hc0, go_sem]
    | 5, ho, _ =>
      have h17 : tmps[17]?.getD undef = .int .u8 (k : Int) := hty 4 17 (by kernel_rfl) (by obtain rfl := (Option.some.inj ho); rfl)
      obtain rfl := (Option.some.inj ho)
      clear hty ho
      refine step_make (.slice (some ⟨wr.heap.size, 0, none⟩) 1 1) (wr.alloc (.cells #[.int .u8 (k : Int)] 5)) (wanted_free rfl) ?_ (Ext.alloc _ _) ⟨_, rfl, Lies.of_row (heap_alloc_new wr _) 0 1⟩
      simp [execOp, Act.eval, h17, go_sem]
    | (j + 6), _, hj => omega
  · intro tmps w5 hle hs hfr hty
    have h15 : w5.ownsRow w1.heap.size 5 1 (tmps[15]?.getD undef) l.length (bvs l) := hty 2 15 (by kernel_rfl)
    have h18 : ∃ g, tmps[18]?.getD undef = .slice (some ⟨g, 0, none⟩) 1 1 ∧ Lies w5 (some ⟨g, 0, none⟩) [.int .u8 (k : Int)] := hty 5 18 (by kernel_rfl)
    have hfe := nframe_eq [13, 14, 15, 16, 17, 18] hs hfr (by kernel_rfl)
    rw [hfe]
    clear hfe hfr hs hty
    simp only [List.foldl_cons, List.foldl_nil]
    generalize tmps[13]?.getD undef = x13
    generalize tmps[14]?.getD undef = x14
    generalize tmps[15]?.getD undef = x15 at *
    generalize tmps[16]?.getD undef = x16
    generalize tmps[17]?.getD undef = x17
    generalize tmps[18]?.getD undef = x18 at *
    obtain ⟨g, rfl, h18⟩ := h18
    have H15 := hid h15
    have H18 := hid h18
    have hb5 : w1.heap.size ≤ w5.heap.size := hle.size
    have HLE := hid hle
    clear h15 h18 hle
    simp only [List.drop_succ_cons, List.drop_zero, List.setIfInBounds_toArray, List.set_cons_succ, List.set_cons_zero]
    refine wpList_append_lies _ rfl (.tmp 15) (.tmp 18) _ rfl w1.heap.size 5 (.int .u8 0) 1 1 Try.underlying39 infoByte rfl (by omega) x15 l.length _ rfl H15.out (some ⟨g, 0, none⟩) 1 1 [.int .u8 (k : Int)] rfl rfl H18.out (by simp [Value.oneCell']) (by simp only [maxLen]; omega) (by omega) hb5 (fun v1 w6 ho1 hg1 _ => ?_)
    have HE6 := hid (HLE.out.grown hg1 (own_block_ge H15.out))
    have hlb : l.length + 1 = (l ++ [UInt8.ofNat k]).length := by simp
    rw [one_byte k (by have := HK.out; omega), ← bvs_append, hlb] at ho1
    have HO1 := hid (own_len ho1)
    have HB1 := hid (Bytes.of_own ho1)
    clear ho1 hg1 hlb
    obtain ⟨⟨c0, c1, c2, c3⟩, _, _⟩ := box4 (HE6.out.block HBOX.out)
    have hb6 : w1.heap.size ≤ w6.heap.size := HE6.out.size
    have hbase : w.heap.size ≤ w6.heap.size := by omega
    have hll : (l ++ [UInt8.ofNat k]).length ≤ 70368744177664 := by simp; omega
    have hk4 : k = 1 ∨ k = 2 ∨ k = 3 ∨ k = 4 := by have := HK.out; omega
    have HXX := hid (HX.out.trans HE6.out)
    clear HE6 HLE H15 H18 HL hb5
    rcases hk4 with rfl | rfl | rfl | rfl
    · obtain ⟨F, hF, hFl⟩ : ∃ F : Nat, foldZ n = (F : Int) ∧ F ≤ 18446744073709551615 := by
        have := fold_bounds hn0 hn1
        exact ⟨(foldZ n).toNat, by omega, by omega⟩
      have HF := hid hF
      have kf := fun W => rfold_any n W hn0 hn1
      rw [hF] at kf
      clear hF
      go_wp2_with fail
      refine (kf _).mono ?_
      rintro e w7 ⟨rfl, hx7⟩
      have HX7 := hid hx7
      have hs7 := hx7.size
      clear hx7 kf
      go_wp2_with fail
      refine (rput_at v1 _ F _ (HB1.out.ext HX7.out) hll hFl).mono ?_
      rintro e w8 ⟨r, rfl, ho8, hx8⟩
      have HO8 := hid ho8
      have HX8 := hid hx8
      clear ho8 hx8
      go_wp2_with fail
      go_ret2
      have hbs : l ++ [UInt8.ofNat 1] ++ zb F = l ++ bytesV 1 n b t := by
        unfold bytesV
        rw [if_pos rfl, HF.out, Int.toNat_natCast, List.append_assoc, List.singleton_append]
      have HO9 := HO8.out
      rw [hbs] at HO9
      exact ⟨_, rfl, own_from HO9 (Nat.le_trans hbase hs7), HXX.out.trans (HX7.out.trans HX8.out)⟩
    · have hn : n = 0 ∨ n = 1 := by
        have h := HC.out
        rw [check_flag] at h
        by_cases h1 : n < 0 ∨ 1 < n
        · rw [if_pos h1] at h; cases h
        · omega
      have hnb : [Value.int .u8 (IntKind.u8.wrap n)] = bvs [UInt8.ofNat n.toNat] := by rcases hn with rfl | rfl <;> rfl
      have hw : IntKind.u8.wrap n = n := by rcases hn with rfl | rfl <;> decide
      rw [hw] at hnb
      have HN := hid hnb
      have hn2 : 0 ≤ n ∧ n ≤ 255 := by omega
      clear hnb hw hn
      go_wp2_with ((with_reducible show wpList _ _ _ (⟨some 36, _, _, _, _, _⟩ :: _) _ _); (refine wpList_append_lies _ rfl (.tmp 31) (.tmp 35) _ rfl w1.heap.size 5 (.int .u8 0) 1 1 Try.underlying39 infoByte rfl (by omega) v1 _ _ rfl (HO1.out.alloc _) _ 1 1 [_] rfl rfl (Lies.of_row (heap_alloc_new w6 _) 0 1) (by simp [Value.oneCell']) (by simp only [maxLen]; omega) (by omega) (by simp; omega) (fun v2 w7 ho2 hg2 _ => ?_)); have HO2 := hid ho2; have HX2 := hid ((HXX.out.trans (Ext.alloc _ _)).grown hg2 (fun q hq => by have := own_block_ge HO1.out q hq; omega)); clear ho2 hg2)
      go_ret2
      have hbs : bvs (l ++ [UInt8.ofNat 2]) ++ [Value.int .u8 n] = bvs (l ++ bytesV 2 n b t) := by
        rw [HN.out, ← bvs_append, List.append_assoc]
        rfl
      have HO3 := HO2.out
      rw [hbs] at HO3
      exact ⟨_, rfl, own_from (own_len HO3) (by omega), HX2.out⟩
    · have hbu : (b : Int) ≤ 18446744073709551615 := by omega
      go_wp2_with fail
      refine (rword_at v1 _ _ b _ rfl HB1.out hll hb).mono ?_
      rintro e w8 ⟨r, rfl, ho8, hx8⟩
      have HO8 := hid ho8
      have HX8 := hid hx8
      clear ho8 hx8
      go_wp2_with fail
      go_ret2
      have hbs : l ++ [UInt8.ofNat 3] ++ be 8 b = l ++ bytesV 3 n b t := by
        rw [List.append_assoc]
        rfl
      have HO9 := HO8.out
      rw [hbs] at HO9
      exact ⟨_, rfl, own_from HO9 hbase, HXX.out.trans HX8.out⟩
    · have hts : t.size ≤ 24 := by
        have h := HC.out
        rw [check_text] at h
        by_cases h1 : 24 < t.size
        · rw [if_pos h1] at h; cases h
        · omega
      have hz := zs_ten (u := t.size) (by omega)
      have hzl := zb_length t.size
      have hbs : l ++ [UInt8.ofNat 4] ++ zb t.size ++ t.data.toList = l ++ bytesV 4 n b t := by
        rw [List.append_assoc, List.append_assoc]
        rfl
      have HBS := hid hbs
      have hLl : (l ++ [UInt8.ofNat 4] ++ zb t.size).length ≤ 70368744177700 := by rw [List.length_append, hzl]; omega
      clear hbs hzl hz
      have HL4 := hid hll
      go_wp2_with fail
      obtain ⟨L, hL⟩ : ∃ L, L = l ++ [UInt8.ofNat 4] ++ zb t.size := ⟨_, rfl⟩
      rw [← hL] at HBS hLl
      refine wp_region_tail 8 Ext (vputH w.heap.size v1 (.pointer (some ⟨w.heap.size, 3, none⟩)) t L) (by kernel_rfl) Ext.trans Ext.refl (Ext.drew _) (vputH_st _ _ _ _ _) (by kernel_rfl) (by kernel_rfl) ?_ ?_
      · intro tmps df wr hle hfr j o hj ho hty
        have h7 : tmps[7]?.getD undef = v1 := hfr 7 (by kernel_rfl)
        have h3 : tmps[3]?.getD undef = .pointer (some ⟨w.heap.size, 0, none⟩) := hfr 3 (by kernel_rfl)
        have hbr : w.heap.size ≤ wr.heap.size := Nat.le_trans hbase hle.size
        have hc3 := hle.cell c3
        clear hfr
        match j, ho, hj with
        | 0, ho, _ =>
          obtain rfl := (Option.some.inj ho)
          clear hty ho
          refine step_pure v1 (wanted_free rfl) ?_ (Ext.refl _) rfl
          simp [execOp, Act.eval, h7, go_sem]
        | 1, ho, _ =>
          obtain rfl := (Option.some.inj ho)
          clear hty ho
          refine step_pure (.pointer (some ⟨w.heap.size, 3, none⟩)) (wanted_free rfl) ?_ (Ext.refl _) rfl
          simp [execOp, Act.eval, h3, go_sem]
        | 2, ho, _ =>
          have h45 : tmps[45]?.getD undef = .pointer (some ⟨w.heap.size, 3, none⟩) := hty 1 45 (by kernel_rfl) (by obtain rfl := (Option.some.inj ho); rfl)
          obtain rfl := (Option.some.inj ho)
          clear hty ho
          refine step_pure (.string t) (wanted_free rfl) ?_ (Ext.refl _) rfl
          simp [execOp, Act.eval, h45, hc3, go_sem]
        | 3, ho, _ =>
          have h46 : tmps[46]?.getD undef = .string t := hty 2 46 (by kernel_rfl) (by obtain rfl := (Option.some.inj ho); rfl)
          obtain rfl := (Option.some.inj ho)
          clear hty ho
          refine step_pure (.int .i64 (t.size : Int)) (wanted_free rfl) ?_ (Ext.refl _) rfl
          simp [execOp, Act.eval, h46, go_sem]
        | 4, ho, _ =>
          have h47 : tmps[47]?.getD undef = .int .i64 (t.size : Int) := hty 3 47 (by kernel_rfl) (by obtain rfl := (Option.some.inj ho); rfl)
          obtain rfl := (Option.some.inj ho)
          clear hty ho
          refine step_pure (.int .u64 (t.size : Int)) (wanted_free rfl) ?_ (Ext.refl _) rfl
          have hwr : IntKind.u64.wrap (t.size : Int) = (t.size : Int) := by rw [IntKind.wrap_u64]; omega
          simp [execOp, Act.eval, h47, hwr, go_sem]
        | 5, ho, _ =>
          have h44 : tmps[44]?.getD undef = v1 := hty 0 44 (by kernel_rfl) (by obtain rfl := (Option.some.inj ho); rfl)
          have h48 : tmps[48]?.getD undef = .int .u64 (t.size : Int) := hty 4 48 (by kernel_rfl) (by obtain rfl := (Option.some.inj ho); rfl)
          obtain rfl := (Option.some.inj ho)
          clear hty ho
          refine step_call 32 #[v1, .int .u64 (t.size : Int)] (wanted_free rfl) ?_ ?_
          · simp [execOp, Act.eval, h44, h48, go_sem]
          · exact (rput_at v1 _ t.size _ (HB1.out.ext hle) HL4.out (by omega)).mono fun e w' ⟨r, h1, h2, h3⟩ => ⟨r, h1, h3, by rw [hL]; exact own_from h2 hbr⟩
        | 6, ho, _ =>
          obtain rfl := (Option.some.inj ho)
          clear hty ho
          refine step_pure (.pointer (some ⟨w.heap.size, 3, none⟩)) (wanted_free rfl) ?_ (Ext.refl _) rfl
          simp [execOp, Act.eval, h3, go_sem]
        | 7, ho, _ =>
          have h50 : tmps[50]?.getD undef = .pointer (some ⟨w.heap.size, 3, none⟩) := hty 6 50 (by kernel_rfl) (by obtain rfl := (Option.some.inj ho); rfl)
          obtain rfl := (Option.some.inj ho)
          clear hty ho
          refine step_pure (.string t) (wanted_free rfl) ?_ (Ext.refl _) rfl
          simp [execOp, Act.eval, h50, hc3, go_sem]
        | (j + 8), _, hj => omega
      · intro tmps w7 hle hs hfr hty
        have h49 : w7.ownsRow w.heap.size 5 1 (tmps[49]?.getD undef) L.length (bvs L) := hty 5 49 (by kernel_rfl)
        have h51 : tmps[51]?.getD undef = .string t := hty 7 51 (by kernel_rfl)
        have hfe := nframe_eq [44, 45, 46, 47, 48, 49, 50, 51] hs hfr (by kernel_rfl)
        rw [hfe]
        clear hfe hfr hs hty
        simp only [List.foldl_cons, List.foldl_nil]
        rw [h51]
        generalize tmps[44]?.getD undef = x44
        generalize tmps[45]?.getD undef = x45
        generalize tmps[46]?.getD undef = x46
        generalize tmps[47]?.getD undef = x47
        generalize tmps[48]?.getD undef = x48
        generalize tmps[49]?.getD undef = x49 at *
        generalize tmps[50]?.getD undef = x50
        have H49 := hid h49
        have hb7 : w.heap.size ≤ w7.heap.size := Nat.le_trans hbase hle.size
        have HX7 := hid (HXX.out.trans hle)
        clear h49 h51 hle
        simp only [List.drop_succ_cons, List.drop_zero, List.setIfInBounds_toArray, List.set_cons_succ, List.set_cons_zero]
        refine wpList_append_str _ rfl (.tmp 49) (.tmp 51) _ _ rfl w.heap.size 5 Try.underlying39 Try.underlying9 infoByte x49 _ _ rfl H49.out t rfl (by omega) hb7 (fun v2 w8 ho2 hg2 => ?_)
        have HO2 := hid ho2
        have HX8 := hid (HX7.out.grown hg2 (own_block_ge H49.out))
        clear ho2 hg2
        go_wp2_with fail
        go_ret2
        have HO3 := HO2.out
        rw [← bvs_append, HBS.out] at HO3
        exact ⟨_, rfl, own_len HO3, HX8.out⟩

theorem rputv_any (A : Option Addr) (l : List UInt8) (c : Nat) (k : Nat) (n : Int) (b : Nat) (t : ByteArray) (w : World) (hl : Lies w A (bvs l)) (hlen : l.length ≤ 70368744177663) (hn0 : -9223372036854775808 ≤ n) (hn1 : n ≤ 9223372036854775807) (hb : b ≤ 18446744073709551615) :
    Calls Try.prog 25 #[.slice A l.length c, vv k n b t] w (Told2 w (putV l k n b t)) := by
  by_cases h : checkV k n b t = 0
  · have e : putV l k n b t = (l ++ bytesV k n b t, 0) := if_pos h
    rw [e]
    exact rputv_good A l c k n b t w hl hlen hn0 hn1 hb h
  · exact rputv_bad A l c k n b t w hb h
end Go.Proofs.Ytbgapkhcaideiaa

