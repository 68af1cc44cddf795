/- The document's Put of a value, by its contract. Conditions: the reach of a slice, numbers within their kinds. -/
import Derived.Test.YtkblpbpmaoofgaaReg2
import Derived.Test.YtkblpbpmaoofgaaMem4
import Derived.Test.YtkblpbpmaoofgaaVR1
import Derived.Test.YtkblpbpmaoofgaaZR1
import Derived.Test.YtkblpbpmaoofgaaOrf2
import Derived.BigQuiet
namespace Go.Proofs.Ytkblpbpmaoofgaa
open Go Go.RowKit

/-- what the slots of the region hold -/
def vputG (B k : Nat) (r0 : Value) (l : List UInt8) (p : Value) : Nat → Value → World → Prop
  | 0, v, w => ∃ g, v = .slice (some ⟨g, 0, none⟩) 0 0 ∧ w.ownsRow B 5 1 v 0 []
  | 1, v, _ => v = r0
  | 2, v, w => w.ownsRow B 5 1 v l.length (bvs l)
  | 3, v, _ => v = p
  | 4, v, _ => v = .int .u8 (k : Int)
  | 5, v, w => ∃ g, v = .slice (some ⟨g, 0, none⟩) 1 1 ∧ Lies w (some ⟨g, 0, none⟩) [.int .u8 (k : Int)]
  | _, _, _ => True
theorem vputG_st (B k : Nat) (r0 : Value) (l : List UInt8) (p : Value) : ∀ i9 z9 x9 y9, vputG B k r0 l p i9 z9 x9 → Ext x9 y9 → vputG B k r0 l p i9 z9 y9 := by
  intro i9 z9 x9 y9 h e
  unfold vputG at *
  split at h
  · obtain ⟨g, h1, h2⟩ := h; exact ⟨g, h1, own_later h2 e⟩
  · exact h
  · exact own_later h e
  · exact h
  · exact h
  · obtain ⟨g, h1, h2⟩ := h; exact ⟨g, h1, h2.ext e⟩
  · trivial

/-- what the slots of the region hold where a text is laid -/
def vputH (B : Nat) (v1 p : Value) (t : ByteArray) (L : List UInt8) : Nat → Value → World → Prop
  | 0, v, _ => v = v1
  | 1, v, _ => v = p
  | 2, v, _ => v = .string t
  | 3, v, _ => v = .int .i64 (t.size : Int)
  | 4, v, _ => v = .int .u64 (t.size : Int)
  | 5, v, w => w.ownsRow B 5 1 v L.length (bvs L)
  | 6, v, _ => v = p
  | 7, v, _ => v = .string t
  | _, _, _ => True
theorem vputH_st (B : Nat) (v1 p : Value) (t : ByteArray) (L : List UInt8) : ∀ i9 z9 x9 y9, vputH B v1 p t L i9 z9 x9 → Ext x9 y9 → vputH B v1 p t L i9 z9 y9 := by
  intro i9 z9 x9 y9 h e
  unfold vputH at *
  split at h <;> first | exact h | exact own_later h e | trivial

theorem rputv_bad (A : Option Addr) (l : List UInt8) (c : Nat) (k : Nat) (n : Int) (b : Nat) (t : ByteArray) (w : World) (hb : b ≤ 18446744073709551615) (h : checkV k n b t ≠ 0) :
    Calls Try.prog 11 #[.slice A l.length c, vv k n b t] w (Told2 w (putV l k n b t)) := by
  have kc := fun W => rcheck_any k n b t W hb
  have hr : putV l k n b t = ([], checkV k n b t) := if_neg h
  rw [hr]
  unfold vv at *
  generalize checkV k n b t = E at *
  have he : (E != 0) = true := bne_iff_ne.2 h
  clear h hr
  go_enter Try.func11, Try.ntmps11
  go_wp2_with fail
  refine (kc _).mono ?_
  rintro e w1 ⟨rfl, hx⟩
  have HX := hid ((Ext.alloc w _).trans hx)
  clear hx
  go_wp2_with fail
  go_ret2
  exact ⟨_, rfl, World.ownsRow_nil _ _ _ _, HX.out⟩

theorem one_byte (k : Nat) (hk : k ≤ 255) : [Value.int .u8 (k : Int)] = bvs [UInt8.ofNat k] := by
  have : (UInt8.ofNat k).toNat = k := ofNat_toNat (by omega)
  simp [bvs, bv, this]

set_option maxRecDepth 100000 in
set_option maxHeartbeats 2000000 in
theorem rputv_good (A : Option Addr) (l : List UInt8) (c : Nat) (k : Nat) (n : Int) (b : Nat) (t : ByteArray) (w : World) (hl : Lies w A (bvs l)) (hlen : l.length ≤ 70368744177663) (hn0 : -9223372036854775808 ≤ n) (hn1 : n ≤ 9223372036854775807) (hb : b ≤ 18446744073709551615) (h : checkV k n b t = 0) :
    Calls Try.prog 11 #[.slice A l.length c, .agg #[.int .u8 (k : Int), .int .i64 n, .int .u64 (b : Int), .string t]] w (Told2 w (l ++ bytesV k n b t, 0)) := by
  have kc := fun W => rcheck_any k n b t W hb
  rw [h] at kc
  have HC := hid h
  have hk : 1 ≤ k ∧ k ≤ 4 := by
    rcases Nat.lt_or_ge k 1 with h1 | h1
    · rw [check_kind (Or.inl h1)] at h; cases h
    · rcases Nat.lt_or_ge 4 k with h2 | h2
      · rw [check_kind (Or.inr h2)] at h; cases h
      · omega
  have HK := hid hk
  have HL := hid hl
  clear hl h hk
  go_enter Try.func11, Try.ntmps11
  go_wp2_with fail
  refine (kc _).mono ?_
  rintro e w1 ⟨rfl, hx⟩
  have HBOX := hid (hx.block (heap_alloc_new w _))
  have HX := hid ((Ext.alloc w _).trans hx)
  have hsz : w.heap.size < w1.heap.size := by have := hx.size; simp at this; omega
  clear hx kc
  go_wp2_with fail
  refine wp_region_tail 6 Ext (vputG w1.heap.size k (.slice A l.length c) l (.pointer (some ⟨w.heap.size, 0, none⟩))) (by kernel_rfl) Ext.trans Ext.refl (Ext.drew _) (vputG_st _ _ _ _ _) (by kernel_rfl) (by kernel_rfl) ?_ ?_
  · intro tmps df wr hle hfr j o hj ho hty
    have h0 : tmps[0]?.getD undef = .slice A l.length c := hfr 0 (by kernel_rfl)
    have h3 : tmps[3]?.getD undef = .pointer (some ⟨w.heap.size, 0, none⟩) := hfr 3 (by kernel_rfl)
    have hbr : w1.heap.size ≤ wr.heap.size := hle.size
    obtain ⟨⟨c0, c1, c2, c3⟩, _, _⟩ := box4 HBOX.out
    have hc0 := hle.cell c0
    clear hfr
    match j, ho, hj with
    | 0, ho, _ =>
      obtain rfl := (Option.some.inj ho)
      clear hty ho
      refine step_make (.slice (some ⟨wr.heap.size, 0, none⟩) 0 0) (wr.alloc (.cells #[] 5)) (wanted_free rfl) ?_ (Ext.alloc _ _) ⟨_, rfl, own_build wr w1.heap.size 5 1 0 _ hbr (by simp [maxLen]) rfl⟩
      simp [execOp, Act.eval, go_sem]
    | 1, ho, _ =>
      obtain rfl := (Option.some.inj ho)
      clear hty ho
      refine step_pure (.slice A l.length c) (wanted_free rfl) ?_ (Ext.refl _) rfl
      simp [execOp, Act.eval, h0, go_sem]
    | 2, ho, _ =>
      have h13 : ∃ g, tmps[13]?.getD undef = .slice (some ⟨g, 0, none⟩) 0 0 ∧ wr.ownsRow w1.heap.size 5 1 (tmps[13]?.getD undef) 0 [] := hty 0 13 (by kernel_rfl) (by obtain rfl := (Option.some.inj ho); rfl)
      have h14 : tmps[14]?.getD undef = .slice A l.length c := hty 1 14 (by kernel_rfl) (by obtain rfl := (Option.some.inj ho); rfl)
      obtain rfl := (Option.some.inj ho)
      clear hty ho
      obtain ⟨g, h13, ho13⟩ := h13
      rw [h13] at ho13
      obtain ⟨v', w', hr, hb, hx⟩ := run_append_own_empty (P := Try.prog) wr w1.heap.size 25 25 5 Try.underlying25 infoByte hbr g ho13 A c l (HL.out.ext (HX.out.trans hle)) (by omega)
      refine step_make v' w' (wanted_free rfl) ?_ hx hb
      simp [execOp, Act.eval, resolve, invoke, builtin, h13, h14, hr]
    | 3, ho, _ =>
      obtain rfl := (Option.some.inj ho)
      clear hty ho
      refine step_pure (.pointer (some ⟨w.heap.size, 0, none⟩)) (wanted_free rfl) ?_ (Ext.refl _) rfl
      simp [execOp, Act.eval, h3, go_sem]
    | 4, ho, _ =>
      have h16 : tmps[16]?.getD undef = .pointer (some ⟨w.heap.size, 0, none⟩) := hty 3 16 (by kernel_rfl) (by obtain rfl := (Option.some.inj ho); rfl)
      obtain rfl := (Option.some.inj ho)
      clear hty ho
      refine step_pure (.int .u8 (k : Int)) (wanted_free rfl) ?_ (Ext.refl _) rfl
      simp [execOp, Act.eval, h16, hc0, go_sem]
    | 5, ho, _ =>
      have h17 : tmps[17]?.getD undef = .int .u8 (k : Int) := hty 4 17 (by kernel_rfl) (by obtain rfl := (Option.some.inj ho); rfl)
      obtain rfl := (Option.some.inj ho)
      clear hty ho
      refine step_make (.slice (some ⟨wr.heap.size, 0, none⟩) 1 1) (wr.alloc (.cells #[.int .u8 (k : Int)] 5)) (wanted_free rfl) ?_ (Ext.alloc _ _) ⟨_, rfl, Lies.of_row (heap_alloc_new wr _) 0 1⟩
      simp [execOp, Act.eval, h17, go_sem]
    | (j + 6), _, hj => omega
  · intro tmps w5 hle hs hfr hty
    have h15 : w5.ownsRow w1.heap.size 5 1 (tmps[15]?.getD undef) l.length (bvs l) := hty 2 15 (by kernel_rfl)
    have h18 : ∃ g, tmps[18]?.getD undef = .slice (some ⟨g, 0, none⟩) 1 1 ∧ Lies w5 (some ⟨g, 0, none⟩) [.int .u8 (k : Int)] := hty 5 18 (by kernel_rfl)
    have hfe := nframe_eq [13, 14, 15, 16, 17, 18] hs hfr (by kernel_rfl)
    rw [hfe]
    clear hfe hfr hs hty
    simp only [List.foldl_cons, List.foldl_nil]
    generalize tmps[13]?.getD undef = x13
    generalize tmps[14]?.getD undef = x14
    generalize tmps[15]?.getD undef = x15 at *
    generalize tmps[16]?.getD undef = x16
    generalize tmps[17]?.getD undef = x17
    generalize tmps[18]?.getD undef = x18 at *
    obtain ⟨g, rfl, h18⟩ := h18
    have H15 := hid h15
    have H18 := hid h18
    have hb5 : w1.heap.size ≤ w5.heap.size := hle.size
    have HLE := hid hle
    clear h15 h18 hle
    simp only [List.drop_succ_cons, List.drop_zero, List.setIfInBounds_toArray, List.set_cons_succ, List.set_cons_zero]
    refine wpList_append_lies _ rfl (.tmp 15) (.tmp 18) _ rfl w1.heap.size 5 (.int .u8 0) 1 1 Try.underlying25 infoByte rfl (by omega) x15 l.length _ rfl H15.out (some ⟨g, 0, none⟩) 1 1 [.int .u8 (k : Int)] rfl rfl H18.out (by simp [Value.oneCell']) (by simp only [maxLen]; omega) (by omega) hb5 (fun v1 w6 ho1 hg1 _ => ?_)
    have HE6 := hid (HLE.out.grown hg1 (own_block_ge H15.out))
    have hlb : l.length + 1 = (l ++ [UInt8.ofNat k]).length := by simp
    rw [one_byte k (by have := HK.out; omega), ← bvs_append, hlb] at ho1
    have HO1 := hid (own_len ho1)
    have HB1 := hid (Bytes.of_own ho1)
    clear ho1 hg1 hlb
    obtain ⟨⟨c0, c1, c2, c3⟩, _, _⟩ := box4 (HE6.out.block HBOX.out)
    have hb6 : w1.heap.size ≤ w6.heap.size := HE6.out.size
    have hbase : w.heap.size ≤ w6.heap.size := by omega
    have hll : (l ++ [UInt8.ofNat k]).length ≤ 70368744177664 := by simp; omega
    have hk4 : k = 1 ∨ k = 2 ∨ k = 3 ∨ k = 4 := by have := HK.out; omega
    have HXX := hid (HX.out.trans HE6.out)
    clear HE6 HLE H15 H18 HL hb5
    rcases hk4 with rfl | rfl | rfl | rfl
    · obtain ⟨F, hF, hFl⟩ : ∃ F : Nat, foldZ n = (F : Int) ∧ F ≤ 18446744073709551615 := by
        have := fold_bounds hn0 hn1
        exact ⟨(foldZ n).toNat, by omega, by omega⟩
      have HF := hid hF
      have kf := fun W => rfold_any n W hn0 hn1
      rw [hF] at kf
      clear hF
      go_wp2_with fail
      refine (kf _).mono ?_
      rintro e w7 ⟨rfl, hx7⟩
      have HX7 := hid hx7
      have hs7 := hx7.size
      clear hx7 kf
      go_wp2_with fail
      refine (rput_at v1 _ F _ (HB1.out.ext HX7.out) hll hFl).mono ?_
      rintro e w8 ⟨r, rfl, ho8, hx8⟩
      have HO8 := hid ho8
      have HX8 := hid hx8
      clear ho8 hx8
      go_wp2_with fail
      go_ret2
      have hbs : l ++ [UInt8.ofNat 1] ++ zb F = l ++ bytesV 1 n b t := by
        unfold bytesV
        rw [if_pos rfl, HF.out, Int.toNat_natCast, List.append_assoc, List.singleton_append]
      have HO9 := HO8.out
      rw [hbs] at HO9
      exact ⟨_, rfl, own_from HO9 (Nat.le_trans hbase hs7), HXX.out.trans (HX7.out.trans HX8.out)⟩
    · have hn : n = 0 ∨ n = 1 := by
        have h := HC.out
        rw [check_flag] at h
        by_cases h1 : n < 0 ∨ 1 < n
        · rw [if_pos h1] at h; cases h
        · omega
      have hnb : [Value.int .u8 (IntKind.u8.wrap n)] = bvs [UInt8.ofNat n.toNat] := by rcases hn with rfl | rfl <;> rfl
      have hw : IntKind.u8.wrap n = n := by rcases hn with rfl | rfl <;> decide
      rw [hw] at hnb
      have HN := hid hnb
      have hn2 : 0 ≤ n ∧ n ≤ 255 := by omega
      clear hnb hw hn
      go_wp2_with ((with_reducible show wpList _ _ _ (⟨some 36, _, _, _, _, _⟩ :: _) _ _); (refine wpList_append_lies _ rfl (.tmp 31) (.tmp 35) _ rfl w1.heap.size 5 (.int .u8 0) 1 1 Try.underlying25 infoByte rfl (by omega) v1 _ _ rfl (HO1.out.alloc _) _ 1 1 [_] rfl rfl (Lies.of_row (heap_alloc_new w6 _) 0 1) (by simp [Value.oneCell']) (by simp only [maxLen]; omega) (by omega) (by simp; omega) (fun v2 w7 ho2 hg2 _ => ?_)); have HO2 := hid ho2; have HX2 := hid ((HXX.out.trans (Ext.alloc _ _)).grown hg2 (fun q hq => by have := own_block_ge HO1.out q hq; omega)); clear ho2 hg2)
      go_ret2
      have hbs : bvs (l ++ [UInt8.ofNat 2]) ++ [Value.int .u8 n] = bvs (l ++ bytesV 2 n b t) := by
        rw [HN.out, ← bvs_append, List.append_assoc]
        rfl
      have HO3 := HO2.out
      rw [hbs] at HO3
      exact ⟨_, rfl, own_from (own_len HO3) (by omega), HX2.out⟩
    · have hbu : (b : Int) ≤ 18446744073709551615 := by omega
      go_wp2_with fail
      refine (rword_at v1 _ _ b _ rfl HB1.out hll hb).mono ?_
      rintro e w8 ⟨r, rfl, ho8, hx8⟩
      have HO8 := hid ho8
      have HX8 := hid hx8
      clear ho8 hx8
      go_wp2_with fail
      go_ret2
      have hbs : l ++ [UInt8.ofNat 3] ++ be 8 b = l ++ bytesV 3 n b t := by
        rw [List.append_assoc]
        rfl
      have HO9 := HO8.out
      rw [hbs] at HO9
      exact ⟨_, rfl, own_from HO9 hbase, HXX.out.trans HX8.out⟩
    · have hts : t.size ≤ 24 := by
        have h := HC.out
        rw [check_text] at h
        by_cases h1 : 24 < t.size
        · rw [if_pos h1] at h; cases h
        · omega
      have hz := zs_ten (u := t.size) (by omega)
      have hzl := zb_length t.size
      have hbs : l ++ [UInt8.ofNat 4] ++ zb t.size ++ t.data.toList = l ++ bytesV 4 n b t := by
        rw [List.append_assoc, List.append_assoc]
        rfl
      have HBS := hid hbs
      have hLl : (l ++ [UInt8.ofNat 4] ++ zb t.size).length ≤ 70368744177700 := by rw [List.length_append, hzl]; omega
      clear hbs hzl hz
      have HL4 := hid hll
      go_wp2_with fail
      obtain ⟨L, hL⟩ : ∃ L, L = l ++ [UInt8.ofNat 4] ++ zb t.size := ⟨_, rfl⟩
      rw [← hL] at HBS hLl
      refine wp_region_tail 8 Ext (vputH w.heap.size v1 (.pointer (some ⟨w.heap.size, 3, none⟩)) t L) (by kernel_rfl) Ext.trans Ext.refl (Ext.drew _) (vputH_st _ _ _ _ _) (by kernel_rfl) (by kernel_rfl) ?_ ?_
      · intro tmps df wr hle hfr j o hj ho hty
        have h7 : tmps[7]?.getD undef = v1 := hfr 7 (by kernel_rfl)
        have h3 : tmps[3]?.getD undef = .pointer (some ⟨w.heap.size, 0, none⟩) := hfr 3 (by kernel_rfl)
        have hbr : w.heap.size ≤ wr.heap.size := Nat.le_trans hbase hle.size
        have hc3 := hle.cell c3
        clear hfr
        match j, ho, hj with
        | 0, ho, _ =>
          obtain rfl := (Option.some.inj ho)
          clear hty ho
          refine step_pure v1 (wanted_free rfl) ?_ (Ext.refl _) rfl
          simp [execOp, Act.eval, h7, go_sem]
        | 1, ho, _ =>
          obtain rfl := (Option.some.inj ho)
          clear hty ho
          refine step_pure (.pointer (some ⟨w.heap.size, 3, none⟩)) (wanted_free rfl) ?_ (Ext.refl _) rfl
          simp [execOp, Act.eval, h3, go_sem]
        | 2, ho, _ =>
          have h45 : tmps[45]?.getD undef = .pointer (some ⟨w.heap.size, 3, none⟩) := hty 1 45 (by kernel_rfl) (by obtain rfl := (Option.some.inj ho); rfl)
          obtain rfl := (Option.some.inj ho)
          clear hty ho
          refine step_pure (.string t) (wanted_free rfl) ?_ (Ext.refl _) rfl
          simp [execOp, Act.eval, h45, hc3, go_sem]
        | 3, ho, _ =>
          have h46 : tmps[46]?.getD undef = .string t := hty 2 46 (by kernel_rfl) (by obtain rfl := (Option.some.inj ho); rfl)
          obtain rfl := (Option.some.inj ho)
          clear hty ho
          refine step_pure (.int .i64 (t.size : Int)) (wanted_free rfl) ?_ (Ext.refl _) rfl
          simp [execOp, Act.eval, h46, go_sem]
        | 4, ho, _ =>
          have h47 : tmps[47]?.getD undef = .int .i64 (t.size : Int) := hty 3 47 (by kernel_rfl) (by obtain rfl := (Option.some.inj ho); rfl)
          obtain rfl := (Option.some.inj ho)
          clear hty ho
          refine step_pure (.int .u64 (t.size : Int)) (wanted_free rfl) ?_ (Ext.refl _) rfl
          have hwr : IntKind.u64.wrap (t.size : Int) = (t.size : Int) := by rw [IntKind.wrap_u64]; omega
          simp [execOp, Act.eval, h47, hwr, go_sem]
        | 5, ho, _ =>
          have h44 : tmps[44]?.getD undef = v1 := hty 0 44 (by kernel_rfl) (by obtain rfl := (Option.some.inj ho); rfl)
          have h48 : tmps[48]?.getD undef = .int .u64 (t.size : Int) := hty 4 48 (by kernel_rfl) (by obtain rfl := (Option.some.inj ho); rfl)
          obtain rfl := (Option.some.inj ho)
          clear hty ho
          refine step_call 33 #[v1, .int .u64 (t.size : Int)] (wanted_free rfl) ?_ ?_
          · simp [execOp, Act.eval, h44, h48, go_sem]
          · exact (rput_at v1 _ t.size _ (HB1.out.ext hle) HL4.out (by omega)).mono fun e w' ⟨r, h1, h2, h3⟩ => ⟨r, h1, h3, by rw [hL]; exact own_from h2 hbr⟩
        | 6, ho, _ =>
          obtain rfl := (Option.some.inj ho)
          clear hty ho
          refine step_pure (.pointer (some ⟨w.heap.size, 3, none⟩)) (wanted_free rfl) ?_ (Ext.refl _) rfl
          simp [execOp, Act.eval, h3, go_sem]
        | 7, ho, _ =>
          have h50 : tmps[50]?.getD undef = .pointer (some ⟨w.heap.size, 3, none⟩) := hty 6 50 (by kernel_rfl) (by obtain rfl := (Option.some.inj ho); rfl)
          obtain rfl := (Option.some.inj ho)
          clear hty ho
          refine step_pure (.string t) (wanted_free rfl) ?_ (Ext.refl _) rfl
          simp [execOp, Act.eval, h50, hc3, go_sem]
        | (j + 8), _, hj => omega
      · intro tmps w7 hle hs hfr hty
        have h49 : w7.ownsRow w.heap.size 5 1 (tmps[49]?.getD undef) L.length (bvs L) := hty 5 49 (by kernel_rfl)
        have h51 : tmps[51]?.getD undef = .string t := hty 7 51 (by kernel_rfl)
        have hfe := nframe_eq [44, 45, 46, 47, 48, 49, 50, 51] hs hfr (by kernel_rfl)
        rw [hfe]
        clear hfe hfr hs hty
        simp only [List.foldl_cons, List.foldl_nil]
        rw [h51]
        generalize tmps[44]?.getD undef = x44
        generalize tmps[45]?.getD undef = x45
        generalize tmps[46]?.getD undef = x46
        generalize tmps[47]?.getD undef = x47
        generalize tmps[48]?.getD undef = x48
        generalize tmps[49]?.getD undef = x49 at *
        generalize tmps[50]?.getD undef = x50
        have H49 := hid h49
        have hb7 : w.heap.size ≤ w7.heap.size := Nat.le_trans hbase hle.size
        have HX7 := hid (HXX.out.trans hle)
        clear h49 h51 hle
        simp only [List.drop_succ_cons, List.drop_zero, List.setIfInBounds_toArray, List.set_cons_succ, List.set_cons_zero]
        refine wpList_append_str _ rfl (.tmp 49) (.tmp 51) _ _ rfl w.heap.size 5 Try.underlying25 Try.underlying9 infoByte x49 _ _ rfl H49.out t rfl (by omega) hb7 (fun v2 w8 ho2 hg2 => ?_)
        have HO2 := hid ho2
        have HX8 := hid (HX7.out.grown hg2 (own_block_ge H49.out))
        clear ho2 hg2
        go_wp2_with fail
        go_ret2
        have HO3 := HO2.out
        rw [← bvs_append, HBS.out] at HO3
        exact ⟨_, rfl, own_len HO3, HX8.out⟩

theorem rputv_any (A : Option Addr) (l : List UInt8) (c : Nat) (k : Nat) (n : Int) (b : Nat) (t : ByteArray) (w : World) (hl : Lies w A (bvs l)) (hlen : l.length ≤ 70368744177663) (hn0 : -9223372036854775808 ≤ n) (hn1 : n ≤ 9223372036854775807) (hb : b ≤ 18446744073709551615) :
    Calls Try.prog 11 #[.slice A l.length c, vv k n b t] w (Told2 w (putV l k n b t)) := by
  by_cases h : checkV k n b t = 0
  · have e : putV l k n b t = (l ++ bytesV k n b t, 0) := if_pos h
    rw [e]
    exact rputv_good A l c k n b t w hl hlen hn0 hn1 hb h
  · exact rputv_bad A l c k n b t w hb h
end Go.Proofs.Ytkblpbpmaoofgaa
