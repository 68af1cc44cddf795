/- hash.Key and the document's own, by their contracts. Conditions: the reach of a text, numbers within their kinds. -/
import Derived.Test.YtbgapkhcaideiaaBase
import Derived.Test.YtbgapkhcaideiaaHP1
import Derived.Test.YtbgapkhcaideiaaGVV7
import Derived.Test.YtbgapkhcaideiaaVR1
import Derived.BigQuiet
import Derived.Laws.IdiomStrings
namespace Go.Proofs.Ytbgapkhcaideiaa
open Go Go.RowKit

/-- the bytes of a text, in a row of their own -/
theorem text_bytes (w : World) (s : ByteArray) (hm : s.size ≤ maxLen) : ∃ v w', (convert 9 39 (.string s)).run Try.prog w = .ok v w' ∧ Ext w w' ∧ Bytes w' v s.data.toList := by
  refine ⟨_, _, run_bytes_of_string w _ _ _ s Try.underlying9 Try.underlying39 Try.underlying5, (Ext.drew w).then_alloc _, ?_⟩
  refine ⟨_, _, rfl, grownCap_ge _ _ _ _, grownCap_le_maxLen _ _ _ _ hm, ?_⟩
  have h := Lies.of_row (heap_alloc_new w.drew (.cells (bytesRow s (grownCap w s.size 0 5)) 5 ((bytesRow s (grownCap w s.size 0 5)).size, (bytesRow s (grownCap w s.size 0 5)).size + 1))) 0 s.size
  have e : ((bytesRow s (grownCap w s.size 0 5)).toList.drop 0).take s.size = bvs s.data.toList := by
    unfold bytesRow bvs
    rw [List.drop_zero, Array.toList_append, Array.toList_map]
    rw [List.take_append_of_le_length (by rw [List.length_map, size_toList]; exact Nat.le_refl _), List.take_of_length_le (by rw [List.length_map, size_toList]; exact Nat.le_refl _)]
    rfl
  rw [e] at h
  exact h

/-- a value's key -/
def keyH (p : Int) (k : Nat) (n : Int) (b : Nat) (t : ByteArray) : List UInt8 := if checkV k n b t = 0 then bareH p :: bytesV k n b t else []
theorem key_good {p : Int} {k : Nat} {n : Int} {b : Nat} {t : ByteArray} (h : checkV k n b t = 0) : keyH p k n b t = bareH p :: bytesV k n b t := if_pos h
theorem key_bad {p : Int} {k : Nat} {n : Int} {b : Nat} {t : ByteArray} (h : checkV k n b t ≠ 0) : keyH p k n b t = [] := if_neg h

/-- what the slots of the region hold -/
def keyG (x p : Value) (c : UInt8) (L : List UInt8) (E : Int) : Nat → Value → World → Prop
  | 0, v, _ => v = p
  | 1, v, _ => v = .string ⟨#[c]⟩
  | 2, v, w => Bytes w v [c]
  | 3, v, _ => v = x
  | 4, v, w => ∃ r, v = .tuple #[r, .int .i64 E] ∧ Bytes w r L
  | 5, v, w => ∃ r, v = .tuple #[r, .int .i64 E] ∧ Bytes w r L
  | 6, v, w => Bytes w v L
  | 7, v, _ => v = .int .i64 E
  | 8, v, w => Bytes w v L
  | 9, v, _ => v = .int .i64 E
  | _, _, _ => True
theorem keyG_st (x p : Value) (c : UInt8) (L : List UInt8) (E : Int) : ∀ i9 z9 x9 y9, keyG x p c L E i9 z9 x9 → Ext x9 y9 → keyG x p c L E i9 z9 y9 := by
  intro i9 z9 x9 y9 h e
  unfold keyG at *
  split at h <;> first | exact h | exact Bytes.ext h e | exact ⟨h.choose, h.choose_spec.1, h.choose_spec.2.ext e⟩

theorem hput_at (v : Value) (l : List UInt8) (k : Nat) (n : Int) (b : Nat) (t : ByteArray) (L : List UInt8) (E : Int) (hq : putV l k n b t = (L, E)) (w : World) (hv : Bytes w v l) (hlen : l.length ≤ 70368744177600) (hk : k ≤ 255) (hn0 : -9223372036854775808 ≤ n) (hn1 : n ≤ 9223372036854775807) (hb : b ≤ 18446744073709551615) (ht : t.size ≤ 9223372036854775807) :
    Calls Try.prog 24 #[v, vv k n b t] w fun e w' => ∃ r, e = .returned (.tuple #[r, .int .i64 E]) ∧ Ext w w' ∧ Bytes w' r L := by
  obtain ⟨A, c, rfl, hc, _, hl⟩ := hv
  refine (vput_any A l c k n b t w hl hc hlen hk hn0 hn1 hb ht).mono ?_
  rintro e w' ⟨r, rfl, ho, hx⟩
  rw [hq] at ho ⊢
  exact ⟨r, rfl, hx, Bytes.of_own ho⟩

set_option maxRecDepth 100000 in
set_option maxHeartbeats 2000000 in
theorem key_any (p : Int) (k : Nat) (n : Int) (b : Nat) (t : ByteArray) (w : World) (hp0 : -9223372036854775808 ≤ p) (hp1 : p ≤ 9223372036854775807) (hk : k ≤ 255) (hn0 : -9223372036854775808 ≤ n) (hn1 : n ≤ 9223372036854775807) (hb : b ≤ 18446744073709551615) (ht : t.size ≤ 9223372036854775807) :
    Calls Try.prog 14 #[.int .i64 p, .agg #[.int .u8 (k : Int), .int .i64 n, .int .u64 (b : Int), .string t]] w (Says w (.string ⟨(keyH p k n b t).toArray⟩)) := by
  obtain ⟨L, E, hq⟩ : ∃ L E, putV [bareH p] k n b t = (L, E) := ⟨_, _, rfl⟩
  have kb := fun W => bare_any p W hp0 hp1
  have kp := fun v W (hv : Bytes W v [bareH p]) => hput_at v [bareH p] k n b t L E hq W hv (by simp) hk hn0 hn1 hb ht
  have HE : Hid ((E = 0 → keyH p k n b t = L) ∧ (E ≠ 0 → keyH p k n b t = [])) := hid (by
    unfold putV at hq
    by_cases h : checkV k n b t = 0
    · rw [if_pos h] at hq
      simp only [Prod.mk.injEq] at hq
      rw [key_good h]
      exact ⟨fun _ => hq.1, fun h2 => absurd hq.2.symm h2⟩
    · rw [if_neg h] at hq
      simp only [Prod.mk.injEq] at hq
      rw [key_bad h]
      exact ⟨fun h2 => absurd (hq.2.trans h2) h, fun _ => rfl⟩)
  generalize keyH p k n b t = K at *
  generalize bareH p = c at *
  clear hq hp0 hp1 hk hn0 hn1 hb ht
  unfold vv at kp
  go_enter Try.func14, Try.ntmps14
  go_wp2_with fail
  refine wp_region_slots Ext (keyG (.agg #[.int .u8 (k : Int), .int .i64 n, .int .u64 (b : Int), .string t]) (.int .i64 p) c L E) (by kernel_rfl) Ext.trans Ext.refl (Ext.drew _) (keyG_st _ _ _ _ _) (by kernel_rfl) ?_ ?_
  · intro tmps wr hle hfr j o ho hty
    have h0 : tmps[0]?.getD undef = .int .i64 p := hfr 0 (by kernel_rfl)
    have h3 : tmps[3]?.getD undef = .pointer (some ⟨w.heap.size, 0, none⟩) := hfr 3 (by kernel_rfl)
    obtain ⟨⟨c0, c1, c2, c3⟩, _, _⟩ := box4 (hle.block (heap_alloc_new w _))
    clear hfr
    match j, ho with
    | 0, ho =>
      obtain rfl := (Option.some.inj ho)
      clear hty ho
      refine step_pure (.int .i64 p) (wanted_free rfl) ?_ (Ext.refl _) rfl
      simp [execOp, Act.eval, h0, go_sem]
    | 1, ho =>
      have h8 : tmps[8]?.getD undef = .int .i64 p := hty 0 8 rfl (by obtain rfl := (Option.some.inj ho); rfl)
      obtain rfl := (Option.some.inj ho)
      clear hty ho
      refine step_call 16 #[.int .i64 p] (wanted_free rfl) ?_ ?_
      · simp [execOp, Act.eval, h8, go_sem]
      · exact (kb _).mono fun e w' ⟨h1, h2⟩ => ⟨_, h1, h2, rfl⟩
    | 2, ho =>
      have h9 : tmps[9]?.getD undef = .string ⟨#[c]⟩ := hty 1 9 rfl (by obtain rfl := (Option.some.inj ho); rfl)
      obtain rfl := (Option.some.inj ho)
      clear hty ho
      obtain ⟨v', w', hr, hx, hb'⟩ := text_bytes wr ⟨#[c]⟩ (by show (1 : Nat) ≤ _; simp [maxLen])
      refine step_make v' w' (wanted_free rfl) ?_ hx hb'
      simp [execOp, Act.eval, h9, hr, go_sem]
    | 3, ho =>
      obtain rfl := (Option.some.inj ho)
      clear hty ho
      refine step_pure (.agg #[.int .u8 (k : Int), .int .i64 n, .int .u64 (b : Int), .string t]) (wanted_free rfl) ?_ (Ext.refl _) rfl
      simp [execOp, Act.eval, h3, c0, c1, c2, c3, go_sem]
    | 4, ho =>
      have h10 : Bytes wr (tmps[10]?.getD undef) [c] := hty 2 10 rfl (by obtain rfl := (Option.some.inj ho); rfl)
      have h11 : tmps[11]?.getD undef = .agg #[.int .u8 (k : Int), .int .i64 n, .int .u64 (b : Int), .string t] := hty 3 11 rfl (by obtain rfl := (Option.some.inj ho); rfl)
      obtain rfl := (Option.some.inj ho)
      clear hty ho
      refine step_call 24 #[tmps[10]?.getD undef, .agg #[.int .u8 (k : Int), .int .i64 n, .int .u64 (b : Int), .string t]] (wanted_free rfl) ?_ ?_
      · simp [execOp, Act.eval, h11, go_sem]
      · exact (kp _ _ h10).mono fun e w' ⟨r, h1, h2, h3⟩ => ⟨_, h1, h2, ⟨r, rfl, h3⟩⟩
    | 5, ho =>
      have h12 : ∃ r, tmps[12]?.getD undef = .tuple #[r, .int .i64 E] ∧ Bytes wr r L := hty 4 12 rfl (by obtain rfl := (Option.some.inj ho); rfl)
      obtain rfl := (Option.some.inj ho)
      clear hty ho
      obtain ⟨r, h12, hbr⟩ := h12
      refine step_pure (.tuple #[r, .int .i64 E]) (wanted_free rfl) ?_ (Ext.refl _) ⟨r, rfl, hbr⟩
      simp [execOp, Act.eval, h12, go_sem]
    | 6, ho =>
      have h7 : ∃ r, tmps[7]?.getD undef = .tuple #[r, .int .i64 E] ∧ Bytes wr r L := hty 5 7 rfl (by obtain rfl := (Option.some.inj ho); rfl)
      obtain rfl := (Option.some.inj ho)
      clear hty ho
      obtain ⟨r, h7, hbr⟩ := h7
      refine step_pure r (wanted_free rfl) ?_ (Ext.refl _) hbr
      simp [execOp, Act.eval, h7, go_sem]
    | 7, ho =>
      have h7 : ∃ r, tmps[7]?.getD undef = .tuple #[r, .int .i64 E] ∧ Bytes wr r L := hty 5 7 rfl (by obtain rfl := (Option.some.inj ho); rfl)
      obtain rfl := (Option.some.inj ho)
      clear hty ho
      obtain ⟨r, h7, hbr⟩ := h7
      refine step_pure (.int .i64 E) (wanted_free rfl) ?_ (Ext.refl _) rfl
      simp [execOp, Act.eval, h7, go_sem]
    | 8, ho =>
      have h13 : Bytes wr (tmps[13]?.getD undef) L := hty 6 13 rfl (by obtain rfl := (Option.some.inj ho); rfl)
      obtain rfl := (Option.some.inj ho)
      clear hty ho
      refine step_pure (tmps[13]?.getD undef) (wanted_free rfl) ?_ (Ext.refl _) h13
      simp [execOp, Act.eval, go_sem]
    | 9, ho =>
      have h14 : tmps[14]?.getD undef = .int .i64 E := hty 7 14 rfl (by obtain rfl := (Option.some.inj ho); rfl)
      obtain rfl := (Option.some.inj ho)
      clear hty ho
      refine step_pure (.int .i64 E) (wanted_free rfl) ?_ (Ext.refl _) rfl
      simp [execOp, Act.eval, h14, go_sem]
    | (j + 10), ho => exact absurd ho (by simp)
  · intro tmps w5 hle hs hfr hty
    have h5 : Bytes w5 (tmps[5]?.getD undef) L := hty 8 5 (by kernel_rfl)
    have h6 : tmps[6]?.getD undef = .int .i64 E := hty 9 6 (by kernel_rfl)
    have hfe := frame_eq [5, 6, 7, 8, 9, 10, 11, 12, 13, 14] hs hfr (by kernel_rfl)
    rw [hfe]
    clear hfe hfr hs hty
    simp only [List.foldl_cons, List.foldl_nil]
    rw [h6]
    generalize tmps[5]?.getD undef = x5 at *
    generalize tmps[7]?.getD undef = x7
    generalize tmps[8]?.getD undef = x8
    generalize tmps[9]?.getD undef = x9
    generalize tmps[10]?.getD undef = x10
    generalize tmps[11]?.getD undef = x11
    generalize tmps[12]?.getD undef = x12
    generalize tmps[13]?.getD undef = x13
    generalize tmps[14]?.getD undef = x14
    have HX := hid ((Ext.alloc w _).trans hle)
    have hcv := run_string_bytes (P := Try.prog) Try.underlying39 Try.underlying5 Try.underlying9 h5
    clear h5 h6 hle kb kp
    simp only [List.setIfInBounds_toArray, List.set_cons_succ, List.set_cons_zero]
    by_cases he : E = 0
    · have HK := hid (HE.out.1 he)
      subst he
      go_wp2_with fail
      go_ret
      exact ⟨by rw [HK.out]; rfl, HX.out⟩
    · have HK := hid (HE.out.2 he)
      have hne : (E != 0) = true := bne_iff_ne.2 he
      clear he
      go_wp2_with fail
      go_ret
      exact ⟨by rw [HK.out]; rfl, HX.out⟩

end Go.Proofs.Ytbgapkhcaideiaa
