/- telltalelaw08.HashApart answers true. Conditions: the reach of a text, numbers within their kinds. -/
import Derived.Test.YtbgapkhcaideiaaHAwk
import Derived.Test.YtbgapkhcaideiaaHSmall
import Derived.Test.YtbgapkhcaideiaaVAwk
import Derived.Test.YtbgapkhcaideiaaVBackM
namespace Go.Proofs.Ytbgapkhcaideiaa
open Go Go.RowKit

theorem bareH_small {p : Nat} (h : p ≤ 255) : bareH (p : Int) = UInt8.ofNat p := by
  unfold bareH
  have e : ((p : Int).emod 256).toNat = p := by
    have : (p : Int).emod 256 = (p : Int) % 256 := rfl
    rw [this]
    omega
  rw [e]
theorem ofNat_one {p q : Nat} (hp : p ≤ 255) (hq : q ≤ 255) (h : UInt8.ofNat p = UInt8.ofNat q) : p = q := by
  have h2 := congrArg UInt8.toNat h
  rw [UInt8.toNat_ofNat', UInt8.toNat_ofNat'] at h2
  omega
/-- keys of values that may be are the same just if the values are, and the patterns -/
theorem key_same {p q : Nat} {k : Nat} {n : Int} {b : Nat} {t : ByteArray} {l : Nat} {m : Int} {c : Nat} {u : ByteArray} (hp : p ≤ 255) (hq : q ≤ 255) (hc : checkV k n b t = 0) (hb : b ≤ 18446744073709551615) (hcc : c ≤ 18446744073709551615) :
    keyH p k n b t = keyH q l m c u ↔ (k = l ∧ n = m ∧ b = c ∧ t = u) ∧ p = q := by
  rw [key_good hc]
  by_cases hd : checkV l m c u = 0
  · rw [key_good hd]
    constructor
    · intro h
      have h1 := (List.cons.inj h).1
      rw [bareH_small hp, bareH_small hq] at h1
      exact ⟨bytes_same hc hd hb hcc (List.cons.inj h).2, ofNat_one hp hq h1⟩
    · rintro ⟨⟨rfl, rfl, rfl, rfl⟩, rfl⟩
      rfl
  · rw [key_bad hd]
    constructor
    · intro h; cases h
    · rintro ⟨⟨rfl, rfl, rfl, rfl⟩, rfl⟩
      exact absurd hc hd
theorem key_long {p : Int} {k : Nat} {n : Int} {b : Nat} {t : ByteArray} (hc : checkV k n b t = 0) : keyH p k n b t ≠ [bareH p] := by
  rw [key_good hc]
  intro h
  have h1 := (List.cons.inj h).2
  unfold bytesV at h1
  cases h1
theorem key_pat {p : Nat} {k : Nat} {n : Int} {b : Nat} {t : ByteArray} (hp : p ≤ 255) (hc : checkV k n b t = 0) : patH (⟨(keyH p k n b t).toArray⟩ : ByteArray).data.toList = (p : Int) := by
  rw [key_good hc]
  show ((bareH (p : Int)).toNat : Int) = p
  rw [bare_nat]
  omega
theorem bare_pat {p : Nat} (hp : p ≤ 255) : patH (⟨#[bareH (p : Int)]⟩ : ByteArray).data.toList = (p : Int) := by
  show ((bareH (p : Int)).toNat : Int) = p
  rw [bare_nat]
  omega
theorem ba_same {x y : List UInt8} : (⟨x.toArray⟩ : ByteArray) = ⟨y.toArray⟩ ↔ x = y := by
  constructor
  · intro h
    have h2 := congrArg (fun z : ByteArray => z.data.toList) h
    simpa using h2
  · rintro rfl; rfl
theorem text_eq (x y : ByteArray) : (x.toList == y.toList) = decide (x = y) := by
  rw [Bool.eq_iff_iff, beq_iff_eq, decide_eq_true_iff]
  exact list_ba x y
theorem blocks2h (w : World) (o1 o2 : Obj) : (((w.alloc o1).alloc o2).drew).heap[w.heap.size]? = some o1 ∧ (((w.alloc o1).alloc o2).drew).heap[w.heap.size + 1]? = some o2 ∧ Ext w ((w.alloc o1).alloc o2).drew := by
  have h1 := ((Ext.alloc (w.alloc o1) o2).then_drew).block (heap_alloc_new w o1)
  have h2 := (Ext.drew ((w.alloc o1).alloc o2)).block (heap_alloc2_new w o1 o2)
  exact ⟨h1, h2, (((Ext.alloc w o1).then_alloc o2).then_drew)⟩
theorem key_size {p : Int} {k : Nat} {n : Int} {b : Nat} {t : ByteArray} : (⟨(keyH p k n b t).toArray⟩ : ByteArray).size ≤ 9223372036854775807 := by
  by_cases hc : checkV k n b t = 0
  · rw [key_good hc]
    have := bytes_len hc
    show (bareH p :: bytesV k n b t).toArray.size ≤ _
    rw [List.size_toArray, List.length_cons]
    omega
  · rw [key_bad hc]
    decide

/-- what the slots of the region hold -/
def hapart4G (p q : Nat) (k : Nat) (n : Int) (b : Nat) (t : ByteArray) (l : Nat) (m : Int) (c : Nat) (u : ByteArray) (X Y : ByteArray) (g3 _g7 _g8 : Nat) : Nat → Value → World → Prop
  | 0, v, _ => v = .pointer (some ⟨g3, 0, none⟩)
  | 1, v, _ => v = .int .u8 (p : Int)
  | 2, v, _ => v = .int .i64 (p : Int)
  | 3, v, _ => v = .agg #[.int .u8 (k : Int), .int .i64 n, .int .u64 (b : Int), .string t]
  | 4, v, _ => v = .string X
  | 5, v, _ => v = .pointer (some ⟨g3, 1, none⟩)
  | 6, v, _ => v = .int .u8 (q : Int)
  | 7, v, _ => v = .int .i64 (q : Int)
  | 8, v, _ => v = .agg #[.int .u8 (l : Int), .int .i64 m, .int .u64 (c : Int), .string u]
  | 9, v, _ => v = .string Y
  | 10, v, _ => v = .string X
  | 11, v, _ => v = .string Y
  | _, _, _ => True
theorem hapart4G_st (p q : Nat) (k : Nat) (n : Int) (b : Nat) (t : ByteArray) (l : Nat) (m : Int) (c : Nat) (u : ByteArray) (X Y : ByteArray) (g3 g7 g8 : Nat) : ∀ i9 z9 x9 y9, hapart4G p q k n b t l m c u X Y g3 g7 g8 i9 z9 x9 → Ext x9 y9 → hapart4G p q k n b t l m c u X Y g3 g7 g8 i9 z9 y9 := by
  intro i9 z9 x9 y9 h e
  unfold hapart4G at *
  split at h <;> first | exact h | trivial

/-- what the slots of the region hold -/
def hapart7G (p q : Nat) (k : Nat) (n : Int) (b : Nat) (t : ByteArray) (l : Nat) (m : Int) (c : Nat) (u : ByteArray) (X Y Z1 Z2 : ByteArray) (g3 : Nat) (S P : Bool) : Nat → Value → World → Prop
  | 0, v, _ => v = .string X
  | 1, v, _ => v = .string Y
  | 2, v, _ => v = .bool (S && P)
  | 3, v, _ => v = .agg #[.int .u8 (k : Int), .int .i64 n, .int .u64 (b : Int), .string t]
  | 4, v, _ => v = .agg #[.int .u8 (l : Int), .int .i64 m, .int .u64 (c : Int), .string u]
  | 5, v, _ => v = .bool S
  | 6, v, _ => v = .bool S
  | 7, v, _ => v = cond S (.pointer (some ⟨g3, 0, none⟩)) undef
  | 8, v, _ => v = cond S (.int .u8 (p : Int)) undef
  | 9, v, _ => v = cond S (.pointer (some ⟨g3, 1, none⟩)) undef
  | 10, v, _ => v = cond S (.int .u8 (q : Int)) undef
  | 11, v, _ => v = cond S (.bool P) undef
  | 12, v, _ => v = .bool (S && P)
  | 13, v, _ => v = .bool true
  | 14, v, _ => v = .bool true
  | 15, v, _ => v = .string X
  | 16, v, _ => v = .int .i64 (p : Int)
  | 17, v, _ => v = .pointer (some ⟨g3, 0, none⟩)
  | 18, v, _ => v = .int .u8 (p : Int)
  | 19, v, _ => v = .int .i64 (p : Int)
  | 20, v, _ => v = .bool true
  | 21, v, _ => v = .bool true
  | 22, v, _ => v = .bool true
  | 23, v, _ => v = .string X
  | 24, v, _ => v = .pointer (some ⟨g3, 0, none⟩)
  | 25, v, _ => v = .int .u8 (p : Int)
  | 26, v, _ => v = .int .i64 (p : Int)
  | 27, v, _ => v = .string Z1
  | 28, v, _ => v = .bool true
  | 29, v, _ => v = .bool true
  | 30, v, _ => v = .bool true
  | 31, v, _ => v = .pointer (some ⟨g3, 1, none⟩)
  | 32, v, _ => v = .int .u8 (q : Int)
  | 33, v, _ => v = .int .i64 (q : Int)
  | 34, v, _ => v = .string Z2
  | 35, v, _ => v = .int .i64 (q : Int)
  | 36, v, _ => v = .pointer (some ⟨g3, 1, none⟩)
  | 37, v, _ => v = .int .u8 (q : Int)
  | 38, v, _ => v = .int .i64 (q : Int)
  | 39, v, _ => v = .bool true
  | 40, v, _ => v = .bool true
  | 41, v, _ => v = .bool true
  | 42, v, _ => v = .bool true
  | 43, v, _ => v = .bool true
  | 44, v, _ => v = .bool true
  | _, _, _ => True
theorem hapart7G_st (p q : Nat) (k : Nat) (n : Int) (b : Nat) (t : ByteArray) (l : Nat) (m : Int) (c : Nat) (u : ByteArray) (X Y Z1 Z2 : ByteArray) (g3 : Nat) (S P : Bool) : ∀ i9 z9 x9 y9, hapart7G p q k n b t l m c u X Y Z1 Z2 g3 S P i9 z9 x9 → Ext x9 y9 → hapart7G p q k n b t l m c u X Y Z1 Z2 g3 S P i9 z9 y9 := by
  intro i9 z9 x9 y9 h e
  unfold hapart7G at *
  split at h <;> first | exact h | trivial

set_option maxRecDepth 100000 in
set_option maxHeartbeats 4000000 in
theorem hapart_any (p q : Nat) (k : Nat) (n : Int) (b : Nat) (t : ByteArray) (l : Nat) (m : Int) (c : Nat) (u : ByteArray) (w : World) (hp : p ≤ 255) (hq : q ≤ 255)
    (hk : k ≤ 255) (hn0 : -9223372036854775808 ≤ n) (hn1 : n ≤ 9223372036854775807) (hb : b ≤ 18446744073709551615) (ht : t.size ≤ 9223372036854775807)
    (hkl : l ≤ 255) (hm0 : -9223372036854775808 ≤ m) (hm1 : m ≤ 9223372036854775807) (hc : c ≤ 18446744073709551615) (hu : u.size ≤ 9223372036854775807) :
    Calls Try.prog 6 #[.agg #[.int .u8 (p : Int), .int .u8 (q : Int)], .agg #[.int .u8 (k : Int), .int .i64 n, .int .u64 (b : Int), .string t], .agg #[.int .u8 (l : Int), .int .i64 m, .int .u64 (c : Int), .string u]] w (Says w (.bool true)) := by
  have s1 := fun W => hsmall_any k n b t W ht
  have s2 := fun W => hsmall_any l m c u W hu
  have k1 := fun W => key_any (p : Int) k n b t W (by omega) (by omega) hk hn0 hn1 hb ht
  have k2 := fun W => key_any (q : Int) l m c u W (by omega) (by omega) hkl hm0 hm1 hc hu
  have kc := fun W => vcheck_free k n b t W hb ht
  have k4 := fun W => bare_any (p : Int) W (by omega) (by omega)
  have k5 := fun W => bare_any (q : Int) W (by omega) (by omega)
  have k6 := fun W => pattern_any ⟨#[bareH (q : Int)]⟩ W (by show (1 : Nat) ≤ _; omega)
  rw [bare_pat hq] at k6
  have k3 := fun W => pattern_any ⟨(keyH p k n b t).toArray⟩ W key_size
  have HEQ : Hid (checkV k n b t = 0 → (∀ W, Calls Try.prog 18 #[.string ⟨(keyH p k n b t).toArray⟩] W (Just W (.int .i64 (p : Int)))) ∧ ((⟨(keyH p k n b t).toArray⟩ : ByteArray).toList == (⟨(keyH q l m c u).toArray⟩ : ByteArray).toList) = (eqV k n b t l m c u && decide (p = q)) ∧ ((⟨(keyH p k n b t).toArray⟩ : ByteArray).toList == (⟨#[bareH (p : Int)]⟩ : ByteArray).toList) = false) := hid (fun h => by
    refine ⟨fun W => ?_, ?_, ?_⟩
    · rw [key_pat hp h] at k3
      exact k3 W
    · rw [text_eq]
      unfold eqV
      rw [Bool.eq_iff_iff, Bool.and_eq_true, decide_eq_true_iff, decide_eq_true_iff, decide_eq_true_iff, ba_same]
      exact key_same hp hq h hb hc
    · rw [text_eq]
      exact decide_eq_false (fun h2 => key_long (p := (p : Int)) h (ba_same (x := keyH p k n b t) (y := [bareH (p : Int)]) |>.1 h2)))
  have HBAD : Hid (checkV k n b t ≠ 0 → (⟨(keyH p k n b t).toArray⟩ : ByteArray) = ⟨#[]⟩) := hid (fun h => by rw [key_bad h])
  unfold vv at kc
  clear k3 hk hn0 hn1 hb ht hkl hm0 hm1 hc hu
  generalize (⟨(keyH p k n b t).toArray⟩ : ByteArray) = X at *
  generalize (⟨(keyH q l m c u).toArray⟩ : ByteArray) = Y at *
  generalize (⟨#[bareH (p : Int)]⟩ : ByteArray) = Z1 at *
  generalize (⟨#[bareH (q : Int)]⟩ : ByteArray) = Z2 at *
  generalize checkV k n b t = E at *
  have hvw := run_eq_ref k n b t l m c u
  have hvwg := fun x y => run_guard_ref .eql x y k n b t l m c u
  unfold vv at hvw hvwg
  generalize eqV k n b t l m c u = S at *
  have hwp : IntKind.i64.wrap (p : Int) = (p : Int) := by rw [IntKind.wrap_i64]; omega
  have hwq : IntKind.i64.wrap (q : Int) = (q : Int) := by rw [IntKind.wrap_i64]; omega
  go_enter Try.func6, Try.ntmps6
  go_wp2_with fail
  refine (s1 _).mono ?_
  rintro e w1 ⟨rfl, hx⟩
  have HN := hid (hx.block (((Ext.alloc (w.alloc _) _).then_alloc _).block (heap_alloc_new w _)))
  have HV := hid (hx.block ((Ext.alloc _ _).block (heap_alloc2_new w _ _)))
  have HW := hx.block (heap_alloc_new ((w.alloc (.cells #[.int .u8 (p : Int), .int .u8 (q : Int)] 42)).alloc (.cells #[.int .u8 (k : Int), .int .i64 n, .int .u64 (b : Int), .string t] 30)) (.cells #[.int .u8 (l : Int), .int .i64 m, .int .u64 (c : Int), .string u] 30))
  have hsz : ((w.alloc (.cells #[.int .u8 (p : Int), .int .u8 (q : Int)] 42)).alloc (.cells #[.int .u8 (k : Int), .int .i64 n, .int .u64 (b : Int), .string t] 30)).heap.size = w.heap.size + 1 + 1 := by simp
  rw [hsz] at HW
  replace HW := hid HW
  have HX := hid ((((Ext.alloc w _).then_alloc _).then_alloc _).trans hx)
  clear hx s1 hsz
  obtain ⟨⟨n0, n1⟩, _, nz⟩ := boxH2 HN.out
  obtain ⟨⟨a0, a1, a2, a3⟩, _, az⟩ := box4 HV.out
  obtain ⟨⟨b0, b1, b2, b3⟩, _, bz⟩ := box4 HW.out
  by_cases h1 : 100 < t.size
  · have h1' : 0 < max 0 ((t.size : Int) - 100) := by omega
    generalize max 0 ((t.size : Int) - 100) = S1 at *
    go_wp2_with fail
    refine (hawake_any _).mono ?_
    rintro e w9 ⟨rfl, hx⟩
    go_wp2_with fail
    go_ret
    exact ⟨rfl, HX.out.trans hx⟩
  · have h1' : max 0 ((t.size : Int) - 100) = 0 := by omega
    rw [h1'] at *
    clear h1 h1'
    go_wp2_with fail
    refine (s2 _).mono ?_
    rintro e w2 ⟨rfl, hx⟩
    replace HN := hid (hx.block HN.out)
    replace HV := hid (hx.block HV.out)
    replace HW := hid (hx.block HW.out)
    replace HX := hid (HX.out.trans hx)
    clear hx n0 n1 nz a0 a1 a2 a3 az b0 b1 b2 b3 bz s2
    obtain ⟨⟨n0, n1⟩, _, nz⟩ := boxH2 HN.out
    obtain ⟨⟨a0, a1, a2, a3⟩, _, az⟩ := box4 HV.out
    obtain ⟨⟨b0, b1, b2, b3⟩, _, bz⟩ := box4 HW.out
    by_cases h2 : 100 < u.size
    · have h2' : 0 < max 0 ((u.size : Int) - 100) := by omega
      generalize max 0 ((u.size : Int) - 100) = S2 at *
      go_wp2_with fail
      refine (hawake_any _).mono ?_
      rintro e w9 ⟨rfl, hx⟩
      go_wp2_with fail
      go_ret
      exact ⟨rfl, HX.out.trans hx⟩
    · have h2' : max 0 ((u.size : Int) - 100) = 0 := by omega
      rw [h2'] at *
      clear h2 h2'
      have hd0 : ¬ w.heap.size + 1 = w2.heap.size := by omega
      have hd1 : ¬ w.heap.size + 1 = w2.heap.size + 1 := by omega
      have hd2 : ¬ w.heap.size + 1 + 1 = w2.heap.size := by omega
      have hd3 : ¬ w.heap.size + 1 + 1 = w2.heap.size + 1 := by omega
      have hz1 : w.heap.size + 1 < w2.heap.size + 1 := by omega
      have hz2 : w.heap.size + 1 < w2.heap.size + 1 + 1 := by omega
      have hz3 : w.heap.size + 1 + 1 < w2.heap.size + 1 := by omega
      have hz4 : w.heap.size + 1 + 1 < w2.heap.size + 1 + 1 := by omega
      have hz5 : w.heap.size + 1 < w2.heap.size + 2 := by omega
      have hz6 : w.heap.size + 1 + 1 < w2.heap.size + 2 := by omega
      go_upto_region 3 with fail
      go_cut [7, 8] from 20 to 84 (fun x y wx => ∃ g7 g8, x = .pointer (some ⟨g7, 0, none⟩) ∧ y = .pointer (some ⟨g8, 0, none⟩) ∧ Hid (wx.heap[g7]? = some (.cells #[.int .u8 (k : Int), .int .i64 n, .int .u64 (b : Int), .string t] 33 (0, 0))) ∧ Hid (wx.heap[g8]? = some (.cells #[.int .u8 (l : Int), .int .i64 m, .int .u64 (c : Int), .string u] 33 (0, 0))) ∧ Ext w2 wx)
      case first =>
        go_region
        all_goals (go_wp2_with fail)
        all_goals go_meet
        all_goals
          obtain ⟨q1, q2, q3⟩ := blocks2h w2 _ _
          exact ⟨_, _, rfl, rfl, (by first | exact q1 | exact q2), (by first | exact q1 | exact q2), q3⟩
      case rest =>
        obtain ⟨g7, g8, rfl, rfl, H7, H8, hx⟩ := hcut
        replace HN := hid (hx.block HN.out)
        replace HV := hid (hx.block HV.out)
        replace HW := hid (hx.block HW.out)
        replace HX := hid (HX.out.trans hx)
        clear hx n0 n1 nz a0 a1 a2 a3 az b0 b1 b2 b3 bz hd0 hd1 hd2 hd3 hz1 hz2 hz3 hz4 hz5 hz6
        obtain ⟨g3, hg3⟩ : ∃ g, w.heap.size = g := ⟨_, rfl⟩
        rw [hg3] at HN HV HW ⊢
        clear hg3
        go_wp2_with fail
        refine wp_region_slots Ext (hapart4G p q k n b t l m c u X Y g3 g7 g8) (by kernel_rfl) Ext.trans Ext.refl (Ext.drew _) (hapart4G_st _ _ _ _ _ _ _ _ _ _ _ _ _ _ _) (by kernel_rfl) ?_ ?_
        · intro tmps wr hle hfr j o ho hty
          have H3 := HN
          have h3 : tmps[3]?.getD undef = .pointer (some ⟨g3, 0, none⟩) := hfr 3 (by kernel_rfl)
          have h7 : tmps[7]?.getD undef = .pointer (some ⟨g7, 0, none⟩) := hfr 7 (by kernel_rfl)
          have h8 : tmps[8]?.getD undef = .pointer (some ⟨g8, 0, none⟩) := hfr 8 (by kernel_rfl)
          obtain ⟨⟨a0, a1⟩, _, _⟩ := boxH2 (hle.block H3.out)
          obtain ⟨⟨c0, c1, c2, c3⟩, _, _⟩ := box4 (hle.block H7.out)
          obtain ⟨⟨d0, d1, d2, d3⟩, _, _⟩ := box4 (hle.block H8.out)
          clear hfr
          match j, ho with
          | 0, ho =>
            obtain rfl := (Option.some.inj ho)
            clear hty ho
            refine step_pure (.pointer (some ⟨g3, 0, none⟩)) (wanted_free rfl) ?_ (Ext.refl _) rfl
            simp [execOp, Act.eval, h3, go_sem]
          | 1, ho =>
            have h22 : tmps[22]?.getD undef = .pointer (some ⟨g3, 0, none⟩) := hty 0 22 rfl (by obtain rfl := (Option.some.inj ho); rfl)
            obtain rfl := (Option.some.inj ho)
            clear hty ho
            refine step_pure (.int .u8 (p : Int)) (wanted_free rfl) ?_ (Ext.refl _) rfl
            simp [execOp, Act.eval, h22, a0, go_sem]
          | 2, ho =>
            have h23 : tmps[23]?.getD undef = .int .u8 (p : Int) := hty 1 23 rfl (by obtain rfl := (Option.some.inj ho); rfl)
            obtain rfl := (Option.some.inj ho)
            clear hty ho
            refine step_pure (.int .i64 (p : Int)) (wanted_free rfl) ?_ (Ext.refl _) rfl
            simp [execOp, Act.eval, h23, hwp, go_sem]
          | 3, ho =>
            obtain rfl := (Option.some.inj ho)
            clear hty ho
            refine step_pure (.agg #[.int .u8 (k : Int), .int .i64 n, .int .u64 (b : Int), .string t]) (wanted_free rfl) ?_ (Ext.refl _) rfl
            simp [execOp, Act.eval, h7, c0, c1, c2, c3, go_sem]
          | 4, ho =>
            have h24 : tmps[24]?.getD undef = .int .i64 (p : Int) := hty 2 24 rfl (by obtain rfl := (Option.some.inj ho); rfl)
            have h25 : tmps[25]?.getD undef = .agg #[.int .u8 (k : Int), .int .i64 n, .int .u64 (b : Int), .string t] := hty 3 25 rfl (by obtain rfl := (Option.some.inj ho); rfl)
            obtain rfl := (Option.some.inj ho)
            clear hty ho
            refine step_call 14 #[.int .i64 (p : Int), .agg #[.int .u8 (k : Int), .int .i64 n, .int .u64 (b : Int), .string t]] (wanted_free rfl) ?_ ?_
            · simp [execOp, Act.eval, h24, h25, go_sem]
            · exact (k1 _).mono fun e w' ⟨h1, h2⟩ => ⟨_, h1, h2, rfl⟩
          | 5, ho =>
            obtain rfl := (Option.some.inj ho)
            clear hty ho
            refine step_pure (.pointer (some ⟨g3, 1, none⟩)) (wanted_free rfl) ?_ (Ext.refl _) rfl
            simp [execOp, Act.eval, h3, go_sem]
          | 6, ho =>
            have h27 : tmps[27]?.getD undef = .pointer (some ⟨g3, 1, none⟩) := hty 5 27 rfl (by obtain rfl := (Option.some.inj ho); rfl)
            obtain rfl := (Option.some.inj ho)
            clear hty ho
            refine step_pure (.int .u8 (q : Int)) (wanted_free rfl) ?_ (Ext.refl _) rfl
            simp [execOp, Act.eval, h27, a1, go_sem]
          | 7, ho =>
            have h28 : tmps[28]?.getD undef = .int .u8 (q : Int) := hty 6 28 rfl (by obtain rfl := (Option.some.inj ho); rfl)
            obtain rfl := (Option.some.inj ho)
            clear hty ho
            refine step_pure (.int .i64 (q : Int)) (wanted_free rfl) ?_ (Ext.refl _) rfl
            simp [execOp, Act.eval, h28, hwq, go_sem]
          | 8, ho =>
            obtain rfl := (Option.some.inj ho)
            clear hty ho
            refine step_pure (.agg #[.int .u8 (l : Int), .int .i64 m, .int .u64 (c : Int), .string u]) (wanted_free rfl) ?_ (Ext.refl _) rfl
            simp [execOp, Act.eval, h8, d0, d1, d2, d3, go_sem]
          | 9, ho =>
            have h29 : tmps[29]?.getD undef = .int .i64 (q : Int) := hty 7 29 rfl (by obtain rfl := (Option.some.inj ho); rfl)
            have h30 : tmps[30]?.getD undef = .agg #[.int .u8 (l : Int), .int .i64 m, .int .u64 (c : Int), .string u] := hty 8 30 rfl (by obtain rfl := (Option.some.inj ho); rfl)
            obtain rfl := (Option.some.inj ho)
            clear hty ho
            refine step_call 14 #[.int .i64 (q : Int), .agg #[.int .u8 (l : Int), .int .i64 m, .int .u64 (c : Int), .string u]] (wanted_free rfl) ?_ ?_
            · simp [execOp, Act.eval, h29, h30, go_sem]
            · exact (k2 _).mono fun e w' ⟨h1, h2⟩ => ⟨_, h1, h2, rfl⟩
          | 10, ho =>
            have h26 : tmps[26]?.getD undef = .string X := hty 4 26 rfl (by obtain rfl := (Option.some.inj ho); rfl)
            obtain rfl := (Option.some.inj ho)
            clear hty ho
            refine step_pure (.string X) (wanted_free rfl) ?_ (Ext.refl _) rfl
            simp [execOp, Act.eval, h26, go_sem]
          | 11, ho =>
            have h31 : tmps[31]?.getD undef = .string Y := hty 9 31 rfl (by obtain rfl := (Option.some.inj ho); rfl)
            obtain rfl := (Option.some.inj ho)
            clear hty ho
            refine step_pure (.string Y) (wanted_free rfl) ?_ (Ext.refl _) rfl
            simp [execOp, Act.eval, h31, go_sem]
          | (j + 12), ho => exact absurd ho (by simp)
        · intro tmps w3 hle hs hfr hty
          have h9 : tmps[9]?.getD undef = .string X := hty 10 9 (by kernel_rfl)
          have h10 : tmps[10]?.getD undef = .string Y := hty 11 10 (by kernel_rfl)
          have hfe := frame_eq [9, 10, 22, 23, 24, 25, 26, 27, 28, 29, 30, 31] hs hfr (by kernel_rfl)
          rw [hfe]
          clear hfe hfr hs hty
          simp only [List.foldl_cons, List.foldl_nil]
          rw [h9, h10]
          generalize tmps[22]?.getD undef = x22
          generalize tmps[23]?.getD undef = x23
          generalize tmps[24]?.getD undef = x24
          generalize tmps[25]?.getD undef = x25
          generalize tmps[26]?.getD undef = x26
          generalize tmps[27]?.getD undef = x27
          generalize tmps[28]?.getD undef = x28
          generalize tmps[29]?.getD undef = x29
          generalize tmps[30]?.getD undef = x30
          generalize tmps[31]?.getD undef = x31
          replace HN := hid (hle.block HN.out)
          replace HV := hid (hle.block HV.out)
          replace HW := hid (hle.block HW.out)
          replace H7 := hid (hle.block H7.out)
          replace HX := hid (HX.out.trans hle)
          clear h9 h10 hle k1 k2
          obtain ⟨⟨a0, a1, a2, a3⟩, _, az⟩ := box4 H7.out
          simp only [List.setIfInBounds_toArray, List.set_cons_succ, List.set_cons_zero]
          go_wp2_with fail
          refine (kc _).mono ?_
          rintro e w4 ⟨rfl, hx⟩
          replace HN := hid (hx.block HN.out)
          replace HV := hid (hx.block HV.out)
          replace HW := hid (hx.block HW.out)
          replace HX := hid (HX.out.trans hx)
          clear hx kc a0 a1 a2 a3 az H7 H8
          by_cases hE : E = 0
          · subst hE
            obtain ⟨k3, hXY, hXZ⟩ := HEQ.out rfl
            have hpq : ((p : Int) == (q : Int)) = decide (p = q) := by
              rw [Bool.eq_iff_iff, beq_iff_eq, decide_eq_true_iff]
              omega
            generalize decide (p = q) = P at *
            clear HEQ HBAD
            go_wp2_with fail
            refine wp_region_slots Ext (hapart7G p q k n b t l m c u X Y Z1 Z2 g3 S P) (by kernel_rfl) Ext.trans Ext.refl (Ext.drew _) (hapart7G_st _ _ _ _ _ _ _ _ _ _ _ _ _ _ _ _ _) (by kernel_rfl) ?_ ?_
            · intro tmps wr hle hfr j o ho hty
              have H3 := HN
              have H4 := HV
              have H5 := HW
              have h3 : tmps[3]?.getD undef = .pointer (some ⟨g3, 0, none⟩) := hfr 3 (by kernel_rfl)
              have h4 : tmps[4]?.getD undef = .pointer (some ⟨g3 + 1, 0, none⟩) := hfr 4 (by kernel_rfl)
              have h5 : tmps[5]?.getD undef = .pointer (some ⟨g3 + 1 + 1, 0, none⟩) := hfr 5 (by kernel_rfl)
              have h9 : tmps[9]?.getD undef = .string X := hfr 9 (by kernel_rfl)
              have h10 : tmps[10]?.getD undef = .string Y := hfr 10 (by kernel_rfl)
              obtain ⟨⟨a0, a1⟩, _, _⟩ := boxH2 (hle.block H3.out)
              obtain ⟨⟨c0, c1, c2, c3⟩, _, _⟩ := box4 (hle.block H4.out)
              obtain ⟨⟨d0, d1, d2, d3⟩, _, _⟩ := box4 (hle.block H5.out)
              clear hfr
              match j, ho with
              | 0, ho =>
                obtain rfl := (Option.some.inj ho)
                clear hty ho
                refine step_pure (.string X) (wanted_free rfl) ?_ (Ext.refl _) rfl
                simp [execOp, Act.eval, h9, go_sem]
              | 1, ho =>
                obtain rfl := (Option.some.inj ho)
                clear hty ho
                refine step_pure (.string Y) (wanted_free rfl) ?_ (Ext.refl _) rfl
                simp [execOp, Act.eval, h10, go_sem]
              | 2, ho =>
                have h40 : tmps[40]?.getD undef = .string X := hty 0 40 rfl (by obtain rfl := (Option.some.inj ho); rfl)
                have h41 : tmps[41]?.getD undef = .string Y := hty 1 41 rfl (by obtain rfl := (Option.some.inj ho); rfl)
                obtain rfl := (Option.some.inj ho)
                clear hty ho
                refine step_pure (.bool (S && P)) (wanted_free rfl) ?_ (Ext.refl _) rfl
                simp [execOp, Act.eval, h40, h41, hXY, go_sem]
              | 3, ho =>
                obtain rfl := (Option.some.inj ho)
                clear hty ho
                refine step_pure (.agg #[.int .u8 (k : Int), .int .i64 n, .int .u64 (b : Int), .string t]) (wanted_free rfl) ?_ (Ext.refl _) rfl
                simp [execOp, Act.eval, h4, c0, c1, c2, c3, go_sem]
              | 4, ho =>
                obtain rfl := (Option.some.inj ho)
                clear hty ho
                refine step_pure (.agg #[.int .u8 (l : Int), .int .i64 m, .int .u64 (c : Int), .string u]) (wanted_free rfl) ?_ (Ext.refl _) rfl
                simp [execOp, Act.eval, h5, d0, d1, d2, d3, go_sem]
              | 5, ho =>
                have h43 : tmps[43]?.getD undef = .agg #[.int .u8 (k : Int), .int .i64 n, .int .u64 (b : Int), .string t] := hty 3 43 rfl (by obtain rfl := (Option.some.inj ho); rfl)
                have h44 : tmps[44]?.getD undef = .agg #[.int .u8 (l : Int), .int .i64 m, .int .u64 (c : Int), .string u] := hty 4 44 rfl (by obtain rfl := (Option.some.inj ho); rfl)
                obtain rfl := (Option.some.inj ho)
                clear hty ho
                refine step_pure (.bool S) (wanted_free rfl) ?_ (Ext.refl _) rfl
                simp [execOp, Act.eval, h43, h44, hvw, hvwg, go_sem]
              | 6, ho =>
                have h45 : tmps[45]?.getD undef = .bool S := hty 5 45 rfl (by obtain rfl := (Option.some.inj ho); rfl)
                obtain rfl := (Option.some.inj ho)
                clear hty ho
                refine step_pure (.bool S) (wanted_free rfl) ?_ (Ext.refl _) rfl
                simp [execOp, Act.eval, h45, go_sem]
              | 7, ho =>
                have h46 : tmps[46]?.getD undef = .bool S := hty 6 46 rfl (by obtain rfl := (Option.some.inj ho); rfl)
                obtain rfl := (Option.some.inj ho)
                clear hty ho
                cases S
                case false => exact step_skip (unwanted_guard rfl rfl h46 (by decide)) rfl
                case true =>
                  refine step_pure (.pointer (some ⟨g3, 0, none⟩)) (wanted_guard rfl rfl h46) ?_ (Ext.refl _) rfl
                  simp [execOp, Act.eval, h3, go_sem]
              | 8, ho =>
                have h47 : tmps[47]?.getD undef = cond S (.pointer (some ⟨g3, 0, none⟩)) undef := hty 7 47 rfl (by obtain rfl := (Option.some.inj ho); rfl)
                have h46 : tmps[46]?.getD undef = .bool S := hty 6 46 rfl (by obtain rfl := (Option.some.inj ho); rfl)
                obtain rfl := (Option.some.inj ho)
                clear hty ho
                cases S
                case false => exact step_skip (unwanted_guard rfl rfl h46 (by decide)) rfl
                case true =>
                  refine step_pure (.int .u8 (p : Int)) (wanted_guard rfl rfl h46) ?_ (Ext.refl _) rfl
                  simp [execOp, Act.eval, h47, a0, go_sem]
              | 9, ho =>
                have h46 : tmps[46]?.getD undef = .bool S := hty 6 46 rfl (by obtain rfl := (Option.some.inj ho); rfl)
                obtain rfl := (Option.some.inj ho)
                clear hty ho
                cases S
                case false => exact step_skip (unwanted_guard rfl rfl h46 (by decide)) rfl
                case true =>
                  refine step_pure (.pointer (some ⟨g3, 1, none⟩)) (wanted_guard rfl rfl h46) ?_ (Ext.refl _) rfl
                  simp [execOp, Act.eval, h3, go_sem]
              | 10, ho =>
                have h49 : tmps[49]?.getD undef = cond S (.pointer (some ⟨g3, 1, none⟩)) undef := hty 9 49 rfl (by obtain rfl := (Option.some.inj ho); rfl)
                have h46 : tmps[46]?.getD undef = .bool S := hty 6 46 rfl (by obtain rfl := (Option.some.inj ho); rfl)
                obtain rfl := (Option.some.inj ho)
                clear hty ho
                cases S
                case false => exact step_skip (unwanted_guard rfl rfl h46 (by decide)) rfl
                case true =>
                  refine step_pure (.int .u8 (q : Int)) (wanted_guard rfl rfl h46) ?_ (Ext.refl _) rfl
                  simp [execOp, Act.eval, h49, a1, go_sem]
              | 11, ho =>
                have h48 : tmps[48]?.getD undef = cond S (.int .u8 (p : Int)) undef := hty 8 48 rfl (by obtain rfl := (Option.some.inj ho); rfl)
                have h50 : tmps[50]?.getD undef = cond S (.int .u8 (q : Int)) undef := hty 10 50 rfl (by obtain rfl := (Option.some.inj ho); rfl)
                have h46 : tmps[46]?.getD undef = .bool S := hty 6 46 rfl (by obtain rfl := (Option.some.inj ho); rfl)
                obtain rfl := (Option.some.inj ho)
                clear hty ho
                cases S
                case false => exact step_skip (unwanted_guard rfl rfl h46 (by decide)) rfl
                case true =>
                  refine step_pure (.bool P) (wanted_guard rfl rfl h46) ?_ (Ext.refl _) rfl
                  simp [execOp, Act.eval, h48, h50, hpq, go_sem]
              | 12, ho =>
                have h46 : tmps[46]?.getD undef = .bool S := hty 6 46 rfl (by obtain rfl := (Option.some.inj ho); rfl)
                have h51 : tmps[51]?.getD undef = cond S (.bool P) undef := hty 11 51 rfl (by obtain rfl := (Option.some.inj ho); rfl)
                obtain rfl := (Option.some.inj ho)
                clear hty ho
                refine step_pure (.bool (S && P)) (wanted_free rfl) ?_ (Ext.refl _) rfl
                cases S <;> simp [execOp, Act.eval, h46, h51, go_sem]
              | 13, ho =>
                have h42 : tmps[42]?.getD undef = .bool (S && P) := hty 2 42 rfl (by obtain rfl := (Option.some.inj ho); rfl)
                have h52 : tmps[52]?.getD undef = .bool (S && P) := hty 12 52 rfl (by obtain rfl := (Option.some.inj ho); rfl)
                obtain rfl := (Option.some.inj ho)
                clear hty ho
                refine step_pure (.bool true) (wanted_free rfl) ?_ (Ext.refl _) rfl
                simp [execOp, Act.eval, h42, h52, go_sem]
              | 14, ho =>
                have h53 : tmps[53]?.getD undef = .bool true := hty 13 53 rfl (by obtain rfl := (Option.some.inj ho); rfl)
                obtain rfl := (Option.some.inj ho)
                clear hty ho
                refine step_pure (.bool true) (wanted_free rfl) ?_ (Ext.refl _) rfl
                simp [execOp, Act.eval, h53, go_sem]
              | 15, ho =>
                have h54 : tmps[54]?.getD undef = .bool true := hty 14 54 rfl (by obtain rfl := (Option.some.inj ho); rfl)
                obtain rfl := (Option.some.inj ho)
                clear hty ho
                refine step_pure (.string X) (wanted_guard rfl rfl h54) ?_ (Ext.refl _) rfl
                simp [execOp, Act.eval, h9, go_sem]
              | 16, ho =>
                have h55 : tmps[55]?.getD undef = .string X := hty 15 55 rfl (by obtain rfl := (Option.some.inj ho); rfl)
                have h54 : tmps[54]?.getD undef = .bool true := hty 14 54 rfl (by obtain rfl := (Option.some.inj ho); rfl)
                obtain rfl := (Option.some.inj ho)
                clear hty ho
                refine step_call 18 #[.string X] (wanted_guard rfl rfl h54) ?_ ?_
                · simp [execOp, Act.eval, h55, go_sem]
                · exact (k3 _).mono fun e w' ⟨h1, h2⟩ => ⟨_, h1, by rw [h2]; exact Ext.refl _, rfl⟩
              | 17, ho =>
                have h54 : tmps[54]?.getD undef = .bool true := hty 14 54 rfl (by obtain rfl := (Option.some.inj ho); rfl)
                obtain rfl := (Option.some.inj ho)
                clear hty ho
                refine step_pure (.pointer (some ⟨g3, 0, none⟩)) (wanted_guard rfl rfl h54) ?_ (Ext.refl _) rfl
                simp [execOp, Act.eval, h3, go_sem]
              | 18, ho =>
                have h57 : tmps[57]?.getD undef = .pointer (some ⟨g3, 0, none⟩) := hty 17 57 rfl (by obtain rfl := (Option.some.inj ho); rfl)
                have h54 : tmps[54]?.getD undef = .bool true := hty 14 54 rfl (by obtain rfl := (Option.some.inj ho); rfl)
                obtain rfl := (Option.some.inj ho)
                clear hty ho
                refine step_pure (.int .u8 (p : Int)) (wanted_guard rfl rfl h54) ?_ (Ext.refl _) rfl
                simp [execOp, Act.eval, h57, a0, go_sem]
              | 19, ho =>
                have h58 : tmps[58]?.getD undef = .int .u8 (p : Int) := hty 18 58 rfl (by obtain rfl := (Option.some.inj ho); rfl)
                have h54 : tmps[54]?.getD undef = .bool true := hty 14 54 rfl (by obtain rfl := (Option.some.inj ho); rfl)
                obtain rfl := (Option.some.inj ho)
                clear hty ho
                refine step_pure (.int .i64 (p : Int)) (wanted_guard rfl rfl h54) ?_ (Ext.refl _) rfl
                simp [execOp, Act.eval, h58, hwp, go_sem]
              | 20, ho =>
                have h56 : tmps[56]?.getD undef = .int .i64 (p : Int) := hty 16 56 rfl (by obtain rfl := (Option.some.inj ho); rfl)
                have h59 : tmps[59]?.getD undef = .int .i64 (p : Int) := hty 19 59 rfl (by obtain rfl := (Option.some.inj ho); rfl)
                have h54 : tmps[54]?.getD undef = .bool true := hty 14 54 rfl (by obtain rfl := (Option.some.inj ho); rfl)
                obtain rfl := (Option.some.inj ho)
                clear hty ho
                refine step_pure (.bool true) (wanted_guard rfl rfl h54) ?_ (Ext.refl _) rfl
                simp [execOp, Act.eval, h56, h59, go_sem]
              | 21, ho =>
                have h54 : tmps[54]?.getD undef = .bool true := hty 14 54 rfl (by obtain rfl := (Option.some.inj ho); rfl)
                have h60 : tmps[60]?.getD undef = .bool true := hty 20 60 rfl (by obtain rfl := (Option.some.inj ho); rfl)
                obtain rfl := (Option.some.inj ho)
                clear hty ho
                refine step_pure (.bool true) (wanted_free rfl) ?_ (Ext.refl _) rfl
                simp [execOp, Act.eval, h54, h60, go_sem]
              | 22, ho =>
                have h61 : tmps[61]?.getD undef = .bool true := hty 21 61 rfl (by obtain rfl := (Option.some.inj ho); rfl)
                obtain rfl := (Option.some.inj ho)
                clear hty ho
                refine step_pure (.bool true) (wanted_free rfl) ?_ (Ext.refl _) rfl
                simp [execOp, Act.eval, h61, go_sem]
              | 23, ho =>
                have h62 : tmps[62]?.getD undef = .bool true := hty 22 62 rfl (by obtain rfl := (Option.some.inj ho); rfl)
                obtain rfl := (Option.some.inj ho)
                clear hty ho
                refine step_pure (.string X) (wanted_guard rfl rfl h62) ?_ (Ext.refl _) rfl
                simp [execOp, Act.eval, h9, go_sem]
              | 24, ho =>
                have h62 : tmps[62]?.getD undef = .bool true := hty 22 62 rfl (by obtain rfl := (Option.some.inj ho); rfl)
                obtain rfl := (Option.some.inj ho)
                clear hty ho
                refine step_pure (.pointer (some ⟨g3, 0, none⟩)) (wanted_guard rfl rfl h62) ?_ (Ext.refl _) rfl
                simp [execOp, Act.eval, h3, go_sem]
              | 25, ho =>
                have h64 : tmps[64]?.getD undef = .pointer (some ⟨g3, 0, none⟩) := hty 24 64 rfl (by obtain rfl := (Option.some.inj ho); rfl)
                have h62 : tmps[62]?.getD undef = .bool true := hty 22 62 rfl (by obtain rfl := (Option.some.inj ho); rfl)
                obtain rfl := (Option.some.inj ho)
                clear hty ho
                refine step_pure (.int .u8 (p : Int)) (wanted_guard rfl rfl h62) ?_ (Ext.refl _) rfl
                simp [execOp, Act.eval, h64, a0, go_sem]
              | 26, ho =>
                have h65 : tmps[65]?.getD undef = .int .u8 (p : Int) := hty 25 65 rfl (by obtain rfl := (Option.some.inj ho); rfl)
                have h62 : tmps[62]?.getD undef = .bool true := hty 22 62 rfl (by obtain rfl := (Option.some.inj ho); rfl)
                obtain rfl := (Option.some.inj ho)
                clear hty ho
                refine step_pure (.int .i64 (p : Int)) (wanted_guard rfl rfl h62) ?_ (Ext.refl _) rfl
                simp [execOp, Act.eval, h65, hwp, go_sem]
              | 27, ho =>
                have h66 : tmps[66]?.getD undef = .int .i64 (p : Int) := hty 26 66 rfl (by obtain rfl := (Option.some.inj ho); rfl)
                have h62 : tmps[62]?.getD undef = .bool true := hty 22 62 rfl (by obtain rfl := (Option.some.inj ho); rfl)
                obtain rfl := (Option.some.inj ho)
                clear hty ho
                refine step_call 16 #[.int .i64 (p : Int)] (wanted_guard rfl rfl h62) ?_ ?_
                · simp [execOp, Act.eval, h66, go_sem]
                · exact (k4 _).mono fun e w' ⟨h1, h2⟩ => ⟨_, h1, h2, rfl⟩
              | 28, ho =>
                have h63 : tmps[63]?.getD undef = .string X := hty 23 63 rfl (by obtain rfl := (Option.some.inj ho); rfl)
                have h67 : tmps[67]?.getD undef = .string Z1 := hty 27 67 rfl (by obtain rfl := (Option.some.inj ho); rfl)
                have h62 : tmps[62]?.getD undef = .bool true := hty 22 62 rfl (by obtain rfl := (Option.some.inj ho); rfl)
                obtain rfl := (Option.some.inj ho)
                clear hty ho
                refine step_pure (.bool true) (wanted_guard rfl rfl h62) ?_ (Ext.refl _) rfl
                simp [execOp, Act.eval, h63, h67, hXZ, go_sem]
              | 29, ho =>
                have h62 : tmps[62]?.getD undef = .bool true := hty 22 62 rfl (by obtain rfl := (Option.some.inj ho); rfl)
                have h68 : tmps[68]?.getD undef = .bool true := hty 28 68 rfl (by obtain rfl := (Option.some.inj ho); rfl)
                obtain rfl := (Option.some.inj ho)
                clear hty ho
                refine step_pure (.bool true) (wanted_free rfl) ?_ (Ext.refl _) rfl
                simp [execOp, Act.eval, h62, h68, go_sem]
              | 30, ho =>
                have h69 : tmps[69]?.getD undef = .bool true := hty 29 69 rfl (by obtain rfl := (Option.some.inj ho); rfl)
                obtain rfl := (Option.some.inj ho)
                clear hty ho
                refine step_pure (.bool true) (wanted_free rfl) ?_ (Ext.refl _) rfl
                simp [execOp, Act.eval, h69, go_sem]
              | 31, ho =>
                have h70 : tmps[70]?.getD undef = .bool true := hty 30 70 rfl (by obtain rfl := (Option.some.inj ho); rfl)
                obtain rfl := (Option.some.inj ho)
                clear hty ho
                refine step_pure (.pointer (some ⟨g3, 1, none⟩)) (wanted_guard rfl rfl h70) ?_ (Ext.refl _) rfl
                simp [execOp, Act.eval, h3, go_sem]
              | 32, ho =>
                have h71 : tmps[71]?.getD undef = .pointer (some ⟨g3, 1, none⟩) := hty 31 71 rfl (by obtain rfl := (Option.some.inj ho); rfl)
                have h70 : tmps[70]?.getD undef = .bool true := hty 30 70 rfl (by obtain rfl := (Option.some.inj ho); rfl)
                obtain rfl := (Option.some.inj ho)
                clear hty ho
                refine step_pure (.int .u8 (q : Int)) (wanted_guard rfl rfl h70) ?_ (Ext.refl _) rfl
                simp [execOp, Act.eval, h71, a1, go_sem]
              | 33, ho =>
                have h72 : tmps[72]?.getD undef = .int .u8 (q : Int) := hty 32 72 rfl (by obtain rfl := (Option.some.inj ho); rfl)
                have h70 : tmps[70]?.getD undef = .bool true := hty 30 70 rfl (by obtain rfl := (Option.some.inj ho); rfl)
                obtain rfl := (Option.some.inj ho)
                clear hty ho
                refine step_pure (.int .i64 (q : Int)) (wanted_guard rfl rfl h70) ?_ (Ext.refl _) rfl
                simp [execOp, Act.eval, h72, hwq, go_sem]
              | 34, ho =>
                have h73 : tmps[73]?.getD undef = .int .i64 (q : Int) := hty 33 73 rfl (by obtain rfl := (Option.some.inj ho); rfl)
                have h70 : tmps[70]?.getD undef = .bool true := hty 30 70 rfl (by obtain rfl := (Option.some.inj ho); rfl)
                obtain rfl := (Option.some.inj ho)
                clear hty ho
                refine step_call 16 #[.int .i64 (q : Int)] (wanted_guard rfl rfl h70) ?_ ?_
                · simp [execOp, Act.eval, h73, go_sem]
                · exact (k5 _).mono fun e w' ⟨h1, h2⟩ => ⟨_, h1, h2, rfl⟩
              | 35, ho =>
                have h74 : tmps[74]?.getD undef = .string Z2 := hty 34 74 rfl (by obtain rfl := (Option.some.inj ho); rfl)
                have h70 : tmps[70]?.getD undef = .bool true := hty 30 70 rfl (by obtain rfl := (Option.some.inj ho); rfl)
                obtain rfl := (Option.some.inj ho)
                clear hty ho
                refine step_call 18 #[.string Z2] (wanted_guard rfl rfl h70) ?_ ?_
                · simp [execOp, Act.eval, h74, go_sem]
                · exact (k6 _).mono fun e w' ⟨h1, h2⟩ => ⟨_, h1, by rw [h2]; exact Ext.refl _, rfl⟩
              | 36, ho =>
                have h70 : tmps[70]?.getD undef = .bool true := hty 30 70 rfl (by obtain rfl := (Option.some.inj ho); rfl)
                obtain rfl := (Option.some.inj ho)
                clear hty ho
                refine step_pure (.pointer (some ⟨g3, 1, none⟩)) (wanted_guard rfl rfl h70) ?_ (Ext.refl _) rfl
                simp [execOp, Act.eval, h3, go_sem]
              | 37, ho =>
                have h76 : tmps[76]?.getD undef = .pointer (some ⟨g3, 1, none⟩) := hty 36 76 rfl (by obtain rfl := (Option.some.inj ho); rfl)
                have h70 : tmps[70]?.getD undef = .bool true := hty 30 70 rfl (by obtain rfl := (Option.some.inj ho); rfl)
                obtain rfl := (Option.some.inj ho)
                clear hty ho
                refine step_pure (.int .u8 (q : Int)) (wanted_guard rfl rfl h70) ?_ (Ext.refl _) rfl
                simp [execOp, Act.eval, h76, a1, go_sem]
              | 38, ho =>
                have h77 : tmps[77]?.getD undef = .int .u8 (q : Int) := hty 37 77 rfl (by obtain rfl := (Option.some.inj ho); rfl)
                have h70 : tmps[70]?.getD undef = .bool true := hty 30 70 rfl (by obtain rfl := (Option.some.inj ho); rfl)
                obtain rfl := (Option.some.inj ho)
                clear hty ho
                refine step_pure (.int .i64 (q : Int)) (wanted_guard rfl rfl h70) ?_ (Ext.refl _) rfl
                simp [execOp, Act.eval, h77, hwq, go_sem]
              | 39, ho =>
                have h75 : tmps[75]?.getD undef = .int .i64 (q : Int) := hty 35 75 rfl (by obtain rfl := (Option.some.inj ho); rfl)
                have h78 : tmps[78]?.getD undef = .int .i64 (q : Int) := hty 38 78 rfl (by obtain rfl := (Option.some.inj ho); rfl)
                have h70 : tmps[70]?.getD undef = .bool true := hty 30 70 rfl (by obtain rfl := (Option.some.inj ho); rfl)
                obtain rfl := (Option.some.inj ho)
                clear hty ho
                refine step_pure (.bool true) (wanted_guard rfl rfl h70) ?_ (Ext.refl _) rfl
                simp [execOp, Act.eval, h75, h78, go_sem]
              | 40, ho =>
                have h70 : tmps[70]?.getD undef = .bool true := hty 30 70 rfl (by obtain rfl := (Option.some.inj ho); rfl)
                have h79 : tmps[79]?.getD undef = .bool true := hty 39 79 rfl (by obtain rfl := (Option.some.inj ho); rfl)
                obtain rfl := (Option.some.inj ho)
                clear hty ho
                refine step_pure (.bool true) (wanted_free rfl) ?_ (Ext.refl _) rfl
                simp [execOp, Act.eval, h70, h79, go_sem]
              | 41, ho =>
                have h80 : tmps[80]?.getD undef = .bool true := hty 40 80 rfl (by obtain rfl := (Option.some.inj ho); rfl)
                obtain rfl := (Option.some.inj ho)
                clear hty ho
                refine step_pure (.bool true) (wanted_free rfl) ?_ (Ext.refl _) rfl
                simp [execOp, Act.eval, h80, go_sem]
              | 42, ho =>
                have h81 : tmps[81]?.getD undef = .bool true := hty 41 81 rfl (by obtain rfl := (Option.some.inj ho); rfl)
                obtain rfl := (Option.some.inj ho)
                clear hty ho
                refine step_call 7 #[] (wanted_guard rfl rfl h81) ?_ ?_
                · simp [execOp, Act.eval, go_sem]
                · exact (hawake_any _).mono fun e w' ⟨h1, h2⟩ => ⟨_, h1, h2, rfl⟩
              | 43, ho =>
                have h81 : tmps[81]?.getD undef = .bool true := hty 41 81 rfl (by obtain rfl := (Option.some.inj ho); rfl)
                have h82 : tmps[82]?.getD undef = .bool true := hty 42 82 rfl (by obtain rfl := (Option.some.inj ho); rfl)
                obtain rfl := (Option.some.inj ho)
                clear hty ho
                refine step_pure (.bool true) (wanted_free rfl) ?_ (Ext.refl _) rfl
                simp [execOp, Act.eval, h81, h82, go_sem]
              | 44, ho =>
                have h83 : tmps[83]?.getD undef = .bool true := hty 43 83 rfl (by obtain rfl := (Option.some.inj ho); rfl)
                obtain rfl := (Option.some.inj ho)
                clear hty ho
                refine step_pure (.bool true) (wanted_free rfl) ?_ (Ext.refl _) rfl
                simp [execOp, Act.eval, h83, go_sem]
              | (j + 45), ho => exact absurd ho (by simp)
            · intro tmps w5 hle hs hfr hty
              have h6 : tmps[6]?.getD undef = .bool true := hty 44 6 (by kernel_rfl)
              have hfe := frame_eq [6, 40, 41, 42, 43, 44, 45, 46, 47, 48, 49, 50, 51, 52, 53, 54, 55, 56, 57, 58, 59, 60, 61, 62, 63, 64, 65, 66, 67, 68, 69, 70, 71, 72, 73, 74, 75, 76, 77, 78, 79, 80, 81, 82, 83] hs hfr (by kernel_rfl)
              rw [hfe]
              clear hfe hfr hs hty
              simp only [List.foldl_cons, List.foldl_nil]
              rw [h6]
              generalize tmps[40]?.getD undef = x40
              generalize tmps[41]?.getD undef = x41
              generalize tmps[42]?.getD undef = x42
              generalize tmps[43]?.getD undef = x43
              generalize tmps[44]?.getD undef = x44
              generalize tmps[45]?.getD undef = x45
              generalize tmps[46]?.getD undef = x46
              generalize tmps[47]?.getD undef = x47
              generalize tmps[48]?.getD undef = x48
              generalize tmps[49]?.getD undef = x49
              generalize tmps[50]?.getD undef = x50
              generalize tmps[51]?.getD undef = x51
              generalize tmps[52]?.getD undef = x52
              generalize tmps[53]?.getD undef = x53
              generalize tmps[54]?.getD undef = x54
              generalize tmps[55]?.getD undef = x55
              generalize tmps[56]?.getD undef = x56
              generalize tmps[57]?.getD undef = x57
              generalize tmps[58]?.getD undef = x58
              generalize tmps[59]?.getD undef = x59
              generalize tmps[60]?.getD undef = x60
              generalize tmps[61]?.getD undef = x61
              generalize tmps[62]?.getD undef = x62
              generalize tmps[63]?.getD undef = x63
              generalize tmps[64]?.getD undef = x64
              generalize tmps[65]?.getD undef = x65
              generalize tmps[66]?.getD undef = x66
              generalize tmps[67]?.getD undef = x67
              generalize tmps[68]?.getD undef = x68
              generalize tmps[69]?.getD undef = x69
              generalize tmps[70]?.getD undef = x70
              generalize tmps[71]?.getD undef = x71
              generalize tmps[72]?.getD undef = x72
              generalize tmps[73]?.getD undef = x73
              generalize tmps[74]?.getD undef = x74
              generalize tmps[75]?.getD undef = x75
              generalize tmps[76]?.getD undef = x76
              generalize tmps[77]?.getD undef = x77
              generalize tmps[78]?.getD undef = x78
              generalize tmps[79]?.getD undef = x79
              generalize tmps[80]?.getD undef = x80
              generalize tmps[81]?.getD undef = x81
              generalize tmps[82]?.getD undef = x82
              generalize tmps[83]?.getD undef = x83
              replace HX := hid (HX.out.trans hle)
              clear h6 hle
              simp only [List.setIfInBounds_toArray, List.set_cons_succ, List.set_cons_zero]
              go_wp2_with fail
              go_ret
              exact ⟨rfl, HX.out⟩
          · obtain rfl := HBAD.out hE
            have hE' : (E != 0) = true := bne_iff_ne.2 hE
            clear HEQ HBAD hE
            go_wp2_with fail
            refine (hawake_any _).mono ?_
            rintro e w9 ⟨rfl, hx⟩
            go_wp2_with fail
            go_ret
            exact ⟨rfl, HX.out.trans hx⟩
end Go.Proofs.Ytbgapkhcaideiaa
