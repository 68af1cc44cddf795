/- Several texts in one: VBackM, EBackM. Conditions: those of each. -/
import Derived.Test.YtnldgmpfinlikaaBase
import Derived.Test.YtnldgmpfinlikaaVR5
/- Values put and taken: one is the other's turn. Plain; conditions: none. -/
namespace Go.Proofs.Ytnldgmpfinlikaa
open Go Go.RowKit

theorem size_ba' (b : ByteArray) (T : List UInt8) (h : b.data.toList = T) : b.size = T.length := by rw [← h]; rfl
theorem ofNat_byte {k : Nat} (h : k ≤ 255) : (UInt8.ofNat k).toNat = k := ofNat_toNat (by omega)

/-- a value that may be: what it has -/
theorem may_int {n : Int} {b : Nat} {t : ByteArray} (h : checkV 1 n b t = 0) : -4611686018427387904 ≤ n ∧ n ≤ 4611686018427387904 ∧ b = 0 ∧ t.size = 0 := by
  rw [check_int] at h
  (repeat' split at h) <;> omega
theorem may_flag {n : Int} {b : Nat} {t : ByteArray} (h : checkV 2 n b t = 0) : 0 ≤ n ∧ n ≤ 1 ∧ b = 0 ∧ t.size = 0 := by
  rw [check_flag] at h
  (repeat' split at h) <;> omega
theorem may_real {n : Int} {b : Nat} {t : ByteArray} (h : checkV 3 n b t = 0) : cleanZ b = b ∧ n = 0 ∧ t.size = 0 := by
  rw [check_real] at h
  generalize cleanZ b = c at *
  (repeat' split at h) <;> omega
theorem may_text {n : Int} {b : Nat} {t : ByteArray} (h : checkV 4 n b t = 0) : t.size ≤ 24 ∧ n = 0 ∧ b = 0 := by
  rw [check_text] at h
  (repeat' split at h) <;> omega
theorem may_kind {k : Nat} {n : Int} {b : Nat} {t : ByteArray} (h : checkV k n b t = 0) : k = 1 ∨ k = 2 ∨ k = 3 ∨ k = 4 := by
  by_cases h1 : k < 1 ∨ 4 < k
  · rw [check_kind h1] at h; cases h
  · omega
theorem none_is {t : ByteArray} (h : t.size = 0) : t = noText := (text_none t).2 h

theorem take_behind (s : ByteArray) (x y : List UInt8) (u : Nat) (hu : u ≤ 18446744073709551615) (hb : s.data.toList = x ++ (zb u ++ y)) :
    takeZ s (x.length : Int) = (u, (x.length : Int) + (zs u : Int), 0) := by
  have hs := size_ba' s _ hb
  rw [List.length_append] at hs
  refine take_good (by omega) ?_
  rw [hb, List.drop_left]
  exact tk_zb (by omega) y

/-- the bytes that a number was read of -/
theorem takeZ_bytes (s : ByteArray) (p U M : Nat) (hp : p ≤ s.size) (h : takeZ s (p : Int) = (U, (M : Int), 0)) : zb U = (s.data.toList.drop p).take (M - p) := by
  obtain ⟨⟨u, n, e⟩, ht⟩ : ∃ t, t = tk (s.data.toList.drop p) 0 0 := ⟨_, rfl⟩
  unfold takeZ at h
  rw [if_neg (by omega), Int.toNat_natCast, ← ht] at h
  simp only [Prod.mk.injEq] at h
  obtain ⟨h1, h2, h3⟩ := h
  subst h3
  subst h1
  rw [if_pos rfl] at h2
  have h4 := (tk_inv _ 0 0 u n (by decide) (by omega) ht.symm).2.2.2
  rw [hi, List.nil_append] at h4
  rw [← h4, show M - p = n by omega]

/-- what is put is taken, whatever stands behind -/
theorem bytes_take {k : Nat} {n : Int} {b : Nat} {t : ByteArray} (hc : checkV k n b t = 0) (hbl : b ≤ 18446744073709551615) (s : ByteArray) (y : List UInt8) (hs : s.data.toList = bytesV k n b t ++ y) :
    takeV s 0 = (⟨k, n, b, t⟩, ((bytesV k n b t).length : Int), 0) := by
  have hsz := size_ba' s _ hs
  have hk := may_kind hc
  have h0 : s.data.toList[0]? = some (UInt8.ofNat k) := by rw [hs]; unfold bytesV; rfl
  have hp : 0 < s.size := by rw [hsz, List.length_append]; unfold bytesV; simp; omega
  have hb0 : s[0].toNat = k := by
    have := byte_at s 0 hp
    rw [h0] at this
    rw [← this]
    exact ofNat_byte (by omega)
  have ht := take_at s 0 k hp hb0 (by omega) (by omega)
  rw [show ((0 : Nat) : Int) = 0 from rfl] at ht
  rw [ht]
  rcases hk with rfl | rfl | rfl | rfl
  · obtain ⟨h1, h2, h3, h4⟩ := may_int hc
    have := none_is h4
    subst this
    subst h3
    have hF : 0 ≤ foldZ n ∧ foldZ n ≤ 18446744073709551615 := fold_bounds (by omega) (by omega)
    have hbv : bytesV 1 n 0 noText = [UInt8.ofNat 1] ++ zb (foldZ n).toNat := rfl
    have hz := take_behind s [UInt8.ofNat 1] y (foldZ n).toNat (by omega) (by rw [hs, hbv, List.append_assoc])
    unfold restV
    rw [if_neg (by decide), if_neg (by decide)]
    have hz' : takeZ s ((0 + 1 : Nat) : Int) = ((foldZ n).toNat, 1 + (zs (foldZ n).toNat : Int), 0) := hz
    rw [hz', if_neg (fun h => h rfl), if_pos rfl]
    have hbk : backZ (((foldZ n).toNat : Nat) : Int) = n := by rw [Int.toNat_of_nonneg hF.1, back_fold]
    rw [hbk, checked_good hc]
    have hl : (bytesV 1 n 0 noText).length = 1 + zs (foldZ n).toNat := by rw [hbv, List.length_append, zb_length]; rfl
    rw [hl]
    rfl
  · obtain ⟨h1, h2, h3, h4⟩ := may_flag hc
    have := none_is h4
    subst this
    subst h3
    have hbv : bytesV 2 n 0 noText = [UInt8.ofNat 2, UInt8.ofNat n.toNat] := rfl
    have hl : (bytesV 2 n 0 noText).length = 2 := by rw [hbv]; rfl
    have h1b : s.data.toList[1]?.getD 0 = UInt8.ofNat n.toNat := by rw [hs, hbv]; rfl
    have hsz2 : 2 ≤ s.size := by rw [hsz, List.length_append, hl]; omega
    unfold restV
    rw [if_pos rfl, if_neg (by omega), h1b, ofNat_byte (by omega), show ((n.toNat : Nat) : Int) = n by omega, checked_good hc, hl]
    rfl
  · obtain ⟨h1, h2, h4⟩ := may_real hc
    have := none_is h4
    subst this
    subst h2
    have hbv : bytesV 3 0 b noText = [UInt8.ofNat 3] ++ be 8 b := rfl
    have hl : (bytesV 3 0 b noText).length = 9 := by rw [hbv, List.length_append, be_length]; rfl
    have hd : (s.data.toList.drop (0 + 1)).take 8 = be 8 b := by
      rw [hs, hbv, List.append_assoc]
      show List.take 8 (be 8 b ++ y) = be 8 b
      have := be_length 8 b
      rw [List.take_append_of_le_length (by omega), List.take_of_length_le (by omega)]
    have hsz2 : 9 ≤ s.size := by rw [hsz, List.length_append, hl]; omega
    have hw : worth (be 8 b) = b := by
      rw [worth_be]
      have h4 : (256 : Nat) ^ 8 = 18446744073709551616 := by decide
      rw [h4, Nat.mod_eq_of_lt (by omega)]
    unfold restV
    rw [if_neg (by decide), if_pos rfl, if_neg (by omega), hd, hw, checked_good hc, hl]
    rfl
  · obtain ⟨h1, h2, h3⟩ := may_text hc
    subst h2
    subst h3
    have hbv : bytesV 4 0 0 t = [UInt8.ofNat 4] ++ (zb t.size ++ t.data.toList) := rfl
    have hz := take_behind s [UInt8.ofNat 4] (t.data.toList ++ y) t.size (by omega) (by rw [hs, hbv, List.append_assoc, List.append_assoc])
    have hz' : takeZ s ((0 + 1 : Nat) : Int) = (t.size, 1 + (zs t.size : Int), 0) := hz
    have hl : (bytesV 4 0 0 t).length = 1 + (zs t.size + t.size) := by rw [hbv, List.length_append, List.length_append, zb_length]; rfl
    have hsz2 : 1 + (zs t.size + t.size) ≤ s.size := by rw [hsz, List.length_append, hl]; omega
    have hx : s.extract (1 + zs t.size) (1 + zs t.size + t.size) = t := by
      refine ba_eq ?_
      rw [ByteArray.data_extract, Array.toList_extract, List.extract_eq_take_drop, hs, hbv]
      have e : [UInt8.ofNat 4] ++ (zb t.size ++ t.data.toList) ++ y = ([UInt8.ofNat 4] ++ zb t.size) ++ (t.data.toList ++ y) := by simp
      have el : ([UInt8.ofNat 4] ++ zb t.size).length = 1 + zs t.size := by rw [List.length_append, zb_length]; rfl
      have hts : t.data.toList.length = t.size := rfl
      rw [e, ← el, List.drop_left, show ([UInt8.ofNat 4] ++ zb t.size).length + t.size - ([UInt8.ofNat 4] ++ zb t.size).length = t.size by omega, List.take_append_of_le_length (by omega), List.take_of_length_le (by omega)]
    unfold restV
    rw [if_neg (by decide), if_neg (by decide), hz', if_neg (fun h => h rfl), if_neg (by decide), if_neg (by omega), if_neg (by simp only; omega)]
    have ht1 : (1 + (zs t.size : Int)).toNat = 1 + zs t.size := by omega
    simp only [ht1]
    rw [hx, checked_good hc, hl]
    refine Prod.ext rfl (Prod.ext ?_ rfl)
    show 1 + (zs t.size : Int) + (t.size : Int) = ((1 + (zs t.size + t.size) : Nat) : Int)
    omega

theorem checked_inv {q : VZ × Int × Int} {x : VZ} {m : Int} (h : checkedV q = (x, m, 0)) : q = (x, m, 0) ∧ checkV x.k x.n x.b x.t = 0 := by
  unfold checkedV at h
  by_cases h1 : q.2.2 ≠ 0
  · rw [if_pos h1] at h
    rw [h] at h1
    exact absurd rfl h1
  · rw [if_neg h1] at h
    by_cases h2 : checkV q.1.k q.1.n q.1.b q.1.t ≠ 0
    · rw [if_pos h2] at h
      unfold failV at h
      simp only [Prod.mk.injEq] at h
      exact absurd h.2.2 h2
    · rw [if_neg h2] at h
      refine ⟨h, ?_⟩
      rw [h] at h2
      exact Classical.byContradiction h2
theorem take_one (s : ByteArray) (h : 0 < s.size) (M : Nat) (hM : 1 ≤ M) : s.data.toList.take M = UInt8.ofNat s[0].toNat :: (s.data.toList.drop 1).take (M - 1) := by
  have h1 : s.data.toList = s[0] :: s.data.toList.drop 1 := by
    have := List.drop_eq_getElem_cons (l := s.data.toList) (i := 0) (by rw [size_toList]; exact h)
    rw [List.drop_zero] at this
    exact this
  obtain ⟨N, rfl⟩ : ∃ N, M = N + 1 := ⟨M - 1, by omega⟩
  rw [UInt8.ofNat_toNat, Nat.add_sub_cancel]
  conv => lhs; rw [h1]
  rfl

/-- what is taken has just these bytes -/
theorem take_bytes (s : ByteArray) {k : Nat} {n : Int} {b : Nat} {t : ByteArray} {m : Int} (h : takeV s 0 = (⟨k, n, b, t⟩, m, 0)) :
    ∃ M : Nat, m = (M : Int) ∧ M ≤ s.size ∧ checkV k n b t = 0 ∧ bytesV k n b t = s.data.toList.take M ∧ k ≤ 255 ∧ -9223372036854775808 ≤ n ∧ n ≤ 9223372036854775807 ∧ b ≤ 18446744073709551615 ∧ t.size ≤ 24 := by
  have hp : 0 < s.size := by
    rcases Nat.eq_zero_or_pos s.size with h0 | h0
    · have h3 : takeV s 0 = failV 3 := by unfold takeV; rw [if_neg (by omega), if_pos (by omega)]
      rw [h3] at h
      simp [failV] at h
    · exact h0
  obtain ⟨K, hK⟩ : ∃ K, s[0].toNat = K := ⟨_, rfl⟩
  by_cases hk : K < 1 ∨ 4 < K
  · have h3 := take_none s 0 hp (by rw [hK]; exact hk)
    rw [show ((0 : Nat) : Int) = 0 from rfl] at h3
    rw [h3] at h
    simp [failV] at h
  · have ht := take_at s 0 K hp hK (by omega) (by omega)
    rw [show ((0 : Nat) : Int) = 0 from rfl] at ht
    rw [ht] at h
    obtain ⟨hr, hc⟩ := checked_inv h
    simp only at hc
    have hone := take_one s hp
    rw [hK] at hone
    have hK4 : K = 1 ∨ K = 2 ∨ K = 3 ∨ K = 4 := by omega
    unfold restV at hr
    rcases hK4 with rfl | rfl | rfl | rfl
    · rw [if_neg (by decide), if_neg (by decide)] at hr
      rcases takeZ_shape s 1 (by omega) with ⟨E, hz, hE⟩ | ⟨U, M, hz, hM1, hM2, hU⟩
      · have hz' : takeZ s ((0 + 1 : Nat) : Int) = (0, 0, E) := hz
        rw [hz', if_pos hE] at hr
        simp only [failV, Prod.mk.injEq] at hr
        exact absurd hr.2.2 hE
      · have hz' : takeZ s ((0 + 1 : Nat) : Int) = (U, (M : Int), 0) := hz
        rw [hz', if_neg (fun h => h rfl), if_pos rfl] at hr
        simp only [Prod.mk.injEq, VZ.mk.injEq, and_true] at hr
        obtain ⟨⟨rfl, rfl, rfl, rfl⟩, rfl⟩ := hr
        have hb := back_bounds (u := (U : Int)) (by omega) (by omega)
        refine ⟨M, rfl, hM2, hc, ?_, by decide, hb.1, hb.2, by decide, by decide⟩
        rw [hone M (by omega)]
        have hzb := takeZ_bytes s 1 U M (by omega) hz
        rw [← hzb]
        unfold bytesV
        rw [if_pos rfl, fold_back (by omega), Int.toNat_natCast]
    · rw [if_pos rfl] at hr
      by_cases h1 : 0 + 1 = s.size
      · rw [if_pos h1] at hr
        simp [failV] at hr
      · rw [if_neg h1] at hr
        simp only [Prod.mk.injEq, VZ.mk.injEq, and_true] at hr
        obtain ⟨⟨rfl, rfl, rfl, rfl⟩, rfl⟩ := hr
        have h2 : 0 + 1 < s.size := by omega
        rw [byte_at s (0 + 1) h2] at hc ⊢
        have h3 := s[0 + 1].toNat_lt
        refine ⟨2, rfl, by omega, hc, ?_, by decide, by omega, by omega, by decide, by decide⟩
        rw [hone 2 (by omega)]
        unfold bytesV
        rw [if_neg (by decide), if_pos rfl, Int.toNat_natCast, UInt8.ofNat_toNat]
        congr 1
        have := List.drop_eq_getElem_cons (l := s.data.toList) (i := 1) (by rw [size_toList]; exact h2)
        rw [this]
        rfl
    · rw [if_neg (by decide), if_pos rfl] at hr
      by_cases h1 : s.size - (0 + 1) < 8
      · rw [if_pos h1] at hr
        simp [failV] at hr
      · rw [if_neg h1] at hr
        simp only [Prod.mk.injEq, VZ.mk.injEq, and_true] at hr
        obtain ⟨⟨rfl, rfl, rfl, rfl⟩, rfl⟩ := hr
        have hlen : ((s.data.toList.drop (0 + 1)).take 8).length = 8 := by rw [List.length_take, List.length_drop, size_toList]; omega
        have hw := be_worth ((s.data.toList.drop (0 + 1)).take 8)
        have hlt := worth_lt ((s.data.toList.drop (0 + 1)).take 8)
        rw [hlen] at hw hlt
        have h4 : (256 : Nat) ^ 8 = 18446744073709551616 := by decide
        refine ⟨9, rfl, by omega, hc, ?_, by decide, by decide, by decide, by omega, by decide⟩
        rw [hone 9 (by omega)]
        unfold bytesV
        rw [if_neg (by decide), if_neg (by decide), if_pos rfl, hw]
    · rw [if_neg (by decide), if_neg (by decide)] at hr
      rcases takeZ_shape s 1 (by omega) with ⟨E, hz, hE⟩ | ⟨U, M, hz, hM1, hM2, hU⟩
      · have hz' : takeZ s ((0 + 1 : Nat) : Int) = (0, 0, E) := hz
        rw [hz', if_pos hE] at hr
        simp only [failV, Prod.mk.injEq] at hr
        exact absurd hr.2.2 hE
      · have hz' : takeZ s ((0 + 1 : Nat) : Int) = (U, (M : Int), 0) := hz
        rw [hz', if_neg (fun h => h rfl), if_neg (by decide)] at hr
        by_cases h24 : 24 < U
        · rw [if_pos h24] at hr
          simp [failV] at hr
        · rw [if_neg h24] at hr
          by_cases hl : (s.size : Int) - (M : Int) < (U : Int)
          · rw [if_pos hl] at hr
            simp [failV] at hr
          · rw [if_neg hl] at hr
            simp only [Prod.mk.injEq, VZ.mk.injEq, and_true, Int.toNat_natCast] at hr
            obtain ⟨⟨rfl, rfl, rfl, rfl⟩, rfl⟩ := hr
            have hxs : (s.extract M (M + U)).size = U := by rw [ByteArray.size_extract]; omega
            refine ⟨M + U, by omega, by omega, hc, ?_, by decide, by decide, by decide, by decide, by omega⟩
            rw [hone (M + U) (by omega)]
            have hzb := takeZ_bytes s 1 U M (by omega) hz
            unfold bytesV
            rw [if_neg (by decide), if_neg (by decide), if_neg (by decide), hxs, hzb]
            congr 1
            rw [ByteArray.data_extract, Array.toList_extract, List.extract_eq_take_drop, show M + U - 1 = (M - 1) + (M + U - M) by omega, List.take_add, List.drop_drop, show 1 + (M - 1) = M by omega]

theorem bytes_len {k : Nat} {n : Int} {b : Nat} {t : ByteArray} (hc : checkV k n b t = 0) : (bytesV k n b t).length ≤ 100 := by
  rcases may_kind hc with rfl | rfl | rfl | rfl
  · obtain ⟨h1, h2, _, _⟩ := may_int hc
    have hF := fold_bounds (n := n) (by omega) (by omega)
    have hz := zs_ten (u := (foldZ n).toNat) (by omega)
    unfold bytesV
    rw [if_pos rfl, List.length_cons, zb_length]
    omega
  · unfold bytesV
    rw [if_neg (by decide), if_pos rfl]
    simp
  · unfold bytesV
    rw [if_neg (by decide), if_neg (by decide), if_pos rfl, List.length_cons, be_length]
    decide
  · obtain ⟨h1, _, _⟩ := may_text hc
    have hz := zs_ten (u := t.size) (by omega)
    unfold bytesV
    rw [if_neg (by decide), if_neg (by decide), if_neg (by decide), List.length_cons, List.length_append, zb_length, size_toList]
    omega
end Go.Proofs.Ytnldgmpfinlikaa

/- Events put and taken: one is the other's turn. Plain; conditions: none. -/
namespace Go.Proofs.Ytnldgmpfinlikaa
open Go Go.RowKit

/-- an answer, its place so much further on -/
def onE {α : Type} (p : Nat) (x : α × Int × Int) : α × Int × Int := (x.1, if x.2.2 = 0 then (p : Int) + x.2.1 else 0, x.2.2)
theorem onE_bad {α : Type} {p : Nat} {a : α} {e : Int} (h : e ≠ 0) : onE p (a, 0, e) = (a, 0, e) := by unfold onE; rw [if_neg h]
theorem onE_ok {α : Type} {p : Nat} {a : α} {m : Int} : onE p (a, m, 0) = (a, (p : Int) + m, 0) := by unfold onE; rw [if_pos rfl]
theorem left_size {s r : ByteArray} {p : Nat} (hr : r.data.toList = s.data.toList.drop p) : r.size = s.size - p := by
  rw [size_ba' r _ hr, List.length_drop, size_toList]
theorem takeZ_on {s r : ByteArray} {p : Nat} (hp : p ≤ s.size) (hr : r.data.toList = s.data.toList.drop p) (q : Nat) (hq : q ≤ r.size) :
    takeZ s ((p + q : Nat) : Int) = onE p (takeZ r (q : Int)) := by
  have hs := left_size hr
  have h1 : ¬(((p + q : Nat) : Int) < 0 ∨ (s.size : Int) < ((p + q : Nat) : Int)) := by omega
  have h2 : ¬((q : Int) < 0 ∨ (r.size : Int) < (q : Int)) := by omega
  unfold takeZ
  rw [if_neg h1, if_neg h2, Int.toNat_natCast, Int.toNat_natCast, hr, List.drop_drop]
  unfold onE
  by_cases he : (tk (s.data.toList.drop (p + q)) 0 0).2.2 = 0
  · simp only [if_pos he, Prod.mk.injEq, true_and, and_true]; omega
  · simp only [if_neg he]
theorem takeZ_at {s : ByteArray} {p : Nat} (hp : p ≤ s.size) : ∃ (u M : Nat) (e : Int), takeZ s (p : Int) = (u, (M : Int), e) ∧ (e = 0 → p ≤ M ∧ M ≤ s.size) ∧ (e ≠ 0 → M = 0) := by
  obtain ⟨⟨u, n, e⟩, ht⟩ : ∃ t, t = tk (s.data.toList.drop p) 0 0 := ⟨_, rfl⟩
  have h1 : ¬((p : Int) < 0 ∨ (s.size : Int) < (p : Int)) := by omega
  unfold takeZ
  rw [if_neg h1, Int.toNat_natCast, ← ht]
  by_cases he : e = 0
  · subst he
    refine ⟨u, p + n, 0, by simp, fun _ => ⟨by omega, ?_⟩, fun h => absurd rfl h⟩
    have h4 := (tk_inv _ 0 0 u n (by decide) (by omega) ht.symm).2.1
    rw [List.length_drop, size_toList] at h4
    omega
  · exact ⟨u, 0, e, by simp [he], fun h => absurd h he, fun _ => rfl⟩
theorem extract_on {s r : ByteArray} {p : Nat} (hr : r.data.toList = s.data.toList.drop p) (a n : Nat) : s.extract (p + a) (p + a + n) = r.extract a (a + n) := by
  refine ba_eq ?_
  rw [ByteArray.data_extract, ByteArray.data_extract, Array.toList_extract, Array.toList_extract, List.extract_eq_take_drop, List.extract_eq_take_drop, hr, List.drop_drop]
  congr 1
  omega
theorem restV_on {s r : ByteArray} {p : Nat} (hp : p ≤ s.size) (hr : r.data.toList = s.data.toList.drop p) (k q : Nat) (hq : q ≤ r.size) :
    restV s k (p + q) = onE p (restV r k q) := by
  have hs := left_size hr
  unfold restV
  by_cases h2 : k = 2
  · rw [if_pos h2, if_pos h2]
    by_cases hz : q = r.size
    · rw [if_pos (by omega), if_pos hz]
      exact (onE_bad (by decide)).symm
    · rw [if_neg (by omega), if_neg hz, onE_ok, hr, List.getElem?_drop]
      simp only [Prod.mk.injEq, true_and, and_true]; omega
  · rw [if_neg h2, if_neg h2]
    by_cases h3 : k = 3
    · rw [if_pos h3, if_pos h3]
      by_cases hz : r.size - q < 8
      · rw [if_pos (by omega), if_pos hz]
        exact (onE_bad (by decide)).symm
      · rw [if_neg (by omega), if_neg hz, onE_ok, hr, List.drop_drop]
        simp only [Prod.mk.injEq, true_and, and_true]; omega
    · rw [if_neg h3, if_neg h3, takeZ_on hp hr q hq]
      obtain ⟨u, M, e, ht, h0, h4⟩ := takeZ_at hq
      rw [ht]
      by_cases he : e = 0
      · subst he
        obtain ⟨hM1, hM2⟩ := h0 rfl
        rw [onE_ok]
        simp only [ne_eq, not_true_eq_false, if_false]
        by_cases h1 : k = 1
        · rw [if_pos h1, if_pos h1, onE_ok]
        · rw [if_neg h1, if_neg h1]
          by_cases h5 : 24 < u
          · rw [if_pos h5, if_pos h5]
            exact (onE_bad (by decide)).symm
          · rw [if_neg h5, if_neg h5]
            by_cases h6 : (r.size : Int) - (M : Int) < (u : Int)
            · rw [if_pos (by omega), if_pos h6]
              exact (onE_bad (by decide)).symm
            · rw [if_neg (by omega), if_neg h6, onE_ok, show ((p : Int) + (M : Int)).toNat = p + M by omega, Int.toNat_natCast, extract_on hr]
              simp only [Prod.mk.injEq, true_and, and_true]; omega
      · simp only [onE, ne_eq, he, not_false_eq_true, if_true, if_false, failV]
theorem checkedV_on (p : Nat) (x : VZ × Int × Int) : checkedV (onE p x) = onE p (checkedV x) := by
  obtain ⟨a, m, e⟩ := x
  unfold checkedV onE
  by_cases he : e = 0
  · subst he
    simp only [ne_eq, not_true_eq_false, if_false, if_true]
    by_cases hc : checkV a.k a.n a.b a.t = 0
    · simp only [hc, not_true_eq_false, if_false, if_true]
    · simp only [hc, not_false_eq_true, if_false, if_true, failV]
  · simp only [ne_eq, he, not_false_eq_true, if_true, if_false]
/-- a value further on is the one that the rest begins with -/
theorem takeV_on {s r : ByteArray} {p : Nat} (hp : p ≤ s.size) (hr : r.data.toList = s.data.toList.drop p) : takeV s (p : Int) = onE p (takeV r 0) := by
  have hs := left_size hr
  have h1 : ¬((p : Int) < 0 ∨ (s.size : Int) < (p : Int)) := by omega
  have h2 : ¬((0 : Int) < 0 ∨ (r.size : Int) < 0) := by omega
  unfold takeV
  rw [if_neg h1, if_neg h2]
  by_cases hz : p = s.size
  · rw [if_pos (by omega), if_pos (by omega)]
    exact (onE_bad (by decide)).symm
  · have hb : r.data.toList[(0 : Int).toNat]?.getD 0 = s.data.toList[(p : Int).toNat]?.getD 0 := by
      rw [hr, List.getElem?_drop]; rfl
    have h3 : ¬((p : Int) = (s.size : Int)) := by omega
    have h4 : ¬((0 : Int) = (r.size : Int)) := by omega
    rw [if_neg h3, if_neg h4, hb]
    by_cases hk : (s.data.toList[(p : Int).toNat]?.getD 0).toNat < 1 ∨ 4 < (s.data.toList[(p : Int).toNat]?.getD 0).toNat
    · rw [if_pos hk, if_pos hk]
      exact (onE_bad (by decide)).symm
    · rw [if_neg hk, if_neg hk, ← checkedV_on, ← restV_on hp hr _ _ (by simp; omega)]
      rfl
/-- a value in the midst of a text is taken -/
theorem value_mid {k : Nat} {n : Int} {b : Nat} {t : ByteArray} (hc : checkV k n b t = 0) (hbl : b ≤ 18446744073709551615) (s : ByteArray) (x y : List UInt8) (hs : s.data.toList = x ++ (bytesV k n b t ++ y)) :
    takeV s (x.length : Int) = (⟨k, n, b, t⟩, (x.length : Int) + ((bytesV k n b t).length : Int), 0) := by
  have hz := size_ba' s _ hs
  rw [List.length_append] at hz
  have hr : (bytesA (bytesV k n b t ++ y)).data.toList = s.data.toList.drop x.length := by rw [hs, List.drop_left]; simp [bytesA]
  rw [takeV_on (by omega) hr, bytes_take hc hbl _ y (by simp [bytesA]), onE_ok]
/-- numbers in the midst of a text are taken -/
theorem nums_mid (s : ByteArray) : ∀ (L : List Nat) (x y : List UInt8), (∀ u ∈ L, u ≤ 18446744073709551615) → s.data.toList = x ++ (L.flatMap zb ++ y) →
    numsE s L.length (x.length : Int) = (L, (x.length : Int) + ((L.flatMap zb).length : Int), 0)
  | [], x, y, _, _ => by simp [numsE]
  | u :: L, x, y, hu, hs => by
    rw [List.flatMap_cons, List.append_assoc] at hs
    have h1 := take_behind s x _ u (hu u (by simp)) hs
    have h2 := nums_mid s L (x ++ zb u) y (fun v h => hu v (by simp [h])) (by rw [hs, List.append_assoc])
    rw [show ((x ++ zb u).length : Int) = (x.length : Int) + (zs u : Int) by rw [List.length_append, zb_length]; omega] at h2
    unfold numsE
    simp only [List.length_cons, h1, h2, ne_eq, not_true_eq_false, if_false, List.flatMap_cons, List.length_append, zb_length, Prod.mk.injEq, true_and, and_true]
    omega
/-- values in the midst of a text are taken -/
theorem vals_mid (s : ByteArray) : ∀ (L : List VZ) (x y : List UInt8), (∀ v ∈ L, checkV v.k v.n v.b v.t = 0 ∧ v.b ≤ 18446744073709551615) → s.data.toList = x ++ ((L.flatMap fun v => bytesV v.k v.n v.b v.t) ++ y) →
    valsE s L.length (x.length : Int) = (L, (x.length : Int) + ((L.flatMap fun v => bytesV v.k v.n v.b v.t).length : Int), 0)
  | [], x, y, _, _ => by simp [valsE]
  | u :: L, x, y, hu, hs => by
    rw [List.flatMap_cons, List.append_assoc] at hs
    have h1 := value_mid (hu u (by simp)).1 (hu u (by simp)).2 s x _ hs
    have h2 := vals_mid s L (x ++ bytesV u.k u.n u.b u.t) y (fun v h => hu v (by simp [h])) (by rw [hs, List.append_assoc])
    rw [show ((x ++ bytesV u.k u.n u.b u.t).length : Int) = (x.length : Int) + ((bytesV u.k u.n u.b u.t).length : Int) by rw [List.length_append]; omega] at h2
    unfold valsE
    simp only [List.length_cons, h1, h2, ne_eq, not_true_eq_false, if_false, List.flatMap_cons, List.length_append, Prod.mk.injEq, true_and, and_true]
    omega
/-- what fits may be -/
theorem fits_may : ∀ (F : List FZ) (V : List VZ), V.length = F.length → fitZ F V = 0 → ∀ v ∈ V, checkV v.k v.n v.b v.t = 0
  | [], [], _, _ => by simp
  | f :: F, v :: V, hl, h => by
    unfold fitZ at h
    split at h
    next g => exact absurd h g
    next g =>
      split at h
      · exact absurd h (by decide)
      · intro w hw
        rcases List.mem_cons.1 hw with rfl | hw
        · exact Decidable.not_not.1 g
        · exact fits_may F V (by simpa using hl) h w hw
/-- an event that may be is taken as it was put, whatever stands behind -/
theorem event_back (T : List TZ) (e : EZ) (hc : checkE T e = 0) (hb : ∀ v ∈ e.v, v.b ≤ 18446744073709551615) (hT : T.length ≤ 18446744073709551615) (s : ByteArray) (y : List UInt8) (hs : s.data.toList = bytesE T e ++ y) :
    takeEv T s 0 = (e, ((bytesE T e).length : Int), 0) := by
  obtain ⟨h1, h2, h3, h4⟩ := checkE_ok hc
  obtain ⟨h5, h6, h7⟩ := find_placeE e.n T h3
  have hv : e.v.length = (findZ e.n T).1.f.length ∧ fitZ (findZ e.n T).1.f e.v = 0 := by
    unfold fitsZ at h4
    split at h4
    · exact absurd h4 (by decide)
    next g => exact ⟨Decidable.not_not.1 g, h4⟩
  have hm := fits_may _ _ hv.1 hv.2
  unfold boundE at h2
  obtain ⟨L, hL⟩ : ∃ L, [e.m.toNat, e.o.toNat, e.q.toNat, placeE e.n T] = L := ⟨_, rfl⟩
  obtain ⟨B, hB⟩ : ∃ B, (e.v.flatMap fun v => bytesV v.k v.n v.b v.t) = B := ⟨_, rfl⟩
  have hby : bytesE T e = L.flatMap zb ++ B := by rw [← hL, ← hB]; simp [bytesE]
  rw [hby, List.append_assoc] at hs
  have hn := nums_mid s L [] (B ++ y) (by rw [← hL]; intro u hu; simp at hu; omega) hs
  have hw := vals_mid s e.v (L.flatMap zb) y (fun v h => ⟨hm v h, hb v h⟩) (by rw [hB]; exact hs)
  rw [hB] at hw
  rw [← hL] at hn
  have hmd : madeE e.m.toNat e.o.toNat e.q.toNat (findZ e.n T).1 e.v = e := by
    unfold madeE
    rw [if_pos (by omega), h7, show ((e.m.toNat : Nat) : Int) = e.m by omega, show ((e.o.toNat : Nat) : Int) = e.o by omega, show ((e.q.toNat : Nat) : Int) = e.q by omega]
  unfold takeEv
  rw [if_neg (by rw [h1]; omega)]
  rw [show (([] : List UInt8).length : Int) = 0 from rfl, show [e.m.toNat, e.o.toNat, e.q.toNat, placeE e.n T].length = 4 from rfl, hL, Int.zero_add] at hn
  rw [hn, ← hL]
  show restE T s _ _ _ _ _ = _
  unfold restE
  rw [if_neg (by omega), h6, ← hv.1, hL, hw, hmd]
  simp only [hc, ne_eq, not_true_eq_false, if_false, hby, List.length_append]
  simp
/-- of events that may be, two have the same bytes just if they are the same -/
theorem event_same (T : List TZ) (e f : EZ) (hc : checkE T e = 0) (hd : checkE T f = 0) (hb : ∀ v ∈ e.v, v.b ≤ 18446744073709551615) (hg : ∀ v ∈ f.v, v.b ≤ 18446744073709551615) (hT : T.length ≤ 18446744073709551615)
    (h : bytesE T e = bytesE T f) : e = f := by
  have h1 := event_back T e hc hb hT (bytesA (bytesE T e)) [] (by simp [bytesA])
  have h2 := event_back T f hd hg hT (bytesA (bytesE T e)) [] (by rw [h]; simp [bytesA])
  rw [h1] at h2
  simp only [Prod.mk.injEq] at h2
  exact h2.1
theorem seg_join (l : List UInt8) {p M N : Nat} (h1 : p ≤ M) (h2 : M ≤ N) : (l.drop p).take (M - p) ++ (l.drop M).take (N - M) = (l.drop p).take (N - p) := by
  rw [show N - p = (M - p) + (N - M) by omega, List.take_add, List.drop_drop, show p + (M - p) = M by omega]
theorem value_bytes {s : ByteArray} {p : Nat} (hp : p ≤ s.size) {v : VZ} {m : Int} (h : takeV s (p : Int) = (v, m, 0)) :
    ∃ M : Nat, m = (M : Int) ∧ p ≤ M ∧ M ≤ s.size ∧ bytesV v.k v.n v.b v.t = (s.data.toList.drop p).take (M - p) ∧ v.In := by
  have hr : (bytesA (s.data.toList.drop p)).data.toList = s.data.toList.drop p := by simp [bytesA]
  have hs := left_size hr
  rw [takeV_on hp hr] at h
  obtain ⟨⟨w, j, e⟩, ht⟩ : ∃ t, t = takeV (bytesA (s.data.toList.drop p)) 0 := ⟨_, rfl⟩
  rw [← ht] at h
  unfold onE at h
  simp only [Prod.mk.injEq] at h
  obtain ⟨rfl, hm, rfl⟩ := h
  rw [if_pos rfl] at hm
  obtain ⟨k, n, b, t⟩ := w
  obtain ⟨M, rfl, hM, _, hby, h1, h2, h3, h4, h5⟩ := take_bytes _ ht.symm
  rw [hr] at hby
  refine ⟨p + M, by omega, by omega, by omega, ?_, h1, h2, h3, h4, by show t.size ≤ _; omega⟩
  rw [show p + M - p = M by omega]
  exact hby
theorem nums_bytes (s : ByteArray) : ∀ (k p : Nat) (L : List Nat) (m : Int), p ≤ s.size → numsE s k (p : Int) = (L, m, 0) →
    ∃ M : Nat, m = (M : Int) ∧ p ≤ M ∧ M ≤ s.size ∧ L.length = k ∧ L.flatMap zb = (s.data.toList.drop p).take (M - p)
  | 0, p, L, m, hp, h => by
    simp only [numsE, Prod.mk.injEq] at h
    obtain ⟨rfl, rfl, _⟩ := h
    exact ⟨p, rfl, Nat.le_refl _, hp, rfl, by simp⟩
  | k + 1, p, L, m, hp, h => by
    obtain ⟨u, M, e, ht, h0, _⟩ := takeZ_at hp
    unfold numsE at h
    simp only [ht] at h
    by_cases he : e = 0
    · subst he
      obtain ⟨hM1, hM2⟩ := h0 rfl
      rw [if_neg (by decide)] at h
      obtain ⟨⟨L2, m2, e2⟩, h2⟩ : ∃ t, t = numsE s k (M : Int) := ⟨_, rfl⟩
      rw [← h2] at h
      by_cases he2 : e2 = 0
      · subst he2
        rw [if_neg (fun hx => hx rfl)] at h
        simp only [Prod.mk.injEq] at h
        obtain ⟨rfl, rfl, _⟩ := h
        obtain ⟨N, rfl, hN1, hN2, hl, hby⟩ := nums_bytes s k M L2 m2 hM2 h2.symm
        refine ⟨N, rfl, by omega, hN2, by simp [hl], ?_⟩
        rw [List.flatMap_cons, hby, takeZ_bytes s p u M hp ht, seg_join _ hM1 hN1]
      · rw [if_pos he2] at h
        simp only [Prod.mk.injEq] at h
        exact absurd h.2.2 he2
    · rw [if_pos he] at h
      simp only [Prod.mk.injEq] at h
      exact absurd h.2.2 he
theorem vals_bytes (s : ByteArray) : ∀ (k p : Nat) (L : List VZ) (m : Int), p ≤ s.size → valsE s k (p : Int) = (L, m, 0) →
    ∃ M : Nat, m = (M : Int) ∧ p ≤ M ∧ M ≤ s.size ∧ L.length = k ∧ (L.flatMap fun v => bytesV v.k v.n v.b v.t) = (s.data.toList.drop p).take (M - p) ∧ ∀ v ∈ L, v.In
  | 0, p, L, m, hp, h => by
    simp only [valsE, Prod.mk.injEq] at h
    obtain ⟨rfl, rfl, _⟩ := h
    exact ⟨p, rfl, Nat.le_refl _, hp, rfl, by simp, by simp⟩
  | k + 1, p, L, m, hp, h => by
    obtain ⟨⟨u, j, e⟩, ht⟩ : ∃ t, t = takeV s (p : Int) := ⟨_, rfl⟩
    unfold valsE at h
    simp only [← ht] at h
    by_cases he : e = 0
    · subst he
      obtain ⟨M, rfl, hM1, hM2, hub, hin⟩ := value_bytes hp ht.symm
      rw [if_neg (by decide)] at h
      obtain ⟨⟨L2, m2, e2⟩, h2⟩ : ∃ t, t = valsE s k (M : Int) := ⟨_, rfl⟩
      rw [← h2] at h
      by_cases he2 : e2 = 0
      · subst he2
        rw [if_neg (fun hx => hx rfl)] at h
        simp only [Prod.mk.injEq] at h
        obtain ⟨rfl, rfl, _⟩ := h
        obtain ⟨N, rfl, hN1, hN2, hl, hby, hall⟩ := vals_bytes s k M L2 m2 hM2 h2.symm
        refine ⟨N, rfl, by omega, hN2, by simp [hl], ?_, ?_⟩
        · rw [List.flatMap_cons, hby, hub, seg_join _ hM1 hN1]
        · intro v hv
          rcases List.mem_cons.1 hv with rfl | hv
          · exact hin
          · exact hall v hv
      · rw [if_pos he2] at h
        simp only [Prod.mk.injEq] at h
        exact absurd h.2.2 he2
    · rw [if_pos he] at h
      simp only [Prod.mk.injEq] at h
      exact absurd h.2.2 he
/-- of types that may be, each is the first of its name -/
theorem place_own : ∀ (T A : List TZ), typesZ A T = 0 → ∀ d, d < T.length → (∀ g ∈ A, g.n ≠ (T.getD d TZ.none).n) ∧ placeE (T.getD d TZ.none).n T = d
  | [], _, _, d, hd => by simp at hd
  | t :: r, A, h, d, hd => by
    unfold typesZ at h
    split at h
    next g => exact absurd h g
    next g =>
      split at h
      · exact absurd h (by decide)
      next k =>
        cases d with
        | zero => exact ⟨fun g hg he => k ⟨g, hg, he⟩, by simp [placeE]⟩
        | succ d =>
          obtain ⟨h1, h2⟩ := place_own r (A ++ [t]) h d (by simpa using hd)
          rw [show (t :: r).getD (d + 1) TZ.none = r.getD d TZ.none by simp]
          refine ⟨fun g hg => h1 g (by simp [hg]), ?_⟩
          unfold placeE
          rw [if_neg (h1 t (by simp)), h2]
/-- what is taken has just these bytes -/
theorem event_bytes (T : List TZ) (s : ByteArray) (e : EZ) (m : Int) (h : takeEv T s 0 = (e, m, 0)) :
    ∃ M : Nat, m = (M : Int) ∧ M ≤ s.size ∧ checkE T e = 0 ∧ bytesE T e = s.data.toList.take M ∧ ∀ v ∈ e.v, v.In := by
  unfold takeEv at h
  split at h
  · simp [failE] at h
  next hg =>
    have hT : checkZ T = 0 := Decidable.not_not.1 fun h => hg (Or.inl h)
    have hT0 : typesZ [] T = 0 := by
      unfold checkZ at hT
      split at hT
      · exact absurd hT (by decide)
      · exact hT
    obtain ⟨⟨L, j, f⟩, hn⟩ : ∃ t, t = numsE s 4 0 := ⟨_, rfl⟩
    rw [← hn] at h
    by_cases hf : f = 0
    · subst hf
      obtain ⟨M, rfl, _, hM, hl, hby⟩ := nums_bytes s 4 0 L j (Nat.zero_le _) hn.symm
      match L, hl with
      | [a, b, c, d], _ =>
        replace h : restE T s a b c d (M : Int) = (e, m, 0) := h
        unfold restE at h
        split at h
        · simp [failE] at h
        next hd =>
          obtain ⟨⟨V, i, g⟩, hv⟩ : ∃ t, t = valsE s (T.getD d TZ.none).f.length (M : Int) := ⟨_, rfl⟩
          rw [← hv] at h
          by_cases hgz : g = 0
          · subst hgz
            rw [if_neg (fun hx => hx rfl)] at h
            obtain ⟨N, rfl, hN1, hN2, _, hvb, hin⟩ := vals_bytes s _ M V i hM hv.symm
            split at h
            · next hc => simp only [failE, Prod.mk.injEq] at h; exact absurd h.2.2 hc
            next hc =>
              have hc := Decidable.not_not.1 hc
              simp only [Prod.mk.injEq] at h
              obtain ⟨rfl, rfl, _⟩ := h
              refine ⟨N, rfl, hN2, hc, ?_, ?_⟩
              · have hb := (checkE_ok hc).2.1
                have hp := (place_own T [] hT0 d (by omega)).2
                unfold boundE madeE at hb
                unfold madeE
                split at hb
                · next hin2 =>
                  rw [if_pos hin2]
                  have hj := seg_join s.data.toList (Nat.zero_le M) hN1
                  rw [← hvb, ← hby] at hj
                  simp only [List.drop_zero, Nat.sub_zero] at hj
                  rw [← hj]
                  show zb (a : Int).toNat ++ (zb (b : Int).toNat ++ (zb (c : Int).toNat ++ (zb (placeE (T.getD d TZ.none).n T) ++ _))) = _
                  rw [hp]
                  simp
                · exact absurd hb (by simp)
              · intro v hv2
                refine hin v ?_
                unfold madeE at hv2
                split at hv2 <;> exact hv2
          · rw [if_pos hgz] at h
            simp only [failE, Prod.mk.injEq] at h
            exact absurd h.2.2 hgz
    · exfalso
      revert h
      split
      · next h1 => simp only [Prod.mk.injEq] at h1; exact absurd h1.2.2 hf
      · next h1 => simp only [Prod.mk.injEq] at h1; intro h; simp only [failE, Prod.mk.injEq] at h; exact hf (h1.2.2.trans h.2.2)
end Go.Proofs.Ytnldgmpfinlikaa

