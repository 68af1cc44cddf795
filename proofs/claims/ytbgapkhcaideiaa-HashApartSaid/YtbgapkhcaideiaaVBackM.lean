/- Values put and taken: one is the other's turn. Plain; conditions: none. -/
import Derived.Test.YtbgapkhcaideiaaBase
import Derived.Test.YtbgapkhcaideiaaVR5
namespace Go.Proofs.Ytbgapkhcaideiaa
open Go Go.RowKit

theorem size_ba' (b : ByteArray) (T : List UInt8) (h : b.data.toList = T) : b.size = T.length := by rw [← h]; rfl
theorem ofNat_byte {k : Nat} (h : k ≤ 255) : (UInt8.ofNat k).toNat = k := ofNat_toNat (by omega)

/-- a value that may be: what it has -/
theorem may_int {n : Int} {b : Nat} {t : ByteArray} (h : checkV 1 n b t = 0) : -4611686018427387904 ≤ n ∧ n ≤ 4611686018427387904 ∧ b = 0 ∧ t.size = 0 := by
  rw [check_int] at h
  (repeat' split at h) <;> omega
theorem may_flag {n : Int} {b : Nat} {t : ByteArray} (h : checkV 2 n b t = 0) : 0 ≤ n ∧ n ≤ 1 ∧ b = 0 ∧ t.size = 0 := by
  rw [check_flag] at h
  (repeat' split at h) <;> omega
theorem may_real {n : Int} {b : Nat} {t : ByteArray} (h : checkV 3 n b t = 0) : cleanZ b = b ∧ n = 0 ∧ t.size = 0 := by
  rw [check_real] at h
  generalize cleanZ b = c at *
  (repeat' split at h) <;> omega
theorem may_text {n : Int} {b : Nat} {t : ByteArray} (h : checkV 4 n b t = 0) : t.size ≤ 24 ∧ n = 0 ∧ b = 0 := by
  rw [check_text] at h
  (repeat' split at h) <;> omega
theorem may_kind {k : Nat} {n : Int} {b : Nat} {t : ByteArray} (h : checkV k n b t = 0) : k = 1 ∨ k = 2 ∨ k = 3 ∨ k = 4 := by
  by_cases h1 : k < 1 ∨ 4 < k
  · rw [check_kind h1] at h; cases h
  · omega
theorem none_is {t : ByteArray} (h : t.size = 0) : t = noText := (text_none t).2 h

theorem take_behind (s : ByteArray) (x y : List UInt8) (u : Nat) (hu : u ≤ 18446744073709551615) (hb : s.data.toList = x ++ (zb u ++ y)) :
    takeZ s (x.length : Int) = (u, (x.length : Int) + (zs u : Int), 0) := by
  have hs := size_ba' s _ hb
  rw [List.length_append] at hs
  refine take_good (by omega) ?_
  rw [hb, List.drop_left]
  exact tk_zb (by omega) y

/-- what is put is taken, whatever stands behind -/
theorem bytes_take {k : Nat} {n : Int} {b : Nat} {t : ByteArray} (hc : checkV k n b t = 0) (hbl : b ≤ 18446744073709551615) (s : ByteArray) (y : List UInt8) (hs : s.data.toList = bytesV k n b t ++ y) :
    takeV s 0 = (⟨k, n, b, t⟩, ((bytesV k n b t).length : Int), 0) := by
  have hsz := size_ba' s _ hs
  have hk := may_kind hc
  have h0 : s.data.toList[0]? = some (UInt8.ofNat k) := by rw [hs]; unfold bytesV; rfl
  have hp : 0 < s.size := by rw [hsz, List.length_append]; unfold bytesV; simp; omega
  have hb0 : s[0].toNat = k := by
    have := byte_at s 0 hp
    rw [h0] at this
    rw [← this]
    exact ofNat_byte (by omega)
  have ht := take_at s 0 k hp hb0 (by omega) (by omega)
  rw [show ((0 : Nat) : Int) = 0 from rfl] at ht
  rw [ht]
  rcases hk with rfl | rfl | rfl | rfl
  · obtain ⟨h1, h2, h3, h4⟩ := may_int hc
    have := none_is h4
    subst this
    subst h3
    have hF : 0 ≤ foldZ n ∧ foldZ n ≤ 18446744073709551615 := fold_bounds (by omega) (by omega)
    have hbv : bytesV 1 n 0 noText = [UInt8.ofNat 1] ++ zb (foldZ n).toNat := rfl
    have hz := take_behind s [UInt8.ofNat 1] y (foldZ n).toNat (by omega) (by rw [hs, hbv, List.append_assoc])
    unfold restV
    rw [if_neg (by decide), if_neg (by decide)]
    have hz' : takeZ s ((0 + 1 : Nat) : Int) = ((foldZ n).toNat, 1 + (zs (foldZ n).toNat : Int), 0) := hz
    rw [hz', if_neg (fun h => h rfl), if_pos rfl]
    have hbk : backZ (((foldZ n).toNat : Nat) : Int) = n := by rw [Int.toNat_of_nonneg hF.1, back_fold]
    rw [hbk, checked_good hc]
    have hl : (bytesV 1 n 0 noText).length = 1 + zs (foldZ n).toNat := by rw [hbv, List.length_append, zb_length]; rfl
    rw [hl]
    rfl
  · obtain ⟨h1, h2, h3, h4⟩ := may_flag hc
    have := none_is h4
    subst this
    subst h3
    have hbv : bytesV 2 n 0 noText = [UInt8.ofNat 2, UInt8.ofNat n.toNat] := rfl
    have hl : (bytesV 2 n 0 noText).length = 2 := by rw [hbv]; rfl
    have h1b : s.data.toList[1]?.getD 0 = UInt8.ofNat n.toNat := by rw [hs, hbv]; rfl
    have hsz2 : 2 ≤ s.size := by rw [hsz, List.length_append, hl]; omega
    unfold restV
    rw [if_pos rfl, if_neg (by omega), h1b, ofNat_byte (by omega), show ((n.toNat : Nat) : Int) = n by omega, checked_good hc, hl]
    rfl
  · obtain ⟨h1, h2, h4⟩ := may_real hc
    have := none_is h4
    subst this
    subst h2
    have hbv : bytesV 3 0 b noText = [UInt8.ofNat 3] ++ be 8 b := rfl
    have hl : (bytesV 3 0 b noText).length = 9 := by rw [hbv, List.length_append, be_length]; rfl
    have hd : (s.data.toList.drop (0 + 1)).take 8 = be 8 b := by
      rw [hs, hbv, List.append_assoc]
      show List.take 8 (be 8 b ++ y) = be 8 b
      have := be_length 8 b
      rw [List.take_append_of_le_length (by omega), List.take_of_length_le (by omega)]
    have hsz2 : 9 ≤ s.size := by rw [hsz, List.length_append, hl]; omega
    have hw : worth (be 8 b) = b := by
      rw [worth_be]
      have h4 : (256 : Nat) ^ 8 = 18446744073709551616 := by decide
      rw [h4, Nat.mod_eq_of_lt (by omega)]
    unfold restV
    rw [if_neg (by decide), if_pos rfl, if_neg (by omega), hd, hw, checked_good hc, hl]
    rfl
  · obtain ⟨h1, h2, h3⟩ := may_text hc
    subst h2
    subst h3
    have hbv : bytesV 4 0 0 t = [UInt8.ofNat 4] ++ (zb t.size ++ t.data.toList) := rfl
    have hz := take_behind s [UInt8.ofNat 4] (t.data.toList ++ y) t.size (by omega) (by rw [hs, hbv, List.append_assoc, List.append_assoc])
    have hz' : takeZ s ((0 + 1 : Nat) : Int) = (t.size, 1 + (zs t.size : Int), 0) := hz
    have hl : (bytesV 4 0 0 t).length = 1 + (zs t.size + t.size) := by rw [hbv, List.length_append, List.length_append, zb_length]; rfl
    have hsz2 : 1 + (zs t.size + t.size) ≤ s.size := by rw [hsz, List.length_append, hl]; omega
    have hx : s.extract (1 + zs t.size) (1 + zs t.size + t.size) = t := by
      refine ba_eq ?_
      rw [ByteArray.data_extract, Array.toList_extract, List.extract_eq_take_drop, hs, hbv]
      have e : [UInt8.ofNat 4] ++ (zb t.size ++ t.data.toList) ++ y = ([UInt8.ofNat 4] ++ zb t.size) ++ (t.data.toList ++ y) := by simp
      have el : ([UInt8.ofNat 4] ++ zb t.size).length = 1 + zs t.size := by rw [List.length_append, zb_length]; rfl
      have hts : t.data.toList.length = t.size := rfl
      rw [e, ← el, List.drop_left, show ([UInt8.ofNat 4] ++ zb t.size).length + t.size - ([UInt8.ofNat 4] ++ zb t.size).length = t.size by omega, List.take_append_of_le_length (by omega), List.take_of_length_le (by omega)]
    unfold restV
    rw [if_neg (by decide), if_neg (by decide), hz', if_neg (fun h => h rfl), if_neg (by decide), if_neg (by omega), if_neg (by simp only; omega)]
    have ht1 : (1 + (zs t.size : Int)).toNat = 1 + zs t.size := by omega
    simp only [ht1]
    rw [hx, checked_good hc, hl]
    refine Prod.ext rfl (Prod.ext ?_ rfl)
    show 1 + (zs t.size : Int) + (t.size : Int) = ((1 + (zs t.size + t.size) : Nat) : Int)
    omega

theorem bytes_len {k : Nat} {n : Int} {b : Nat} {t : ByteArray} (hc : checkV k n b t = 0) : (bytesV k n b t).length ≤ 100 := by
  rcases may_kind hc with rfl | rfl | rfl | rfl
  · obtain ⟨h1, h2, _, _⟩ := may_int hc
    have hF := fold_bounds (n := n) (by omega) (by omega)
    have hz := zs_ten (u := (foldZ n).toNat) (by omega)
    unfold bytesV
    rw [if_pos rfl, List.length_cons, zb_length]
    omega
  · unfold bytesV
    rw [if_neg (by decide), if_pos rfl]
    simp
  · unfold bytesV
    rw [if_neg (by decide), if_neg (by decide), if_pos rfl, List.length_cons, be_length]
    decide
  · obtain ⟨h1, _, _⟩ := may_text hc
    have hz := zs_ten (u := t.size) (by omega)
    unfold bytesV
    rw [if_neg (by decide), if_neg (by decide), if_neg (by decide), List.length_cons, List.length_append, zb_length, size_toList]
    omega
/-- two that may be have the same bytes just if they are the same -/
theorem bytes_same {k : Nat} {n : Int} {b : Nat} {t : ByteArray} {l : Nat} {m : Int} {c : Nat} {u : ByteArray} (hc : checkV k n b t = 0) (hd : checkV l m c u = 0) (hb : b ≤ 18446744073709551615) (hcc : c ≤ 18446744073709551615)
    (h : bytesV k n b t = bytesV l m c u) : k = l ∧ n = m ∧ b = c ∧ t = u := by
  have h1 := bytes_take hc hb ⟨(bytesV k n b t).toArray⟩ [] (by simp)
  have h2 := bytes_take hd hcc ⟨(bytesV k n b t).toArray⟩ [] (by rw [h]; simp)
  rw [h1] at h2
  simp only [Prod.mk.injEq, VZ.mk.injEq] at h2
  exact h2.1
end Go.Proofs.Ytbgapkhcaideiaa
