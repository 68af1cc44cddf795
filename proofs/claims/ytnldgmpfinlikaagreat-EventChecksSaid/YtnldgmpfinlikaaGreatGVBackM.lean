/- Several texts in one: VBackM, EBackM. Conditions: those of each. -/
import Derived.Test.YtnldgmpfinlikaaGreatBase
import Derived.Test.YtnldgmpfinlikaaGreatGZR1
/- Values put and taken: one is the other's turn. Plain; conditions: none. -/
namespace Go.Proofs.YtnldgmpfinlikaaGreat
open Go Go.RowKit

theorem size_ba' (b : ByteArray) (T : List UInt8) (h : b.data.toList = T) : b.size = T.length := by rw [← h]; rfl
/-- a value that may be: what it has -/
theorem may_int {n : Int} {b : Nat} {t : ByteArray} (h : checkV 1 n b t = 0) : -4611686018427387904 ≤ n ∧ n ≤ 4611686018427387904 ∧ b = 0 ∧ t.size = 0 := by
  rw [check_int] at h
  (repeat' split at h) <;> omega
theorem may_text {n : Int} {b : Nat} {t : ByteArray} (h : checkV 4 n b t = 0) : t.size ≤ 24 ∧ n = 0 ∧ b = 0 := by
  rw [check_text] at h
  (repeat' split at h) <;> omega
theorem may_kind {k : Nat} {n : Int} {b : Nat} {t : ByteArray} (h : checkV k n b t = 0) : k = 1 ∨ k = 2 ∨ k = 3 ∨ k = 4 := by
  by_cases h1 : k < 1 ∨ 4 < k
  · rw [check_kind h1] at h; cases h
  · omega
/-- the bytes that a number was read of -/
theorem takeZ_bytes (s : ByteArray) (p U M : Nat) (hp : p ≤ s.size) (h : takeZ s (p : Int) = (U, (M : Int), 0)) : zb U = (s.data.toList.drop p).take (M - p) := by
  obtain ⟨⟨u, n, e⟩, ht⟩ : ∃ t, t = tk (s.data.toList.drop p) 0 0 := ⟨_, rfl⟩
  unfold takeZ at h
  rw [if_neg (by omega), Int.toNat_natCast, ← ht] at h
  simp only [Prod.mk.injEq] at h
  obtain ⟨h1, h2, h3⟩ := h
  subst h3
  subst h1
  rw [if_pos rfl] at h2
  have h4 := (tk_inv _ 0 0 u n (by decide) (by omega) ht.symm).2.2.2
  rw [hi, List.nil_append] at h4
  rw [← h4, show M - p = n by omega]

theorem checked_inv {q : VZ × Int × Int} {x : VZ} {m : Int} (h : checkedV q = (x, m, 0)) : q = (x, m, 0) ∧ checkV x.k x.n x.b x.t = 0 := by
  unfold checkedV at h
  by_cases h1 : q.2.2 ≠ 0
  · rw [if_pos h1] at h
    rw [h] at h1
    exact absurd rfl h1
  · rw [if_neg h1] at h
    by_cases h2 : checkV q.1.k q.1.n q.1.b q.1.t ≠ 0
    · rw [if_pos h2] at h
      unfold failV at h
      simp only [Prod.mk.injEq] at h
      exact absurd h.2.2 h2
    · rw [if_neg h2] at h
      refine ⟨h, ?_⟩
      rw [h] at h2
      exact Classical.byContradiction h2
theorem take_one (s : ByteArray) (h : 0 < s.size) (M : Nat) (hM : 1 ≤ M) : s.data.toList.take M = UInt8.ofNat s[0].toNat :: (s.data.toList.drop 1).take (M - 1) := by
  have h1 : s.data.toList = s[0] :: s.data.toList.drop 1 := by
    have := List.drop_eq_getElem_cons (l := s.data.toList) (i := 0) (by rw [size_toList]; exact h)
    rw [List.drop_zero] at this
    exact this
  obtain ⟨N, rfl⟩ : ∃ N, M = N + 1 := ⟨M - 1, by omega⟩
  rw [UInt8.ofNat_toNat, Nat.add_sub_cancel]
  conv => lhs; rw [h1]
  rfl

/-- what is taken has just these bytes -/
theorem take_bytes (s : ByteArray) {k : Nat} {n : Int} {b : Nat} {t : ByteArray} {m : Int} (h : takeV s 0 = (⟨k, n, b, t⟩, m, 0)) :
    ∃ M : Nat, m = (M : Int) ∧ M ≤ s.size ∧ checkV k n b t = 0 ∧ bytesV k n b t = s.data.toList.take M ∧ k ≤ 255 ∧ -9223372036854775808 ≤ n ∧ n ≤ 9223372036854775807 ∧ b ≤ 18446744073709551615 ∧ t.size ≤ 24 := by
  have hp : 0 < s.size := by
    rcases Nat.eq_zero_or_pos s.size with h0 | h0
    · have h3 : takeV s 0 = failV 3 := by unfold takeV; rw [if_neg (by omega), if_pos (by omega)]
      rw [h3] at h
      simp [failV] at h
    · exact h0
  obtain ⟨K, hK⟩ : ∃ K, s[0].toNat = K := ⟨_, rfl⟩
  by_cases hk : K < 1 ∨ 4 < K
  · have h3 := take_none s 0 hp (by rw [hK]; exact hk)
    rw [show ((0 : Nat) : Int) = 0 from rfl] at h3
    rw [h3] at h
    simp [failV] at h
  · have ht := take_at s 0 K hp hK (by omega) (by omega)
    rw [show ((0 : Nat) : Int) = 0 from rfl] at ht
    rw [ht] at h
    obtain ⟨hr, hc⟩ := checked_inv h
    simp only at hc
    have hone := take_one s hp
    rw [hK] at hone
    have hK4 : K = 1 ∨ K = 2 ∨ K = 3 ∨ K = 4 := by omega
    unfold restV at hr
    rcases hK4 with rfl | rfl | rfl | rfl
    · rw [if_neg (by decide), if_neg (by decide)] at hr
      rcases takeZ_shape s 1 (by omega) with ⟨E, hz, hE⟩ | ⟨U, M, hz, hM1, hM2, hU⟩
      · have hz' : takeZ s ((0 + 1 : Nat) : Int) = (0, 0, E) := hz
        rw [hz', if_pos hE] at hr
        simp only [failV, Prod.mk.injEq] at hr
        exact absurd hr.2.2 hE
      · have hz' : takeZ s ((0 + 1 : Nat) : Int) = (U, (M : Int), 0) := hz
        rw [hz', if_neg (fun h => h rfl), if_pos rfl] at hr
        simp only [Prod.mk.injEq, VZ.mk.injEq, and_true] at hr
        obtain ⟨⟨rfl, rfl, rfl, rfl⟩, rfl⟩ := hr
        have hb := back_bounds (u := (U : Int)) (by omega) (by omega)
        refine ⟨M, rfl, hM2, hc, ?_, by decide, hb.1, hb.2, by decide, by decide⟩
        rw [hone M (by omega)]
        have hzb := takeZ_bytes s 1 U M (by omega) hz
        rw [← hzb]
        unfold bytesV
        rw [if_pos rfl, fold_back (by omega), Int.toNat_natCast]
    · rw [if_pos rfl] at hr
      by_cases h1 : 0 + 1 = s.size
      · rw [if_pos h1] at hr
        simp [failV] at hr
      · rw [if_neg h1] at hr
        simp only [Prod.mk.injEq, VZ.mk.injEq, and_true] at hr
        obtain ⟨⟨rfl, rfl, rfl, rfl⟩, rfl⟩ := hr
        have h2 : 0 + 1 < s.size := by omega
        rw [byte_at s (0 + 1) h2] at hc ⊢
        have h3 := s[0 + 1].toNat_lt
        refine ⟨2, rfl, by omega, hc, ?_, by decide, by omega, by omega, by decide, by decide⟩
        rw [hone 2 (by omega)]
        unfold bytesV
        rw [if_neg (by decide), if_pos rfl, Int.toNat_natCast, UInt8.ofNat_toNat]
        congr 1
        have := List.drop_eq_getElem_cons (l := s.data.toList) (i := 1) (by rw [size_toList]; exact h2)
        rw [this]
        rfl
    · rw [if_neg (by decide), if_pos rfl] at hr
      by_cases h1 : s.size - (0 + 1) < 8
      · rw [if_pos h1] at hr
        simp [failV] at hr
      · rw [if_neg h1] at hr
        simp only [Prod.mk.injEq, VZ.mk.injEq, and_true] at hr
        obtain ⟨⟨rfl, rfl, rfl, rfl⟩, rfl⟩ := hr
        have hlen : ((s.data.toList.drop (0 + 1)).take 8).length = 8 := by rw [List.length_take, List.length_drop, size_toList]; omega
        have hw := be_worth ((s.data.toList.drop (0 + 1)).take 8)
        have hlt := worth_lt ((s.data.toList.drop (0 + 1)).take 8)
        rw [hlen] at hw hlt
        have h4 : (256 : Nat) ^ 8 = 18446744073709551616 := by decide
        refine ⟨9, rfl, by omega, hc, ?_, by decide, by decide, by decide, by omega, by decide⟩
        rw [hone 9 (by omega)]
        unfold bytesV
        rw [if_neg (by decide), if_neg (by decide), if_pos rfl, hw]
    · rw [if_neg (by decide), if_neg (by decide)] at hr
      rcases takeZ_shape s 1 (by omega) with ⟨E, hz, hE⟩ | ⟨U, M, hz, hM1, hM2, hU⟩
      · have hz' : takeZ s ((0 + 1 : Nat) : Int) = (0, 0, E) := hz
        rw [hz', if_pos hE] at hr
        simp only [failV, Prod.mk.injEq] at hr
        exact absurd hr.2.2 hE
      · have hz' : takeZ s ((0 + 1 : Nat) : Int) = (U, (M : Int), 0) := hz
        rw [hz', if_neg (fun h => h rfl), if_neg (by decide)] at hr
        by_cases h24 : 24 < U
        · rw [if_pos h24] at hr
          simp [failV] at hr
        · rw [if_neg h24] at hr
          by_cases hl : (s.size : Int) - (M : Int) < (U : Int)
          · rw [if_pos hl] at hr
            simp [failV] at hr
          · rw [if_neg hl] at hr
            simp only [Prod.mk.injEq, VZ.mk.injEq, and_true, Int.toNat_natCast] at hr
            obtain ⟨⟨rfl, rfl, rfl, rfl⟩, rfl⟩ := hr
            have hxs : (s.extract M (M + U)).size = U := by rw [ByteArray.size_extract]; omega
            refine ⟨M + U, by omega, by omega, hc, ?_, by decide, by decide, by decide, by decide, by omega⟩
            rw [hone (M + U) (by omega)]
            have hzb := takeZ_bytes s 1 U M (by omega) hz
            unfold bytesV
            rw [if_neg (by decide), if_neg (by decide), if_neg (by decide), hxs, hzb]
            congr 1
            rw [ByteArray.data_extract, Array.toList_extract, List.extract_eq_take_drop, show M + U - 1 = (M - 1) + (M + U - M) by omega, List.take_add, List.drop_drop, show 1 + (M - 1) = M by omega]

theorem bytes_len {k : Nat} {n : Int} {b : Nat} {t : ByteArray} (hc : checkV k n b t = 0) : (bytesV k n b t).length ≤ 100 := by
  rcases may_kind hc with rfl | rfl | rfl | rfl
  · obtain ⟨h1, h2, _, _⟩ := may_int hc
    have hF := fold_bounds (n := n) (by omega) (by omega)
    have hz := zs_ten (u := (foldZ n).toNat) (by omega)
    unfold bytesV
    rw [if_pos rfl, List.length_cons, zb_length]
    omega
  · unfold bytesV
    rw [if_neg (by decide), if_pos rfl]
    simp
  · unfold bytesV
    rw [if_neg (by decide), if_neg (by decide), if_pos rfl, List.length_cons, be_length]
    decide
  · obtain ⟨h1, _, _⟩ := may_text hc
    have hz := zs_ten (u := t.size) (by omega)
    unfold bytesV
    rw [if_neg (by decide), if_neg (by decide), if_neg (by decide), List.length_cons, List.length_append, zb_length, size_toList]
    omega
end Go.Proofs.YtnldgmpfinlikaaGreat

/- Events put and taken: one is the other's turn. Plain; conditions: none. -/
namespace Go.Proofs.YtnldgmpfinlikaaGreat
open Go Go.RowKit

/-- an answer, its place so much further on -/
def onE {α : Type} (p : Nat) (x : α × Int × Int) : α × Int × Int := (x.1, if x.2.2 = 0 then (p : Int) + x.2.1 else 0, x.2.2)
theorem onE_bad {α : Type} {p : Nat} {a : α} {e : Int} (h : e ≠ 0) : onE p (a, 0, e) = (a, 0, e) := by unfold onE; rw [if_neg h]
theorem onE_ok {α : Type} {p : Nat} {a : α} {m : Int} : onE p (a, m, 0) = (a, (p : Int) + m, 0) := by unfold onE; rw [if_pos rfl]
theorem left_size {s r : ByteArray} {p : Nat} (hr : r.data.toList = s.data.toList.drop p) : r.size = s.size - p := by
  rw [size_ba' r _ hr, List.length_drop, size_toList]
theorem takeZ_on {s r : ByteArray} {p : Nat} (hp : p ≤ s.size) (hr : r.data.toList = s.data.toList.drop p) (q : Nat) (hq : q ≤ r.size) :
    takeZ s ((p + q : Nat) : Int) = onE p (takeZ r (q : Int)) := by
  have hs := left_size hr
  have h1 : ¬(((p + q : Nat) : Int) < 0 ∨ (s.size : Int) < ((p + q : Nat) : Int)) := by omega
  have h2 : ¬((q : Int) < 0 ∨ (r.size : Int) < (q : Int)) := by omega
  unfold takeZ
  rw [if_neg h1, if_neg h2, Int.toNat_natCast, Int.toNat_natCast, hr, List.drop_drop]
  unfold onE
  by_cases he : (tk (s.data.toList.drop (p + q)) 0 0).2.2 = 0
  · simp only [if_pos he, Prod.mk.injEq, true_and, and_true]; omega
  · simp only [if_neg he]
theorem takeZ_at {s : ByteArray} {p : Nat} (hp : p ≤ s.size) : ∃ (u M : Nat) (e : Int), takeZ s (p : Int) = (u, (M : Int), e) ∧ (e = 0 → p ≤ M ∧ M ≤ s.size) ∧ (e ≠ 0 → M = 0) := by
  obtain ⟨⟨u, n, e⟩, ht⟩ : ∃ t, t = tk (s.data.toList.drop p) 0 0 := ⟨_, rfl⟩
  have h1 : ¬((p : Int) < 0 ∨ (s.size : Int) < (p : Int)) := by omega
  unfold takeZ
  rw [if_neg h1, Int.toNat_natCast, ← ht]
  by_cases he : e = 0
  · subst he
    refine ⟨u, p + n, 0, by simp, fun _ => ⟨by omega, ?_⟩, fun h => absurd rfl h⟩
    have h4 := (tk_inv _ 0 0 u n (by decide) (by omega) ht.symm).2.1
    rw [List.length_drop, size_toList] at h4
    omega
  · exact ⟨u, 0, e, by simp [he], fun h => absurd h he, fun _ => rfl⟩
theorem extract_on {s r : ByteArray} {p : Nat} (hr : r.data.toList = s.data.toList.drop p) (a n : Nat) : s.extract (p + a) (p + a + n) = r.extract a (a + n) := by
  refine ba_eq ?_
  rw [ByteArray.data_extract, ByteArray.data_extract, Array.toList_extract, Array.toList_extract, List.extract_eq_take_drop, List.extract_eq_take_drop, hr, List.drop_drop]
  congr 1
  omega
theorem restV_on {s r : ByteArray} {p : Nat} (hp : p ≤ s.size) (hr : r.data.toList = s.data.toList.drop p) (k q : Nat) (hq : q ≤ r.size) :
    restV s k (p + q) = onE p (restV r k q) := by
  have hs := left_size hr
  unfold restV
  by_cases h2 : k = 2
  · rw [if_pos h2, if_pos h2]
    by_cases hz : q = r.size
    · rw [if_pos (by omega), if_pos hz]
      exact (onE_bad (by decide)).symm
    · rw [if_neg (by omega), if_neg hz, onE_ok, hr, List.getElem?_drop]
      simp only [Prod.mk.injEq, true_and, and_true]; omega
  · rw [if_neg h2, if_neg h2]
    by_cases h3 : k = 3
    · rw [if_pos h3, if_pos h3]
      by_cases hz : r.size - q < 8
      · rw [if_pos (by omega), if_pos hz]
        exact (onE_bad (by decide)).symm
      · rw [if_neg (by omega), if_neg hz, onE_ok, hr, List.drop_drop]
        simp only [Prod.mk.injEq, true_and, and_true]; omega
    · rw [if_neg h3, if_neg h3, takeZ_on hp hr q hq]
      obtain ⟨u, M, e, ht, h0, h4⟩ := takeZ_at hq
      rw [ht]
      by_cases he : e = 0
      · subst he
        obtain ⟨hM1, hM2⟩ := h0 rfl
        rw [onE_ok]
        simp only [ne_eq, not_true_eq_false, if_false]
        by_cases h1 : k = 1
        · rw [if_pos h1, if_pos h1, onE_ok]
        · rw [if_neg h1, if_neg h1]
          by_cases h5 : 24 < u
          · rw [if_pos h5, if_pos h5]
            exact (onE_bad (by decide)).symm
          · rw [if_neg h5, if_neg h5]
            by_cases h6 : (r.size : Int) - (M : Int) < (u : Int)
            · rw [if_pos (by omega), if_pos h6]
              exact (onE_bad (by decide)).symm
            · rw [if_neg (by omega), if_neg h6, onE_ok, show ((p : Int) + (M : Int)).toNat = p + M by omega, Int.toNat_natCast, extract_on hr]
              simp only [Prod.mk.injEq, true_and, and_true]; omega
      · simp only [onE, ne_eq, he, not_false_eq_true, if_true, if_false, failV]
theorem checkedV_on (p : Nat) (x : VZ × Int × Int) : checkedV (onE p x) = onE p (checkedV x) := by
  obtain ⟨a, m, e⟩ := x
  unfold checkedV onE
  by_cases he : e = 0
  · subst he
    simp only [ne_eq, not_true_eq_false, if_false, if_true]
    by_cases hc : checkV a.k a.n a.b a.t = 0
    · simp only [hc, not_true_eq_false, if_false, if_true]
    · simp only [hc, not_false_eq_true, if_false, if_true, failV]
  · simp only [ne_eq, he, not_false_eq_true, if_true, if_false]
/-- a value further on is the one that the rest begins with -/
theorem takeV_on {s r : ByteArray} {p : Nat} (hp : p ≤ s.size) (hr : r.data.toList = s.data.toList.drop p) : takeV s (p : Int) = onE p (takeV r 0) := by
  have hs := left_size hr
  have h1 : ¬((p : Int) < 0 ∨ (s.size : Int) < (p : Int)) := by omega
  have h2 : ¬((0 : Int) < 0 ∨ (r.size : Int) < 0) := by omega
  unfold takeV
  rw [if_neg h1, if_neg h2]
  by_cases hz : p = s.size
  · rw [if_pos (by omega), if_pos (by omega)]
    exact (onE_bad (by decide)).symm
  · have hb : r.data.toList[(0 : Int).toNat]?.getD 0 = s.data.toList[(p : Int).toNat]?.getD 0 := by
      rw [hr, List.getElem?_drop]; rfl
    have h3 : ¬((p : Int) = (s.size : Int)) := by omega
    have h4 : ¬((0 : Int) = (r.size : Int)) := by omega
    rw [if_neg h3, if_neg h4, hb]
    by_cases hk : (s.data.toList[(p : Int).toNat]?.getD 0).toNat < 1 ∨ 4 < (s.data.toList[(p : Int).toNat]?.getD 0).toNat
    · rw [if_pos hk, if_pos hk]
      exact (onE_bad (by decide)).symm
    · rw [if_neg hk, if_neg hk, ← checkedV_on, ← restV_on hp hr _ _ (by simp; omega)]
      rfl
/-- what fits may be -/
theorem fits_may : ∀ (F : List FZ) (V : List VZ), V.length = F.length → fitZ F V = 0 → ∀ v ∈ V, checkV v.k v.n v.b v.t = 0
  | [], [], _, _ => by simp
  | f :: F, v :: V, hl, h => by
    unfold fitZ at h
    split at h
    next g => exact absurd h g
    next g =>
      split at h
      · exact absurd h (by decide)
      · intro w hw
        rcases List.mem_cons.1 hw with rfl | hw
        · exact Decidable.not_not.1 g
        · exact fits_may F V (by simpa using hl) h w hw
theorem value_bytes {s : ByteArray} {p : Nat} (hp : p ≤ s.size) {v : VZ} {m : Int} (h : takeV s (p : Int) = (v, m, 0)) :
    ∃ M : Nat, m = (M : Int) ∧ p ≤ M ∧ M ≤ s.size ∧ bytesV v.k v.n v.b v.t = (s.data.toList.drop p).take (M - p) ∧ v.In := by
  have hr : (bytesA (s.data.toList.drop p)).data.toList = s.data.toList.drop p := by simp [bytesA]
  have hs := left_size hr
  rw [takeV_on hp hr] at h
  obtain ⟨⟨w, j, e⟩, ht⟩ : ∃ t, t = takeV (bytesA (s.data.toList.drop p)) 0 := ⟨_, rfl⟩
  rw [← ht] at h
  unfold onE at h
  simp only [Prod.mk.injEq] at h
  obtain ⟨rfl, hm, rfl⟩ := h
  rw [if_pos rfl] at hm
  obtain ⟨k, n, b, t⟩ := w
  obtain ⟨M, rfl, hM, _, hby, h1, h2, h3, h4, h5⟩ := take_bytes _ ht.symm
  rw [hr] at hby
  refine ⟨p + M, by omega, by omega, by omega, ?_, h1, h2, h3, h4, by show t.size ≤ _; omega⟩
  rw [show p + M - p = M by omega]
  exact hby
end Go.Proofs.YtnldgmpfinlikaaGreat

