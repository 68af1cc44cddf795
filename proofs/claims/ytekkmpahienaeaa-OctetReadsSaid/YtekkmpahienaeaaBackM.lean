/- What is laid one behind the other, and what is read of it. Plain; conditions: none. -/
import Derived.Test.YtekkmpahienaeaaAwk
namespace Go.Proofs.Ytekkmpahienaeaa
open Go Go.RowKit

/-- a number of six bytes and one of eight -/
def lay2 (u : Nat) : List UInt8 := be 6 (u % 281474976710656) ++ be 8 u
def layAll (L : List Nat) : List UInt8 := L.flatMap lay2

theorem lay2_length (u : Nat) : (lay2 u).length = 14 := by simp [lay2, be_length]
theorem layAll_length (L : List Nat) : (layAll L).length = 14 * L.length := by
  induction L with
  | nil => rfl
  | cons u L ih =>
    have : layAll (u :: L) = lay2 u ++ layAll L := rfl
    rw [this, List.length_append, lay2_length, ih, List.length_cons]; omega
theorem layAll_snoc (L : List Nat) (u : Nat) : layAll (L ++ [u]) = layAll L ++ lay2 u := by simp [layAll]
theorem layAll_take (L : List Nat) (k : Nat) (h : k < L.length) : layAll (L.take (k + 1)) = (layAll (L.take k) ++ be 6 (L[k] % 281474976710656)) ++ be 8 L[k] := by
  rw [List.take_succ_eq_append_getElem h, layAll_snoc, lay2, List.append_assoc]

/-- the cut of a text that is known piece by piece -/
theorem cut_mid (a b c : List UInt8) (p n : Nat) (hp : p = a.length) (hn : n = b.length) : (cutOf ⟨(a ++ (b ++ c)).toArray⟩ p n).data.toList = b := by
  subst hp; subst hn
  unfold cutOf
  rw [ByteArray.data_extract]
  simp

theorem left_mid (l : List UInt8) (p : Nat) (h : p ≤ l.length) : leftOf ⟨l.toArray⟩ (p : Int) = (l.length : Int) - p := by
  unfold leftOf
  have e : (⟨l.toArray⟩ : ByteArray).size = l.length := by simp [ByteArray.size]
  rw [e, if_neg (by omega)]

/-- what is there is taken -/
theorem take_mid (a b c : List UInt8) : takeP ⟨(a ++ (b ++ c)).toArray⟩ (a.length : Int) 0 b.length = ((a.length + b.length : Nat) : Int) ∧ takeE ⟨(a ++ (b ++ c)).toArray⟩ (a.length : Int) 0 b.length = 0 ∧
    (takeB ⟨(a ++ (b ++ c)).toArray⟩ (a.length : Int) 0 b.length).data.toList = b := by
  have h : ¬ leftOf ⟨(a ++ (b ++ c)).toArray⟩ (a.length : Int) < (b.length : Int) := by
    rw [left_mid _ _ (by simp)]
    simp only [List.length_append]
    omega
  obtain ⟨h1, h2, h3⟩ := take_fine h
  refine ⟨by rw [h1]; omega, h2, ?_⟩
  rw [h3, Int.toNat_natCast, Int.toNat_natCast]
  exact cut_mid a b c _ _ rfl rfl

theorem num_mid (a c l : List UInt8) (i : Nat) (hi : i < 256 ^ 6) (hl : l = a ++ (be 6 i ++ c)) :
    numP ⟨l.toArray⟩ (a.length : Int) 0 6 = ((a.length + 6 : Nat) : Int) ∧ numE ⟨l.toArray⟩ (a.length : Int) 0 6 = 0 ∧ numN ⟨l.toArray⟩ (a.length : Int) 0 6 = i := by
  subst hl
  obtain ⟨h1, h2, h3⟩ := take_mid a (be 6 i) c
  rw [be_length] at h1 h2 h3
  refine ⟨(if_neg (by omega)).trans h1, (if_neg (by omega)).trans h2, (if_neg (by omega)).trans ?_⟩
  show worth (takeB _ _ 0 ((6 : Nat) : Int)).data.toList = i
  rw [h3, worth_be, Nat.mod_eq_of_lt hi]

theorem word_mid (a c l : List UInt8) (u : Nat) (hu : u < 256 ^ 8) (hl : l = a ++ (be 8 u ++ c)) :
    takeP ⟨l.toArray⟩ (a.length : Int) 0 8 = ((a.length + 8 : Nat) : Int) ∧ takeE ⟨l.toArray⟩ (a.length : Int) 0 8 = 0 ∧ worth (takeB ⟨l.toArray⟩ (a.length : Int) 0 8).data.toList = u := by
  subst hl
  obtain ⟨h1, h2, h3⟩ := take_mid a (be 8 u) c
  rw [be_length] at h1 h2 h3
  refine ⟨h1, h2, ?_⟩
  show worth (takeB _ _ 0 ((8 : Nat) : Int)).data.toList = u
  rw [h3, worth_be, Nat.mod_eq_of_lt hu]

theorem str_mid (a S l : List UInt8) (hS : S.length ≤ 65535) (hl : l = a ++ (be 2 S.length ++ S)) :
    strE ⟨l.toArray⟩ (a.length : Int) 0 = 0 ∧ strP ⟨l.toArray⟩ (a.length : Int) 0 = (l.length : Int) ∧ (strB ⟨l.toArray⟩ (a.length : Int) 0).data.toList = S := by
  obtain ⟨h1, h2, h3⟩ := take_mid a (be 2 S.length) S
  rw [be_length] at h1 h2 h3
  rw [← hl] at h1 h2 h3
  have n1 : numP ⟨l.toArray⟩ (a.length : Int) 0 2 = ((a.length + 2 : Nat) : Int) := (if_neg (by omega)).trans h1
  have n2 : numE ⟨l.toArray⟩ (a.length : Int) 0 2 = 0 := (if_neg (by omega)).trans h2
  have n3 : strN ⟨l.toArray⟩ (a.length : Int) 0 = S.length := by
    show numN _ _ _ 2 = S.length
    refine (if_neg (by omega)).trans ?_
    show worth (takeB _ _ 0 ((2 : Nat) : Int)).data.toList = S.length
    rw [h3, worth_be, Nat.mod_eq_of_lt (by omega)]
  obtain ⟨g1, g2, g3⟩ := take_mid (a ++ be 2 S.length) S []
  have e : (a ++ be 2 S.length) ++ (S ++ []) = l := by rw [hl]; simp
  have e2 : (a ++ be 2 S.length).length = a.length + 2 := by simp [be_length]
  rw [e, e2] at g1 g2 g3
  have t0 : strT ⟨l.toArray⟩ (a.length : Int) 0 = 0 := by
    unfold strT
    rw [n1, n2, n3]
    exact g2
  refine ⟨?_, ?_, ?_⟩
  · unfold strE; rw [if_pos t0]
  · unfold strP
    rw [if_pos t0, n1, n2, n3, g1, hl]
    simp [be_length]; omega
  · unfold strB
    rw [if_pos t0, n1, n2, n3]
    exact g3

theorem str_cut (S l : List UInt8) (hS : S.length ≤ 65535) (hl : l = (be 2 S.length ++ S).take (S.length + 1)) : strE ⟨l.toArray⟩ 0 0 = 3 := by
  have hlen : l.length = S.length + 1 := by rw [hl]; simp [be_length]; omega
  by_cases h0 : S.length = 0
  · have hc : leftOf ⟨l.toArray⟩ ((0 : Nat) : Int) < (2 : Int) := by
      rw [left_mid l 0 (Nat.zero_le _)]; omega
    obtain ⟨h1, h2, h3⟩ := take_cut hc
    have n1 : numP ⟨l.toArray⟩ 0 0 2 = 0 := (if_neg (by omega)).trans h1
    have n2 : numE ⟨l.toArray⟩ 0 0 2 = 3 := (if_neg (by omega)).trans h2
    have t3 : strT ⟨l.toArray⟩ 0 0 = 3 := by
      unfold strT
      rw [n1, n2]
      exact (take_err (by omega)).2.1
    unfold strE
    rw [t3, if_neg (by omega), if_pos rfl]
  · have hl2 : l = [] ++ (be 2 S.length ++ S.take (S.length - 1)) := by
      rw [hl, List.take_append, be_length]
      simp only [List.nil_append]
      rw [List.take_of_length_le (by rw [be_length]; omega)]
      congr 1
    obtain ⟨h1, h2, h3⟩ := take_mid [] (be 2 S.length) (S.take (S.length - 1))
    rw [be_length] at h1 h2 h3
    rw [← hl2] at h1 h2 h3
    have n1 : numP ⟨l.toArray⟩ 0 0 2 = 2 := (if_neg (by omega)).trans h1
    have n2 : numE ⟨l.toArray⟩ 0 0 2 = 0 := (if_neg (by omega)).trans h2
    have n3 : strN ⟨l.toArray⟩ 0 0 = S.length := by
      show numN _ _ _ 2 = S.length
      refine (if_neg (by omega)).trans ?_
      show worth (takeB _ ((([] : List UInt8).length : Nat) : Int) 0 ((2 : Nat) : Int)).data.toList = S.length
      rw [h3, worth_be, Nat.mod_eq_of_lt (by omega)]
    have hc : leftOf ⟨l.toArray⟩ ((2 : Nat) : Int) < (S.length : Int) := by
      rw [left_mid l 2 (by omega)]; omega
    have t3 : strT ⟨l.toArray⟩ 0 0 = 3 := by
      unfold strT
      rw [n1, n2, n3]
      exact (take_cut hc).2.1
    unfold strE
    rw [t3, if_neg (by omega), if_pos rfl]

theorem layAll_split (L : List Nat) (j : Nat) (h : j < L.length) :
    layAll L = layAll (L.take j) ++ (be 6 (L[j] % 281474976710656) ++ (be 8 L[j] ++ layAll (L.drop (j + 1)))) := by
  have h1 : L = L.take j ++ (L[j] :: L.drop (j + 1)) := by rw [List.getElem_cons_drop, List.take_append_drop]
  have h2 : layAll (L.take j ++ (L[j] :: L.drop (j + 1))) = layAll (L.take j) ++ (lay2 L[j] ++ layAll (L.drop (j + 1))) := by
    unfold layAll
    rw [List.flatMap_append, List.flatMap_cons]
  rw [← h1] at h2
  rw [h2, lay2, List.append_assoc]

theorem layAll_take_length (L : List Nat) (j : Nat) (h : j ≤ L.length) : (layAll (L.take j)).length = 14 * j := by
  rw [layAll_length, List.length_take, Nat.min_eq_left h]

/-- what is read at place j -/
theorem reads_at (L : List Nat) (j u i : Nat) (tail T : List UInt8) (h : j < L.length) (hu : u = L[j]) (hul : u ≤ 18446744073709551615) (hi : i = u % 281474976710656) (hT : T = layAll L ++ tail) :
    (numP ⟨T.toArray⟩ (14 * (j : Int)) 0 6 = 14 * (j : Int) + 6 ∧ numE ⟨T.toArray⟩ (14 * (j : Int)) 0 6 = 0 ∧ numN ⟨T.toArray⟩ (14 * (j : Int)) 0 6 = i) ∧
    (takeP ⟨T.toArray⟩ (14 * (j : Int) + 6) 0 8 = 14 * (j : Int) + 14 ∧ takeE ⟨T.toArray⟩ (14 * (j : Int) + 6) 0 8 = 0 ∧ worth (takeB ⟨T.toArray⟩ (14 * (j : Int) + 6) 0 8).data.toList = u) ∧
    leftOf ⟨T.toArray⟩ (14 * (j : Int) + 14) = (T.length : Int) - (14 * (j : Int) + 14) := by
  have hl := layAll_take_length L j (Nat.le_of_lt h)
  have hs := layAll_split L j h
  rw [← hu, ← hi] at hs
  have hlen : T.length = 14 * L.length + tail.length := by rw [hT, List.length_append, layAll_length]
  refine ⟨?_, ?_, ?_⟩
  · obtain ⟨h1, h2, h3⟩ := num_mid (layAll (L.take j)) (be 8 u ++ (layAll (L.drop (j + 1)) ++ tail)) T i (by omega) (by rw [hT, hs]; simp)
    rw [hl] at h1 h2 h3
    refine ⟨?_, ?_, ?_⟩
    · have : ((14 * j : Nat) : Int) = 14 * (j : Int) := by omega
      rw [this] at h1; rw [h1]; omega
    · have : ((14 * j : Nat) : Int) = 14 * (j : Int) := by omega
      rw [this] at h2; exact h2
    · have : ((14 * j : Nat) : Int) = 14 * (j : Int) := by omega
      rw [this] at h3; exact h3
  · obtain ⟨h1, h2, h3⟩ := word_mid (layAll (L.take j) ++ be 6 i) (layAll (L.drop (j + 1)) ++ tail) T u (by omega) (by rw [hT, hs]; simp)
    have e : (((layAll (L.take j) ++ be 6 i).length : Nat) : Int) = 14 * (j : Int) + 6 := by rw [List.length_append, be_length, hl]; omega
    rw [e] at h1 h2 h3
    refine ⟨?_, h2, h3⟩
    rw [h1, List.length_append, be_length, hl]; omega
  · have h1 := left_mid T (14 * j + 14) (by rw [hlen]; omega)
    have : ((14 * j + 14 : Nat) : Int) = 14 * (j : Int) + 14 := by omega
    rw [this] at h1; exact h1

theorem ba_eq {a b : ByteArray} (h : a.data.toList = b.data.toList) : a = b := by
  cases a
  cases b
  congr 1
  exact Array.toList_inj.1 h

theorem Lies.open_at {w : World} {A : Option Addr} {xs : List Value} (h : Lies w A xs) {k : Nat} (hk : k < xs.length) : ∃ b off, A = some ⟨b, off, none⟩ ∧ w.cell? ⟨b, off + k, none⟩ = some xs[k] := by
  obtain ⟨ad, ha, hc⟩ := h (by intro e; subst e; simp at hk)
  obtain ⟨b, off, spot⟩ := ad
  have hspot : spot = none := by simpa [Addr.add] using World.cell?_spot (hc 0 _ (List.getElem?_eq_getElem (by omega)))
  subst hspot
  exact ⟨b, off, ha, by rw [← Addr.add_lit]; exact hc k _ (List.getElem?_eq_getElem hk)⟩

end Go.Proofs.Ytekkmpahienaeaa
