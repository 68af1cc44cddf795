/- Numbers laid one behind the other, and read. Plain; conditions: none. -/
import Derived.Test.YtldepfojgmhehaaZAwk
import Derived.Test.YtldepfojgmhehaaMem3
namespace Go.Proofs.Ytldepfojgmhehaa
open Go Go.RowKit

def zcat (L : List Nat) : List UInt8 := L.flatMap zb
theorem zcat_take (L : List Nat) (k : Nat) (h : k < L.length) : zcat (L.take (k + 1)) = zcat (L.take k) ++ zb L[k] := by
  unfold zcat
  rw [List.take_succ_eq_append_getElem h, List.flatMap_append, List.flatMap_singleton]
theorem zcat_split (L : List Nat) (j : Nat) (h : j < L.length) : zcat L = zcat (L.take j) ++ (zb L[j] ++ zcat (L.drop (j + 1))) := by
  have h1 : L = L.take j ++ (L[j] :: L.drop (j + 1)) := by rw [List.getElem_cons_drop, List.take_append_drop]
  have h2 : zcat (L.take j ++ (L[j] :: L.drop (j + 1))) = zcat (L.take j) ++ (zb L[j] ++ zcat (L.drop (j + 1))) := by
    unfold zcat
    rw [List.flatMap_append, List.flatMap_cons]
  rw [← h1] at h2
  exact h2
theorem zcat_length_le : ∀ (L : List Nat), (∀ u ∈ L, u ≤ 18446744073709551615) → (zcat L).length ≤ 10 * L.length := by
  intro L
  induction L with
  | nil => intro _; simp [zcat]
  | cons u L ih =>
    intro h
    have h1 := ih (fun v hv => h v (List.mem_cons_of_mem _ hv))
    have h2 := zs_ten (u := u) (by have := h u List.mem_cons_self; omega)
    have e : zcat (u :: L) = zb u ++ zcat L := rfl
    rw [e, List.length_append, zb_length, List.length_cons]
    omega
theorem zcat_take_le (L : List Nat) (hu : ∀ u ∈ L, u ≤ 18446744073709551615) (k : Nat) : (zcat (L.take k)).length ≤ 10 * L.length := by
  have h := zcat_length_le (L.take k) (fun u h => hu u (List.mem_of_mem_take h))
  have : (L.take k).length ≤ L.length := by rw [List.length_take]; omega
  omega

theorem size_ba (b : ByteArray) (T : List UInt8) (h : b.data.toList = T) : b.size = T.length := by rw [← h]; rfl

/-- a number in the midst of a text is read -/
theorem take_mid (b : ByteArray) (x y : List UInt8) (u : Nat) (hu : u ≤ 18446744073709551615) (hb : b.data.toList = x ++ (zb u ++ y)) :
    takeZ b (x.length : Int) = (u, (x.length : Int) + (zs u : Int), 0) := by
  have hs := size_ba b _ hb
  rw [List.length_append] at hs
  refine take_good (by omega) ?_
  rw [hb, List.drop_left]
  exact tk_zb (by omega) y

/-- of all but its last byte it isn't -/
theorem take_short (b : ByteArray) (x : List UInt8) (u : Nat) (hu : u ≤ 18446744073709551615) (hb : b.data.toList = (x ++ zb u).take (x.length + zs u - 1)) :
    takeZ b (x.length : Int) = (0, 0, 3) := by
  have hp := (zs_spec u).1
  have e : (x ++ zb u).take (x.length + zs u - 1) = x ++ hi (zs u - 1) u := by
    rw [List.take_append, List.take_of_length_le (by omega), show x.length + zs u - 1 - x.length = zs u - 1 by omega, zb, List.take_append, hi_length, Nat.sub_self, List.take_zero, List.append_nil, List.take_of_length_le (by rw [hi_length]; omega)]
  rw [e] at hb
  have hs := size_ba b _ hb
  rw [List.length_append] at hs
  refine take_bad (by omega) ?_ (by decide)
  rw [hb, List.drop_left]
  exact tk_cut (by omega)

/-- what is read at first -/
theorem take_first (b : ByteArray) : ∃ (U M : Nat) (E : Int), takeZ b 0 = (U, (M : Int), E) ∧ U ≤ 18446744073709551615 ∧ (E = 0 → M ≤ b.size ∧ b.extract 0 M = ⟨(zb U).toArray⟩) := by
  obtain ⟨⟨U, n, E⟩, ht⟩ : ∃ t, t = tk (b.data.toList.drop 0) 0 0 := ⟨_, rfl⟩
  by_cases he : E = 0
  · subst he
    have h1 := take_good (s := b) (p := 0) (Nat.zero_le _) ht.symm
    have h2 := tk_inv _ 0 0 U n (by decide) (by omega) ht.symm
    refine ⟨U, n, 0, by simpa using h1, by have := h2.2.2.1; omega, fun _ => ⟨?_, ?_⟩⟩
    · have := h2.2.1
      rw [List.drop_zero, size_toList] at this
      omega
    · refine ba_eq ?_
      rw [ByteArray.data_extract]
      have h3 := h2.2.2.2
      rw [List.drop_zero] at h3
      show (b.data.extract 0 n).toList = zb U
      rw [← h3, hi, List.nil_append]
      simp
  · refine ⟨0, 0, E, ?_, by omega, fun h => absurd h he⟩
    have h0 : U = 0 := tk_zero ht.symm he
    subst h0
    have h1 : takeZ b ((0 : Nat) : Int) = (0, 0, E) := by
      unfold takeZ
      rw [if_neg (by omega), Int.toNat_natCast, ← ht]
      simp [he]
    simpa using h1

end Go.Proofs.Ytldepfojgmhehaa
