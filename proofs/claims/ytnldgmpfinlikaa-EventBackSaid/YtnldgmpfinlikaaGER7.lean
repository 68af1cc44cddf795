/- Several texts in one: ER7, ER8. Conditions: those of each. -/
import Derived.BigQuiet
import Derived.Test.YtnldgmpfinlikaaER5
import Derived.Test.YtnldgmpfinlikaaGSMem2
import Derived.Test.YtnldgmpfinlikaaGVBackM
import Derived.Test.YtnldgmpfinlikaaBase
import Derived.Test.YtnldgmpfinlikaaVR1
import Derived.Test.YtnldgmpfinlikaaGOct4
import Derived.Test.YtnldgmpfinlikaaER4
import Derived.Test.YtnldgmpfinlikaaVR5
/- The document's Put of an event, by its contract. Conditions: numbers within their kinds, texts of up to 2^40 bytes. -/
namespace Go.Proofs.Ytnldgmpfinlikaa
open Go Go.RowKit

/-- a value's bytes -/
def bVal (x : VZ) : List UInt8 := bytesV x.k x.n x.b x.t
theorem bVals_len : ∀ (V : List VZ), (∀ v ∈ V, checkV v.k v.n v.b v.t = 0) → (V.flatMap bVal).length ≤ 100 * V.length
  | [], _ => Nat.le_refl _
  | v :: V, h => by
    have h1 := bytes_len (h v (List.mem_cons_self ..))
    have h2 := bVals_len V (fun x hx => h x (List.mem_cons_of_mem _ hx))
    rw [List.flatMap_cons, List.length_append, List.length_cons]
    show (bytesV v.k v.n v.b v.t).length + _ ≤ _
    omega
theorem zb_ten (u : Nat) (h : u ≤ 18446744073709551615) : (zb u).length ≤ 10 := by rw [zb_length]; exact zs_ten (by omega)
theorem u64_wrap (n : Nat) (h : n ≤ 18446744073709551615) : IntKind.u64.wrap (n : Int) = (n : Int) := by
  rw [IntKind.wrap_u64]
  omega
/-- what is known of an event that may be -/
theorem event_known {T : List TZ} {e : EZ} (h : checkE T e = 0) : (0 ≤ e.m ∧ e.m ≤ 1099511627776) ∧ (0 ≤ e.o ∧ e.o < 16) ∧ (0 ≤ e.q ∧ e.q ≤ 1099511627776) ∧ placeE e.n T < T.length ∧ T.length ≤ 12 ∧ e.v.length ≤ 12 ∧ ∀ v ∈ e.v, checkV v.k v.n v.b v.t = 0 := by
  obtain ⟨h1, h2, h3, h4⟩ := checkE_ok h
  obtain ⟨h5, h6, _⟩ := find_placeE e.n T h3
  have hs := check_small h1
  unfold boundE at h2
  have hf : e.v.length = (findZ e.n T).1.f.length := by
    unfold fitsZ at h4
    by_cases hl : e.v.length ≠ (findZ e.n T).1.f.length
    · rw [if_pos hl] at h4; cases h4
    · exact Classical.not_not.1 hl
  have hfit : fitZ (findZ e.n T).1.f e.v = 0 := by
    unfold fitsZ at h4
    rwa [if_neg (fun k => k hf)] at h4
  have hmem : (findZ e.n T).1 ∈ T := by
    rw [← h6, List.getD_eq_getElem?_getD, List.getElem?_eq_getElem h5]
    exact List.getElem_mem h5
  refine ⟨by omega, by omega, by omega, h5, hs.1, ?_, fits_may _ _ hf hfit⟩
  have := (hs.2 _ hmem).2.1
  omega

end Go.Proofs.Ytnldgmpfinlikaa

/- The document's Take of an event, by its contract. Conditions: numbers within their kinds, texts of up to 2^20 bytes. -/
namespace Go.Proofs.Ytnldgmpfinlikaa
open Go Go.RowKit

/-- an event is told, a place, an error -/
def SaysE (w : World) (t : EZ × Int × Int) (e : Ending) (w' : World) : Prop := ∃ v, e = .returned (.tuple #[v, .int .i64 t.2.1, .int .i64 t.2.2]) ∧ EventV w' v t.1 ∧ Ext w w'
/-- what was read ahead of the rest -/
def joinE {α : Type} (done : List α) (x : List α × Int × Int) : List α × Int × Int := if x.2.2 = 0 then (done ++ x.1, x.2.1, 0) else ([], 0, x.2.2)
theorem numsE_step (s : ByteArray) (k : Nat) (p : Int) : numsE s (k + 1) p = if (takeZ s p).2.2 ≠ 0 then ([], 0, (takeZ s p).2.2)
    else if (numsE s k (takeZ s p).2.1).2.2 ≠ 0 then ([], 0, (numsE s k (takeZ s p).2.1).2.2)
    else ((takeZ s p).1 :: (numsE s k (takeZ s p).2.1).1, (numsE s k (takeZ s p).2.1).2.1, 0) := rfl
theorem valsE_step (s : ByteArray) (k : Nat) (p : Int) : valsE s (k + 1) p = if (takeV s p).2.2 ≠ 0 then ([], 0, (takeV s p).2.2)
    else if (valsE s k (takeV s p).2.1).2.2 ≠ 0 then ([], 0, (valsE s k (takeV s p).2.1).2.2)
    else ((takeV s p).1 :: (valsE s k (takeV s p).2.1).1, (valsE s k (takeV s p).2.1).2.1, 0) := rfl
theorem joinE_nil {α : Type} {x : List α × Int × Int} (h : x.2.2 ≠ 0 → x = ([], 0, x.2.2)) : joinE [] x = x := by
  unfold joinE
  obtain ⟨a, b, c⟩ := x
  by_cases hc : c = 0
  · subst hc; rfl
  · rw [if_neg hc]
    exact (h hc).symm
theorem numsE_bad (s : ByteArray) : ∀ (k : Nat) (p : Int), (numsE s k p).2.2 ≠ 0 → numsE s k p = ([], 0, (numsE s k p).2.2)
  | 0, _, h => absurd rfl h
  | k + 1, p, h => by
    rw [numsE_step] at h ⊢
    by_cases h1 : (takeZ s p).2.2 ≠ 0
    · rw [if_pos h1]
    · rw [if_neg h1] at h ⊢
      by_cases h2 : (numsE s k (takeZ s p).2.1).2.2 ≠ 0
      · rw [if_pos h2]
      · rw [if_neg h2] at h
        exact absurd rfl h
theorem valsE_bad (s : ByteArray) : ∀ (k : Nat) (p : Int), (valsE s k p).2.2 ≠ 0 → valsE s k p = ([], 0, (valsE s k p).2.2)
  | 0, _, h => absurd rfl h
  | k + 1, p, h => by
    rw [valsE_step] at h ⊢
    by_cases h1 : (takeV s p).2.2 ≠ 0
    · rw [if_pos h1]
    · rw [if_neg h1] at h ⊢
      by_cases h2 : (valsE s k (takeV s p).2.1).2.2 ≠ 0
      · rw [if_pos h2]
      · rw [if_neg h2] at h
        exact absurd rfl h
theorem joinN_step {s : ByteArray} {k : Nat} {p : Int} {done : List Nat} (h : (takeZ s p).2.2 = 0) : joinE done (numsE s (k + 1) p) = joinE (done ++ [(takeZ s p).1]) (numsE s k (takeZ s p).2.1) := by
  rw [numsE_step, if_neg (fun g => g h)]
  generalize numsE s k (takeZ s p).2.1 = x
  obtain ⟨a, b, c⟩ := x
  by_cases hc : c = 0
  · subst hc
    simp [joinE]
  · simp [joinE, hc]
theorem joinN_bad {s : ByteArray} {k : Nat} {p : Int} {done : List Nat} (h : (takeZ s p).2.2 ≠ 0) : joinE done (numsE s (k + 1) p) = ([], 0, (takeZ s p).2.2) := by
  rw [numsE_step, if_pos h]
  exact if_neg h
theorem joinV_step {s : ByteArray} {k : Nat} {p : Int} {done : List VZ} (h : (takeV s p).2.2 = 0) : joinE done (valsE s (k + 1) p) = joinE (done ++ [(takeV s p).1]) (valsE s k (takeV s p).2.1) := by
  rw [valsE_step, if_neg (fun g => g h)]
  generalize valsE s k (takeV s p).2.1 = x
  obtain ⟨a, b, c⟩ := x
  by_cases hc : c = 0
  · subst hc
    simp [joinE]
  · simp [joinE, hc]
theorem joinV_bad {s : ByteArray} {k : Nat} {p : Int} {done : List VZ} (h : (takeV s p).2.2 ≠ 0) : joinE done (valsE s (k + 1) p) = ([], 0, (takeV s p).2.2) := by
  rw [valsE_step, if_pos h]
  exact if_neg h
theorem set5 {x : World} {g : Nat} {u0 u1 u2 u3 u4 a b c d e : Value} {t : TypeId} (h : x.heap[g]? = some (.cells #[u0, u1, u2, u3, u4] t (0, 0))) :
    (((((x.setCell ⟨g, 0, none⟩ a).setCell ⟨g, 1, none⟩ b).setCell ⟨g, 2, none⟩ c).setCell ⟨g, 3, none⟩ d).setCell ⟨g, 4, none⟩ e).heap[g]? = some (.cells #[a, b, c, d, e] t (0, 0)) := by
  have h1 := heap_setCell_same x g 0 _ t a h
  have h2 := heap_setCell_same _ g 1 _ t b h1
  have h3 := heap_setCell_same _ g 2 _ t c h2
  have h4 := heap_setCell_same _ g 3 _ t d h3
  have h5 := heap_setCell_same _ g 4 _ t e h4
  simpa using h5
theorem EventV.none_ (w : World) : EventV w (.agg #[.int .i64 0, .int .i64 0, .int .i64 0, .string noText, .slice none 0 0]) EZ.none :=
  ⟨.slice none 0 0, rfl, ⟨none, 0, rfl, Nat.le_refl _, by unfold maxLen; omega, fun _ h => absurd h (Nat.not_lt_zero _)⟩⟩

end Go.Proofs.Ytnldgmpfinlikaa

