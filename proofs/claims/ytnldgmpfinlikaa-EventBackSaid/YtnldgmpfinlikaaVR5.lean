/- The document's Take of a value, by its contract. Conditions: the reach of a string. -/
import Derived.Test.YtnldgmpfinlikaaVR1
import Derived.Test.YtnldgmpfinlikaaBase
import Derived.Test.YtnldgmpfinlikaaGOct4
import Derived.BigQuiet
namespace Go.Proofs.Ytnldgmpfinlikaa
open Go Go.RowKit

/-- a value, a place and an error are told -/
def SaysV (w : World) (t : VZ × Int × Int) (e : Ending) (w' : World) : Prop := e = .returned (.tuple #[t.1.v, .int .i64 t.2.1, .int .i64 t.2.2]) ∧ Ext w w'
theorem SaysV.mk {w w' : World} {t : VZ × Int × Int} {k : Nat} {n : Int} {b : Nat} {s : ByteArray} {m e : Int} {v : Value} (h : t = (⟨k, n, b, s⟩, m, e)) (hv : v = vv k n b s) (hx : Ext w w') : SaysV w t (.returned (.tuple #[v, .int .i64 m, .int .i64 e])) w' := by
  subst h; subst hv
  exact ⟨rfl, hx⟩

/-- a struct in a cell and two plain values are answered -/
theorem ret_cell_tmp2 {P : Program} {fn : Func} {p u x : Tmp} {ty : TypeId} (h : fn.results = #[.cell p ty, .tmp u, .tmp x]) (tmps : Array Value) (w : World) (g : Nat) (t : TypeId) (cs : Array Value) (fr : Nat × Nat) (d : TypeDesc)
    (hp : tmps.getD p undef = .pointer (some ⟨g, 0, none⟩)) (hg : w.heap[g]? = some (.cells cs t fr))
    (hu : P.underlying ty = some d) (hd : (match d with | .struct _ | .array _ _ => true | _ => false) = true) (hi : (P.info? ty).map (·.size) = some cs.size) :
    (results fn tmps).run P w = .ok (.tuple #[.agg cs, tmps.getD u undef, tmps.getD x undef]) w := by
  have hp' : tmps[p]?.getD undef = .pointer (some ⟨g, 0, none⟩) := by simpa using hp
  simp [results, h, hp', asAddr, run_loadVar_row w g t ty cs fr d hg hu hd hi]

/-- a struct of four cells, stored cell by cell -/
theorem set4 {x : World} {g : Nat} {u0 u1 u2 u3 a b c d : Value} {t : TypeId} (h : x.heap[g]? = some (.cells #[u0, u1, u2, u3] t (0, 0))) :
    ((((x.setCell ⟨g, 0, none⟩ a).setCell ⟨g, 1, none⟩ b).setCell ⟨g, 2, none⟩ c).setCell ⟨g, 3, none⟩ d).heap[g]? = some (.cells #[a, b, c, d] t (0, 0)) := by
  have h1 := heap_setCell_same x g 0 _ t a h
  have h2 := heap_setCell_same _ g 1 _ t b h1
  have h3 := heap_setCell_same _ g 2 _ t c h2
  have h4 := heap_setCell_same _ g 3 _ t d h3
  simpa using h4

theorem byte_at (s : ByteArray) (p : Nat) (h : p < s.size) : s.data.toList[p]?.getD 0 = s[p] := by
  rw [List.getElem?_eq_getElem (by rw [size_toList]; exact h)]
  rfl

theorem take_at (s : ByteArray) (p k : Nat) (h : p < s.size) (hk : s[p].toNat = k) (h1 : 1 ≤ k) (h4 : k ≤ 4) : takeV s (p : Int) = checkedV (restV s k (p + 1)) := by
  unfold takeV
  rw [if_neg (by omega), if_neg (by omega), Int.toNat_natCast, byte_at s p h, hk, if_neg (by omega)]
theorem take_none (s : ByteArray) (p : Nat) (h : p < s.size) (hk : s[p].toNat < 1 ∨ 4 < s[p].toNat) : takeV s (p : Int) = failV 11 := by
  unfold takeV
  rw [if_neg (by omega), if_neg (by omega), Int.toNat_natCast, byte_at s p h, if_pos hk]
theorem checked_fail (e : Int) (h : e ≠ 0) : checkedV (failV e) = failV e := if_pos h
theorem checked_good {k : Nat} {n : Int} {b : Nat} {t : ByteArray} {m : Int} (h : checkV k n b t = 0) : checkedV (⟨k, n, b, t⟩, m, 0) = (⟨k, n, b, t⟩, m, 0) := by
  unfold checkedV
  rw [if_neg (fun h => h rfl), if_neg (fun h2 => h2 h)]
theorem checked_bad {k : Nat} {n : Int} {b : Nat} {t : ByteArray} {m : Int} (h : checkV k n b t ≠ 0) : checkedV (⟨k, n, b, t⟩, m, 0) = failV (checkV k n b t) := by
  unfold checkedV
  rw [if_neg (fun h => h rfl), if_pos h]

theorem takeZ_shape (s : ByteArray) (p : Nat) (h : p ≤ s.size) : (∃ E : Int, takeZ s (p : Int) = (0, 0, E) ∧ E ≠ 0) ∨ (∃ U m : Nat, takeZ s (p : Int) = (U, (m : Int), 0) ∧ p < m ∧ m ≤ s.size ∧ U ≤ 18446744073709551615) := by
  obtain ⟨⟨u, n, e⟩, ht⟩ : ∃ t, t = tk (s.data.toList.drop p) 0 0 := ⟨_, rfl⟩
  by_cases he : e = 0
  · subst he
    have h1 := tk_inv _ 0 0 u n (by decide) (by omega) ht.symm
    have h2 := h1.2.1
    rw [List.length_drop, size_toList] at h2
    refine Or.inr ⟨u, p + n, ?_, by omega, by omega, by omega⟩
    rw [take_good h ht.symm]
    rfl
  · have h0 := tk_zero ht.symm he
    subst h0
    refine Or.inl ⟨e, ?_, he⟩
    unfold takeZ
    rw [if_neg (by omega), Int.toNat_natCast, ← ht]
    simp [he]

end Go.Proofs.Ytnldgmpfinlikaa
