/- The document's Take of a value, by its contract. Conditions: the reach of a string. -/
import Derived.Test.YtbgapkhcaideiaaVR1
import Derived.Test.YtbgapkhcaideiaaBase
import Derived.BigQuiet
namespace Go.Proofs.Ytbgapkhcaideiaa
open Go Go.RowKit

/-- a value, a place and an error are told -/
def SaysV (w : World) (t : VZ × Int × Int) (e : Ending) (w' : World) : Prop := e = .returned (.tuple #[t.1.v, .int .i64 t.2.1, .int .i64 t.2.2]) ∧ Ext w w'
theorem SaysV.mk {w w' : World} {t : VZ × Int × Int} {k : Nat} {n : Int} {b : Nat} {s : ByteArray} {m e : Int} {v : Value} (h : t = (⟨k, n, b, s⟩, m, e)) (hv : v = vv k n b s) (hx : Ext w w') : SaysV w t (.returned (.tuple #[v, .int .i64 m, .int .i64 e])) w' := by
  subst h; subst hv
  exact ⟨rfl, hx⟩

theorem byte_at (s : ByteArray) (p : Nat) (h : p < s.size) : s.data.toList[p]?.getD 0 = s[p] := by
  rw [List.getElem?_eq_getElem (by rw [size_toList]; exact h)]
  rfl

theorem take_at (s : ByteArray) (p k : Nat) (h : p < s.size) (hk : s[p].toNat = k) (h1 : 1 ≤ k) (h4 : k ≤ 4) : takeV s (p : Int) = checkedV (restV s k (p + 1)) := by
  unfold takeV
  rw [if_neg (by omega), if_neg (by omega), Int.toNat_natCast, byte_at s p h, hk, if_neg (by omega)]
theorem checked_good {k : Nat} {n : Int} {b : Nat} {t : ByteArray} {m : Int} (h : checkV k n b t = 0) : checkedV (⟨k, n, b, t⟩, m, 0) = (⟨k, n, b, t⟩, m, 0) := by
  unfold checkedV
  rw [if_neg (fun h => h rfl), if_neg (fun h2 => h2 h)]
end Go.Proofs.Ytbgapkhcaideiaa
