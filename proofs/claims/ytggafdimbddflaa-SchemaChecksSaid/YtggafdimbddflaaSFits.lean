/- telltalelaw06.SchemaFits answers true. Conditions: none. -/
import Derived.Test.YtggafdimbddflaaSAwk
import Derived.Test.YtggafdimbddflaaVR1
import Derived.Test.YtggafdimbddflaaBase
import Derived.Test.YtggafdimbddflaaVR3
import Derived.Test.YtggafdimbddflaaVR5
import Derived.Test.YtggafdimbddflaaVV1
import Derived.Test.YtggafdimbddflaaVV2
import Derived.Test.YtggafdimbddflaaVV4
import Derived.BigQuiet
import Derived.Lib.AppendZeros
namespace Go.Proofs.Ytggafdimbddflaa
open Go Go.RowKit

theorem TypesAt.of_block {w : World} {g : Nat} {N : ByteArray} {r : Value} {F : List FZ} {t : TypeId} (h : w.heap[g]? = some (.cells #[.string N, r] t (0, 0))) (hf : FieldsAt w r F) : TypesAt w (.slice (some ⟨g, 0, none⟩) 1 1) [⟨N, F⟩] := by
  refine ⟨_, 1, rfl, Nat.le_refl _, by unfold maxLen; omega, fun i hi => ?_⟩
  have : i = 0 := by simp at hi; omega
  subst this
  exact ⟨g, 0, r, rfl, (box2 h).1.1, (box2 h).1.2, hf⟩
/-- a type lies behind this address -/
def PtrAt (w : World) (v : Value) (t : TZ) : Prop := ∃ g o r, v = .pointer (some ⟨g, o, none⟩) ∧ w.cell? ⟨g, o, none⟩ = some (.string t.n) ∧ w.cell? ⟨g, o + 1, none⟩ = some r ∧ FieldsAt w r t.f
theorem PtrAt.ext {w w' : World} {v : Value} {t : TZ} (h : PtrAt w v t) (e : Ext w w') : PtrAt w' v t := by
  obtain ⟨g, o, r, h1, h2, h3, h4⟩ := h
  exact ⟨g, o, r, h1, e.cell h2, e.cell h3, h4.ext e⟩
end Go.Proofs.Ytggafdimbddflaa
