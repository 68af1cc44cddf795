/- How a contract ends: what is told, and that nothing that was there has turned. Conditions: none. -/
import Derived.Test.YtaahaehgdamkdaaProg
import Derived.Test.YtaahaehgdamkdaaMem
namespace Go.Proofs.Ytaahaehgdamkdaa
open Go Go.RowKit

/-- v is told, and nothing that was there has turned -/
def Says (w : World) (v : Value) (e : Ending) (w' : World) : Prop := e = .returned v ∧ Ext w w'
/-- new bytes are told, and nothing that was there has turned -/
def Told1 (w : World) (l : List UInt8) (e : Ending) (w' : World) : Prop := ∃ r, e = .returned r ∧ w'.ownsRow w.heap.size 5 1 r l.length (bvs l) ∧ Ext w w'
theorem Told1.mk {w w' : World} {l : List UInt8} {r : Value} {n : Nat} (hb : w'.ownsRow w.heap.size 5 1 r n (bvs l)) (hx : Ext w w') : Told1 w l (.returned r) w' := ⟨r, rfl, own_len hb, hx⟩

theorem Says.mk_int {w w' : World} {k : IntKind} {x y : Int} (h : x = y) (hx : Ext w w') : Says w (.int k y) (.returned (.int k x)) w' := by
  subst h
  exact ⟨rfl, hx⟩
/-- v is told, and the world is as it was -/
def Just (w : World) (v : Value) (e : Ending) (w' : World) : Prop := e = .returned v ∧ w' = w
theorem Just.mk_int {w : World} {k : IntKind} {x y : Int} (h : x = y) : Just w (.int k y) (.returned (.int k x)) w := by
  subst h
  exact ⟨rfl, rfl⟩
theorem Just.mk_bool {w : World} {x y : Bool} (h : x = y) : Just w (.bool y) (.returned (.bool x)) w := by
  subst h
  exact ⟨rfl, rfl⟩
theorem Just.says {w w' : World} {v : Value} {e : Ending} (h : Just w v e w') : Says w v e w' := ⟨h.1, by rw [h.2]; exact Ext.refl w⟩

theorem infoByte : (Try.prog.info? 5).map (fun i => (i.zero, i.size, i.bytes)) = some (some (.int .u8 0), 1, 1) := by kernel_rfl
end Go.Proofs.Ytaahaehgdamkdaa
