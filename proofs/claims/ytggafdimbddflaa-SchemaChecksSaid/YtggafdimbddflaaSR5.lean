/- The document's cut and kind, by their contracts. Conditions: numbers within their kinds. -/
import Derived.Test.YtggafdimbddflaaSR4
import Derived.BigQuiet
namespace Go.Proofs.Ytggafdimbddflaa
open Go Go.RowKit

theorem bytesA_list (l : List UInt8) : (bytesA l).data.toList = l := rfl
theorem bytesA_self (s : ByteArray) : bytesA s.data.toList = s := ba_eq rfl
theorem extract_take (s : ByteArray) (i : Nat) : s.extract 0 i = bytesA (s.data.toList.take i) := by
  refine ba_eq ?_
  rw [bytesA_list]
  simp
theorem extract_drop (s : ByteArray) (i : Nat) : s.extract i s.size = bytesA (s.data.toList.drop i) := by
  refine ba_eq ?_
  rw [bytesA_list]
  simp
  exact List.take_of_length_le (by rw [List.length_drop, size_toList]; exact Nat.le_refl _)
/-- what the document's cut tells, as texts -/
def SaysCut (w : World) (c : UInt8) (s : ByteArray) (e : Ending) (w' : World) : Prop :=
  e = .returned (.tuple #[.string (bytesA (cutZ c s.data.toList).1), .string (bytesA (cutZ c s.data.toList).2.1), .bool (cutZ c s.data.toList).2.2]) ∧ Ext w w'

theorem kind_at {i : Nat} {s : ByteArray} (h1 : 1 ≤ i) (h4 : i ≤ 4) (h : wordV i = s) : kindOf s.data.toList = i := by
  subst h
  have : i = 1 ∨ i = 2 ∨ i = 3 ∨ i = 4 := by omega
  rcases this with rfl | rfl | rfl | rfl
  all_goals decide
theorem kind_no {s : ByteArray} (h : ∀ j, 1 ≤ j → j < 5 → wordV j ≠ s) : kindOf s.data.toList = 0 := by
  unfold kindOf
  rw [if_neg (fun e => h 1 (by omega) (by omega) (ba_eq e.symm)), if_neg (fun e => h 2 (by omega) (by omega) (ba_eq e.symm)), if_neg (fun e => h 3 (by omega) (by omega) (ba_eq e.symm)), if_neg (fun e => h 4 (by omega) (by omega) (ba_eq e.symm))]

end Go.Proofs.Ytggafdimbddflaa
