/- The document's Reserved and Name, by their contracts. Conditions: none. -/
import Derived.Test.YtggafdimbddflaaBase
namespace Go.Proofs.Ytggafdimbddflaa
open Go Go.RowKit

theorem letters_step {i : Nat} {b : UInt8} {r : List UInt8} : lettersZ i (b :: r) = (letterZ i b.toNat && lettersZ (i + 1) r) := rfl
theorem letters_at {s : ByteArray} {i : Nat} (h : i < s.size) : lettersZ i (s.data.toList.drop i) = (letterZ i (s[i]'h).toNat && lettersZ (i + 1) (s.data.toList.drop (i + 1))) := by
  rw [List.drop_eq_getElem_cons (by rw [size_toList]; exact h), letters_step]
  rfl
theorem letters_last {s : ByteArray} : lettersZ s.size (s.data.toList.drop s.size) = true := by
  rw [List.drop_of_length_le (by rw [size_toList]; exact Nat.le_refl _)]
  rfl
theorem letter_of {i b : Nat} {r : Bool} (h : r = true ↔ (97 ≤ b ∧ b ≤ 122) ∨ (i ≠ 0 ∧ ((48 ≤ b ∧ b ≤ 57) ∨ b = 95))) : letterZ i b = r := by
  rw [Bool.eq_iff_iff, h]
  exact decide_eq_true_iff

theorem byte_ways (b : Nat) : ((97 : Int) ≤ (b : Int) ∧ (b : Int) ≤ 122) ∨ ((48 : Int) ≤ (b : Int) ∧ (b : Int) ≤ 57) ∨ (b : Int) = 95 ∨ ((b : Int) < 48 ∧ (b : Int) < 97) ∨ ((57 : Int) < (b : Int) ∧ (b : Int) < 97 ∧ (b : Int) ≠ 95) ∨ (122 : Int) < (b : Int) := by omega

end Go.Proofs.Ytggafdimbddflaa
