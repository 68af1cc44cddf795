/- Sums of bytes: what the document tells of them. Plain; conditions: none. -/
import Derived.Test.YtbgapkhcaideiaaBase
namespace Go.Proofs.Ytbgapkhcaideiaa
open Go Go.RowKit

/-- one byte more -/
def stepH (s : Nat) (b : UInt8) : Nat := ((s ^^^ b.toNat) * 1099511628211) % 18446744073709551616
def addH (s : Nat) (l : List UInt8) : Nat := l.foldl stepH s
/-- two ways of mixing bits, one behind the other -/
def turnH (u k c : Nat) : Nat := ((u ^^^ u / k) * c) % 18446744073709551616
def mixH (u : Nat) : Nat := turnH (turnH u 1073741824 13787848793156543929) 134217728 10723151780598845931 ^^^ turnH (turnH u 1073741824 13787848793156543929) 134217728 10723151780598845931 / 2147483648
def bareH (p : Int) : UInt8 := UInt8.ofNat (p.emod 256).toNat
def workerH (l : List UInt8) (n : Int) : Int := if n < 1 then 0 else ((mixH (addH 14695981039346656037 l) % n.toNat : Nat) : Int)

theorem stepH_lt (s : Nat) (b : UInt8) : stepH s b < 18446744073709551616 := Nat.mod_lt _ (by decide)
theorem addH_cons (s : Nat) (b : UInt8) (l : List UInt8) : addH s (b :: l) = addH (stepH s b) l := rfl
theorem addH_append (s : Nat) (l m : List UInt8) : addH s (l ++ m) = addH (addH s l) m := List.foldl_append
theorem addH_lt {s : Nat} (h : s < 18446744073709551616) : ∀ l, addH s l < 18446744073709551616
  | [] => h
  | b :: l => addH_lt (stepH_lt s b) l
theorem xor_byte_lt {s : Nat} (h : s < 18446744073709551616) (b : UInt8) : s ^^^ b.toNat < 18446744073709551616 :=
  Nat.xor_lt_two_pow (n := 64) h (Nat.lt_of_lt_of_le b.toNat_lt (by decide))
/-- what was multiplied can be told again -/
theorem times_back {x : Nat} (h : x < 18446744073709551616) : ((x * 1099511628211) % 18446744073709551616) * 14886173955864302971 % 18446744073709551616 = x := by
  rw [Nat.mod_mul_mod, Nat.mul_assoc, show 1099511628211 * 14886173955864302971 = 887285111055 * 18446744073709551616 + 1 by decide +kernel]
  rw [Nat.mul_add, Nat.mul_one, ← Nat.mul_assoc, Nat.mul_add_mod_self_right]
  exact Nat.mod_eq_of_lt h
theorem times_one {x y : Nat} (hx : x < 18446744073709551616) (hy : y < 18446744073709551616) (h : (x * 1099511628211) % 18446744073709551616 = (y * 1099511628211) % 18446744073709551616) : x = y := by
  rw [← times_back hx, h, times_back hy]
theorem xor_cancel {a b c : Nat} (h : a ^^^ b = a ^^^ c) : b = c := by
  have := congrArg (fun x => a ^^^ x) h
  simpa [← Nat.xor_assoc] using this
theorem stepH_one {s t : Nat} {b : UInt8} (hs : s < 18446744073709551616) (ht : t < 18446744073709551616) (h : stepH s b = stepH t b) : s = t := by
  have := times_one (xor_byte_lt hs b) (xor_byte_lt ht b) h
  rw [Nat.xor_comm s, Nat.xor_comm t] at this
  exact xor_cancel this
theorem stepH_byte {s : Nat} {b c : UInt8} (hs : s < 18446744073709551616) (h : stepH s b = stepH s c) : b = c := by
  have := xor_cancel (times_one (xor_byte_lt hs b) (xor_byte_lt hs c) h)
  exact UInt8.toNat_inj.1 this
theorem addH_one : ∀ (l : List UInt8) {s t : Nat}, s < 18446744073709551616 → t < 18446744073709551616 → addH s l = addH t l → s = t
  | [], _, _, _, _, h => h
  | b :: l, s, t, hs, ht, h => stepH_one hs ht (addH_one l (stepH_lt s b) (stepH_lt t b) h)
/-- one byte changed changes the sum -/
theorem addH_change (l m : List UInt8) {b c : UInt8} (hbc : b ≠ c) {s : Nat} (hs : s < 18446744073709551616) : addH s (l ++ b :: m) ≠ addH s (l ++ c :: m) := by
  rw [addH_append, addH_append, addH_cons, addH_cons]
  intro h
  exact hbc (stepH_byte (addH_lt hs l) (addH_one m (stepH_lt _ _) (stepH_lt _ _) h))
theorem turnH_lt (u k c : Nat) : turnH u k c < 18446744073709551616 := Nat.mod_lt _ (by decide)
theorem workerH_in (l : List UInt8) (n : Int) : 0 ≤ workerH l n ∧ (0 < n → workerH l n < n) ∧ (n ≤ 1 → workerH l n = 0) := by
  unfold workerH
  by_cases h : n < 1
  · rw [if_pos h]
    exact ⟨by omega, by omega, fun _ => rfl⟩
  · rw [if_neg h]
    have h1 : mixH (addH 14695981039346656037 l) % n.toNat < n.toNat := Nat.mod_lt _ (by omega)
    exact ⟨by omega, by omega, by omega⟩
end Go.Proofs.Ytbgapkhcaideiaa
