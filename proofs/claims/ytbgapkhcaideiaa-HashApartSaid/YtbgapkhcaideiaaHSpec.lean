/- Sums of bytes: what the document tells of them. Plain; conditions: none. -/
import Derived.Test.YtbgapkhcaideiaaBase
namespace Go.Proofs.Ytbgapkhcaideiaa
open Go Go.RowKit

/-- one byte more -/
def stepH (s : Nat) (b : UInt8) : Nat := ((s ^^^ b.toNat) * 1099511628211) % 18446744073709551616
def addH (s : Nat) (l : List UInt8) : Nat := l.foldl stepH s
/-- two ways of mixing bits, one behind the other -/
def turnH (u k c : Nat) : Nat := ((u ^^^ u / k) * c) % 18446744073709551616
def mixH (u : Nat) : Nat := turnH (turnH u 1073741824 13787848793156543929) 134217728 10723151780598845931 ^^^ turnH (turnH u 1073741824 13787848793156543929) 134217728 10723151780598845931 / 2147483648
def bareH (p : Int) : UInt8 := UInt8.ofNat (p.emod 256).toNat
def workerH (l : List UInt8) (n : Int) : Int := if n < 1 then 0 else ((mixH (addH 14695981039346656037 l) % n.toNat : Nat) : Int)

theorem stepH_lt (s : Nat) (b : UInt8) : stepH s b < 18446744073709551616 := Nat.mod_lt _ (by decide)
theorem addH_cons (s : Nat) (b : UInt8) (l : List UInt8) : addH s (b :: l) = addH (stepH s b) l := rfl
theorem addH_lt {s : Nat} (h : s < 18446744073709551616) : ∀ l, addH s l < 18446744073709551616
  | [] => h
  | b :: l => addH_lt (stepH_lt s b) l
theorem turnH_lt (u k c : Nat) : turnH u k c < 18446744073709551616 := Nat.mod_lt _ (by decide)
end Go.Proofs.Ytbgapkhcaideiaa
