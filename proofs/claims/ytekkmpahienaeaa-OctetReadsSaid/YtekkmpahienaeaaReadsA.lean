/- OctetReads at every reader and every list. -/
import Derived.Test.YtekkmpahienaeaaReads
import Derived.Test.YtekkmpahienaeaaReadsO
namespace Go.Proofs.Ytekkmpahienaeaa
open Go Go.RowKit

theorem reads_any (s : ByteArray) (p e : Int) (A : Option Addr) (L : List Int) (c : Nat) (w : World) (hL : Lies w A (L.map (Value.int .i64))) :
    Calls Try.prog 4 #[.agg #[.string s, .int .i64 p, .int .i64 e], .slice A L.length c] w (Says w (.bool true)) := by
  by_cases h : 300 < s.size ∨ 20 < L.length
  · exact reads_out s p e A L c w h
  · exact reads_in s p e A L c w hL (by omega) (by omega)
end Go.Proofs.Ytekkmpahienaeaa
