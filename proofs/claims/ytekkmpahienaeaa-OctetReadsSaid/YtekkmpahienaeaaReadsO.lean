/- OctetReads beyond its bounds. -/
import Derived.Test.YtekkmpahienaeaaOrf4
namespace Go.Proofs.Ytekkmpahienaeaa
open Go Go.RowKit

theorem reads_out (s : ByteArray) (p e : Int) (A : Option Addr) (L : List Int) (c : Nat) (w : World) (h : 300 < s.size ∨ 20 < L.length) :
    Calls Try.prog 4 #[.agg #[.string s, .int .i64 p, .int .i64 e], .slice A L.length c] w (Says w (.bool true)) := by
  by_cases h1 : 300 < s.size
  · clear h
    go_enter Try.func4, Try.ntmps4
    go_wp2_with fail
    refine (awake_any _).mono ?_
    rintro e1 w4 ⟨rfl, hx⟩
    go_wp2_with fail
    go_ret
    exact ⟨rfl, (Ext.alloc w _).trans hx⟩
  · have h2 : 20 < L.length := by omega
    clear h
    go_enter Try.func4, Try.ntmps4
    go_wp2_with fail
    refine (awake_any _).mono ?_
    rintro e1 w4 ⟨rfl, hx⟩
    go_wp2_with fail
    go_ret
    exact ⟨rfl, (Ext.alloc w _).trans hx⟩
end Go.Proofs.Ytekkmpahienaeaa
