/- ValueTakes: the walk. -/
import Derived.Test.YtkblpbpmaoofgaaVAwk
namespace Go.Proofs.Ytkblpbpmaoofgaa
open Go Go.RowKit

set_option maxRecDepth 100000 in
set_option maxHeartbeats 2000000 in
theorem vtakes_any (s : ByteArray) (p : Int) (w : World) (hs : s.size ≤ 9223372036854775807) (hp0 : -9223372036854775808 ≤ p) (hp1 : p ≤ 9223372036854775807) :
    Calls Try.prog 4 #[.string s, .int .i64 p] w (Says w (.bool true)) := by
  by_cases h : 100 < s.size
  · have h' : (100 : Int) < (s.size : Int) := by omega
    clear h
    go_enter Try.func4, Try.ntmps4
    go_wp2_with fail
    refine (awake_any _).mono ?_
    rintro e w1 ⟨rfl, hx⟩
    go_wp2_with fail
    go_ret
    exact ⟨rfl, hx⟩
  · have h' : (s.size : Int) ≤ 100 := by omega
    have kp := fun W => vtake_any s p W (by omega) hp0 hp1
    have kr := fun W => rtakev_any s p W hs
    obtain ⟨q, hq⟩ : ∃ q, takeV s p = q := ⟨_, rfl⟩
    rw [hq] at kp kr
    clear hq
    obtain ⟨⟨k, n, b, t⟩, m, E⟩ := q
    replace kp : ∀ W, Calls Try.prog 16 #[.string s, .int .i64 p] W fun e w' => e = .returned (.tuple #[.agg #[.int .u8 (k : Int), .int .i64 n, .int .u64 (b : Int), .string t], .int .i64 m, .int .i64 E]) ∧ Ext W w' := kp
    replace kr : ∀ W, Calls Try.prog 17 #[.string s, .int .i64 p] W fun e w' => e = .returned (.tuple #[.agg #[.int .u8 (k : Int), .int .i64 n, .int .u64 (b : Int), .string t], .int .i64 m, .int .i64 E]) ∧ Ext W w' := kr
    clear h
    go_enter Try.func4, Try.ntmps4
    go_wp2_with fail
    refine (kp _).mono ?_
    rintro e w1 ⟨rfl, hx⟩
    have HX := hid hx
    clear hx kp
    go_wp2_with fail
    refine (kr _).mono ?_
    rintro e w2 ⟨rfl, hx⟩
    have HA := hid (hx.block (heap_alloc_new w1 _))
    replace HX := hid ((HX.out.then_alloc _).trans hx)
    clear hx kr
    obtain ⟨⟨c0, c1, c2, c3⟩, _, z0⟩ := box4 HA.out
    go_wp2_with fail
    refine (awake_any _).mono ?_
    rintro e w3 ⟨rfl, hx⟩
    replace HX := hid ((HX.out.then_alloc _).trans hx)
    clear hx
    go_wp2_with fail
    go_ret
    exact ⟨rfl, HX.out⟩
end Go.Proofs.Ytkblpbpmaoofgaa
