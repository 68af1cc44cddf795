/- octet.Num, octet.Word, octet.Text, by their contracts. Conditions: the reach of a slice. -/
import Derived.Test.YtkblpbpmaoofgaaOct1
namespace Go.Proofs.Ytkblpbpmaoofgaa
open Go Go.RowKit

/-- a pair of bytes and a number is told, and nothing that was there has turned -/
def Told2 (w : World) (p : List UInt8 × Int) (e : Ending) (w' : World) : Prop := ∃ r, e = .returned (.tuple #[r, .int .i64 p.2]) ∧ w'.ownsRow w.heap.size 5 1 r p.1.length (bvs p.1) ∧ Ext w w'

theorem Told2.none' (w w' : World) (e : Int) (p : List UInt8 × Int) (hp : p = ([], e)) (hx : Ext w w') : Told2 w p (.returned (.tuple #[.slice none 0 0, .int .i64 e])) w' := by
  subst hp
  exact ⟨_, rfl, World.ownsRow_nil _ _ _ _, hx⟩

theorem Told2.mk {w w' : World} {p : List UInt8 × Int} {l : List UInt8} {e : Int} {r : Value} {n : Nat} (hp : p = (l, e)) (hb : w'.ownsRow w.heap.size 5 1 r n (bvs l)) (hx : Ext w w') : Told2 w p (.returned (.tuple #[r, .int .i64 e])) w' := by
  subst hp
  exact ⟨r, rfl, own_len hb, hx⟩


theorem grown_of_new {w w1 w2 : World} {g : Nat} (h : Ext w w1) (hg : w1.grownBy w2 (some g)) (hn : w.heap.size ≤ g) : Ext w w2 :=
  h.grown hg (fun k hk => by injection hk with hk; omega)

theorem laid_tail (l : List UInt8) (k n : Nat) : (l ++ List.replicate k 0).take l.length ++ (be k n ++ (l ++ List.replicate k 0).drop (l.length + k)) = l ++ be k n := by
  simp

set_option maxHeartbeats 400000 in
/-- octet.Word -/
theorem word_any (A : Option Addr) (l : List UInt8) (c u : Nat) (w : World) (hl : Lies w A (bvs l)) (hlc : l.length ≤ c) (hlen : l.length ≤ 70368744177664) (hu : u ≤ 18446744073709551615) :
    Calls Try.prog 30 #[.slice A l.length c, .int .u64 (u : Int)] w (Told1 w (l ++ be 8 u)) := by
  have HL := hid hl
  clear hl
  go_enter Try.func30, Try.ntmps30
  go_wp2_with fail
  refine (longer_any A l c 8 w HL.out hlc (by omega)).mono ?_
  rintro e w1 ⟨rfl, hrow, hext⟩
  have HROW := hid hrow
  have HEXT := hid hext
  clear hrow hext
  go_wp2_with fail
  refine (fill_any w.heap.size l.length 8 8 u (l ++ List.replicate 8 0) w1 (by omega) (by simp) (by omega) HROW.out).mono ?_
  rintro e w2 ⟨rfl, hrow2, hg2⟩
  have HROW2 := hid hrow2
  have HG2 := hid hg2
  clear hrow2 hg2
  go_wp2_with fail
  go_ret
  have h2 := HROW2.out
  rw [laid_tail] at h2
  have h3 := own_row (base := w.heap.size) h2 (Nat.le_refl _) (by simp [be_length, maxLen]; omega)
  rw [List.length_append, be_length] at h3
  exact Told1.mk h3 (grown_of_new HEXT.out HG2.out (Nat.le_refl _))

end Go.Proofs.Ytkblpbpmaoofgaa
