/- octet.Num, octet.Word, octet.Text, by their contracts. Conditions: the reach of a slice. -/
import Derived.Test.YtekkmpahienaeaaOct1
namespace Go.Proofs.Ytekkmpahienaeaa
open Go Go.RowKit

/-- what octet.Num answers -/
def numSpec (l : List UInt8) (k n : Int) : List UInt8 × Int :=
  if k < 1 ∨ 6 < k then ([], 2) else if n < 0 ∨ (256 : Int) ^ k.toNat ≤ n then ([], 8) else (l ++ be k.toNat n.toNat, 0)

/-- a pair of bytes and a number is told, and nothing that was there has turned -/
def Told2 (w : World) (p : List UInt8 × Int) (e : Ending) (w' : World) : Prop := ∃ r, e = .returned (.tuple #[r, .int .i64 p.2]) ∧ w'.ownsRow w.heap.size 5 1 r p.1.length (bvs p.1) ∧ Ext w w'
def Told1 (w : World) (l : List UInt8) (e : Ending) (w' : World) : Prop := ∃ r, e = .returned r ∧ w'.ownsRow w.heap.size 5 1 r l.length (bvs l) ∧ Ext w w'

theorem Told2.none_ (w : World) (e : Int) (p : List UInt8 × Int) (hp : p = ([], e)) : Told2 w p (.returned (.tuple #[.slice none 0 0, .int .i64 e])) w := by
  subst hp
  exact ⟨_, rfl, World.ownsRow_nil _ _ _ _, Ext.refl w⟩

theorem Told2.none' (w w' : World) (e : Int) (p : List UInt8 × Int) (hp : p = ([], e)) (hx : Ext w w') : Told2 w p (.returned (.tuple #[.slice none 0 0, .int .i64 e])) w' := by
  subst hp
  exact ⟨_, rfl, World.ownsRow_nil _ _ _ _, hx⟩

theorem Told2.mk {w w' : World} {p : List UInt8 × Int} {l : List UInt8} {e : Int} {r : Value} {n : Nat} (hp : p = (l, e)) (hb : w'.ownsRow w.heap.size 5 1 r n (bvs l)) (hx : Ext w w') : Told2 w p (.returned (.tuple #[r, .int .i64 e])) w' := by
  subst hp
  exact ⟨r, rfl, own_len hb, hx⟩

theorem Told1.mk {w w' : World} {l : List UInt8} {r : Value} {n : Nat} (hb : w'.ownsRow w.heap.size 5 1 r n (bvs l)) (hx : Ext w w') : Told1 w l (.returned r) w' := ⟨r, rfl, own_len hb, hx⟩

theorem grown_of_new {w w1 w2 : World} {g : Nat} (h : Ext w w1) (hg : w1.grownBy w2 (some g)) (hn : w.heap.size ≤ g) : Ext w w2 :=
  h.grown hg (fun k hk => by injection hk with hk; omega)

set_option maxHeartbeats 400000 in
theorem num_arg (A : Option Addr) (l : List UInt8) (c : Nat) (k n : Int) (w : World) (hk : k < 1 ∨ 6 < k) :
    Calls Try.prog 8 #[.slice A l.length c, .int .i64 k, .int .i64 n] w (Told2 w (numSpec l k n)) := by
  have hp : numSpec l k n = ([], 2) := by unfold numSpec; rw [if_pos hk]
  have HP := hid hp
  clear hp
  rcases hk with hk | hk
  all_goals
    go_enter Try.func8, Try.ntmps8
    go_wp2_with fail
    go_ret2
    exact Told2.none_ _ _ _ HP.out

theorem laid_tail (l : List UInt8) (k n : Nat) : (l ++ List.replicate k 0).take l.length ++ (be k n ++ (l ++ List.replicate k 0).drop (l.length + k)) = l ++ be k n := by
  simp

theorem pow_two_eight (k : Nat) : (2 : Int) ^ (8 * k) = (256 : Int) ^ k := by
  rw [Int.pow_mul]; rfl

set_option maxHeartbeats 400000 in
theorem num_range (A : Option Addr) (l : List UInt8) (c k : Nat) (n : Int) (w : World) (hk1 : 1 ≤ k) (hk : k ≤ 6) (hn : n < 0 ∨ (256 : Int) ^ k ≤ n) (h63 : n ≤ 9223372036854775807) :
    Calls Try.prog 8 #[.slice A l.length c, .int .i64 (k : Int), .int .i64 n] w (Told2 w (numSpec l k n)) := by
  have hp : numSpec l k n = ([], 8) := by unfold numSpec; rw [if_neg (by omega), Int.toNat_natCast, if_pos hn]
  have HP := hid hp
  clear hp
  by_cases h0 : n < 0
  · clear hn
    go_enter Try.func8, Try.ntmps8
    go_wp2_with fail
    go_ret2
    exact Told2.none_ _ _ _ HP.out
  · have h1 : (n / 2 ^ (8 * k) != 0) = true := by
      rw [pow_two_eight, bne_iff_ne]
      have h2 : (256 : Int) ^ k ≤ n := by omega
      have h3 : (0 : Int) < 256 ^ k := Int.pow_pos (by omega)
      have h4 := Int.ediv_le_ediv h3 h2
      rw [Int.ediv_self (by omega)] at h4
      omega
    have h00 : 0 ≤ n := by omega
    clear hn
    go_enter Try.func8, Try.ntmps8
    go_wp2_with fail
    all_goals go_ret2
    all_goals exact Told2.none_ _ _ _ HP.out

set_option maxHeartbeats 400000 in
theorem num_ok (A : Option Addr) (l : List UInt8) (c k n : Nat) (w : World) (hl : Lies w A (bvs l)) (hlc : l.length ≤ c) (hlen : l.length ≤ 70368744177664) (hk1 : 1 ≤ k) (hk : k ≤ 6) (hn : n < 256 ^ k) (h63 : n ≤ 9223372036854775807) :
    Calls Try.prog 8 #[.slice A l.length c, .int .i64 (k : Int), .int .i64 (n : Int)] w (Told2 w (numSpec l k n)) := by
  have hp : numSpec l k n = (l ++ be k n, 0) := by
    unfold numSpec
    rw [if_neg (by omega), Int.toNat_natCast, Int.toNat_natCast, if_neg]
    rintro (h | h)
    · omega
    · have : ((256 ^ k : Nat) : Int) ≤ (n : Int) := by simpa using h
      omega
  have HP := hid hp
  clear hp
  have h1 : ((n : Int) / 2 ^ (8 * k) != 0) = false := by
    rw [pow_two_eight, bne_eq_false_iff_eq]
    refine Int.ediv_eq_zero_of_lt (by omega) ?_
    have : (n : Int) < ((256 ^ k : Nat) : Int) := by omega
    simpa using this
  have HL := hid hl
  clear hl hn
  go_enter Try.func8, Try.ntmps8
  go_wp2_with fail
  refine (longer_any A l c k w HL.out hlc (by omega)).mono ?_
  rintro e w1 ⟨rfl, hrow, hext⟩
  have HROW := hid hrow
  have HEXT := hid hext
  clear hrow hext
  go_wp2_with fail
  refine (fill_any w.heap.size l.length k k n (l ++ List.replicate k 0) w1 (by omega) (by simp) (by omega) HROW.out).mono ?_
  rintro e w2 ⟨rfl, hrow2, hg2⟩
  have HROW2 := hid hrow2
  have HG2 := hid hg2
  clear hrow2 hg2
  go_wp2_with fail
  go_ret2
  have h2 := HROW2.out
  rw [laid_tail] at h2
  have h3 := own_row (base := w.heap.size) h2 (Nat.le_refl _) (by simp [be_length, maxLen]; omega)
  rw [List.length_append, be_length] at h3
  exact Told2.mk HP.out h3 (grown_of_new HEXT.out HG2.out (Nat.le_refl _))

/-- octet.Num -/
theorem num_any (A : Option Addr) (l : List UInt8) (c : Nat) (k n : Int) (w : World) (hl : Lies w A (bvs l)) (hlc : l.length ≤ c) (hlen : l.length ≤ 70368744177664) (h63 : n ≤ 9223372036854775807) :
    Calls Try.prog 8 #[.slice A l.length c, .int .i64 k, .int .i64 n] w (Told2 w (numSpec l k n)) := by
  by_cases hk : k < 1 ∨ 6 < k
  · exact num_arg A l c k n w hk
  · obtain ⟨k, rfl⟩ := Int.eq_ofNat_of_zero_le (show 0 ≤ k by omega)
    by_cases hn : n < 0 ∨ (256 : Int) ^ k ≤ n
    · exact num_range A l c k n w (by omega) (by omega) hn h63
    · obtain ⟨n, rfl⟩ := Int.eq_ofNat_of_zero_le (show 0 ≤ n by omega)
      have h4 : (n : Int) < ((256 ^ k : Nat) : Int) := by
        have : (n : Int) < (256 : Int) ^ k := by omega
        simpa using this
      exact num_ok A l c k n w hl hlc hlen (by omega) (by omega) (by omega) (by omega)

set_option maxHeartbeats 400000 in
/-- octet.Word -/
theorem word_any (A : Option Addr) (l : List UInt8) (c u : Nat) (w : World) (hl : Lies w A (bvs l)) (hlc : l.length ≤ c) (hlen : l.length ≤ 70368744177664) (hu : u ≤ 18446744073709551615) :
    Calls Try.prog 12 #[.slice A l.length c, .int .u64 (u : Int)] w (Told1 w (l ++ be 8 u)) := by
  have HL := hid hl
  clear hl
  go_enter Try.func12, Try.ntmps12
  go_wp2_with fail
  refine (longer_any A l c 8 w HL.out hlc (by omega)).mono ?_
  rintro e w1 ⟨rfl, hrow, hext⟩
  have HROW := hid hrow
  have HEXT := hid hext
  clear hrow hext
  go_wp2_with fail
  refine (fill_any w.heap.size l.length 8 8 u (l ++ List.replicate 8 0) w1 (by omega) (by simp) (by omega) HROW.out).mono ?_
  rintro e w2 ⟨rfl, hrow2, hg2⟩
  have HROW2 := hid hrow2
  have HG2 := hid hg2
  clear hrow2 hg2
  go_wp2_with fail
  go_ret
  have h2 := HROW2.out
  rw [laid_tail] at h2
  have h3 := own_row (base := w.heap.size) h2 (Nat.le_refl _) (by simp [be_length, maxLen]; omega)
  rw [List.length_append, be_length] at h3
  exact Told1.mk h3 (grown_of_new HEXT.out HG2.out (Nat.le_refl _))

end Go.Proofs.Ytekkmpahienaeaa
