/- octet's readers, by their contracts. Conditions: the reach of a string. -/
import Derived.Test.YtkblpbpmaoofgaaOct2
namespace Go.Proofs.Ytkblpbpmaoofgaa
open Go Go.RowKit

/-- a reader -/
abbrev rd (s : ByteArray) (p e : Int) : Value := .agg #[.string s, .int .i64 p, .int .i64 e]

set_option maxHeartbeats 400000 in
theorem failed_any (s : ByteArray) (p e f : Int) (w : World) :
    Calls Try.prog 74 #[.agg #[.string s, .int .i64 p, .int .i64 e], .int .i64 f] w (Says w (rd s p (if e = 0 then f else e))) := by
  by_cases he : e = 0
  · go_enter Try.func74, Try.ntmps74
    go_wp2
    exact bodyPost_ret (v := rd s p f) (by simp [results, rd, Try.results74, go_sem]) rfl ⟨rfl, (by repeat (first | exact Ext.refl _ | apply Ext.then_drew | apply Ext.then_alloc | (refine Ext.setCell ?_ (by simp) _)))⟩
  · go_enter Try.func74, Try.ntmps74
    go_wp2
    exact bodyPost_ret (v := rd s p e) (by simp [results, rd, Try.results74, go_sem]) rfl ⟨rfl, (by repeat (first | exact Ext.refl _ | apply Ext.then_drew | apply Ext.then_alloc | (refine Ext.setCell ?_ (by simp) _)))⟩

/-- how many are left -/
def leftOf (s : ByteArray) (p : Int) : Int := if p < 0 ∨ s.size < p then 0 else s.size - p

set_option maxHeartbeats 400000 in
theorem left_any (s : ByteArray) (p e : Int) (w : World) (hs : s.size ≤ 9223372036854775807) :
    Calls Try.prog 77 #[.agg #[.string s, .int .i64 p, .int .i64 e]] w (Says w (.int .i64 (leftOf s p))) := by
  by_cases he : p < 0
  · have hl : leftOf s p = 0 := if_pos (Or.inl he)
    have HL := hid hl
    clear hl
    go_enter Try.func77, Try.ntmps77
    go_wp2
    go_ret
    exact ⟨by rw [HL.out]; rfl, (by repeat (first | exact Ext.refl _ | apply Ext.then_drew | apply Ext.then_alloc | (refine Ext.setCell ?_ (by simp) _)))⟩
  · by_cases hf : s.size < p
    · have hl : leftOf s p = 0 := if_pos (Or.inr hf)
      have HL := hid hl
      clear hl
      go_enter Try.func77, Try.ntmps77
      go_wp2
      go_ret
      exact ⟨by rw [HL.out]; rfl, (by repeat (first | exact Ext.refl _ | apply Ext.then_drew | apply Ext.then_alloc | (refine Ext.setCell ?_ (by simp) _)))⟩
    · have hl : leftOf s p = s.size - p := if_neg (by omega)
      have HL := hid hl
      clear hl
      go_enter Try.func77, Try.ntmps77
      go_wp2
      go_ret
      exact ⟨by rw [HL.out]; rfl, (by repeat (first | exact Ext.refl _ | apply Ext.then_drew | apply Ext.then_alloc | (refine Ext.setCell ?_ (by simp) _)))⟩

/-- the n bytes behind p -/
def cutOf (s : ByteArray) (p n : Nat) : ByteArray := s.extract p (p + n)

/-- what take answers: where the reader is then, its error, the bytes -/
def takeP (s : ByteArray) (p e n : Int) : Int := if e ≠ 0 then p else if leftOf s p < n then p else p + n
def takeE (s : ByteArray) (p e n : Int) : Int := if e ≠ 0 then e else if leftOf s p < n then 3 else 0
def takeB (s : ByteArray) (p e n : Int) : ByteArray := if e ≠ 0 then ⟨#[]⟩ else if leftOf s p < n then ⟨#[]⟩ else cutOf s p.toNat n.toNat
theorem take_err {s : ByteArray} {p e n : Int} (h : e ≠ 0) : takeP s p e n = p ∧ takeE s p e n = e ∧ takeB s p e n = ⟨#[]⟩ := ⟨if_pos h, if_pos h, if_pos h⟩
theorem take_cut {s : ByteArray} {p n : Int} (h : leftOf s p < n) : takeP s p 0 n = p ∧ takeE s p 0 n = 3 ∧ takeB s p 0 n = ⟨#[]⟩ :=
  ⟨(if_neg (by omega)).trans (if_pos h), (if_neg (by omega)).trans (if_pos h), (if_neg (by omega)).trans (if_pos h)⟩
theorem take_fine {s : ByteArray} {p n : Int} (h : ¬ leftOf s p < n) : takeP s p 0 n = p + n ∧ takeE s p 0 n = 0 ∧ takeB s p 0 n = cutOf s p.toNat n.toNat :=
  ⟨(if_neg (by omega)).trans (if_neg h), (if_neg (by omega)).trans (if_neg h), (if_neg (by omega)).trans (if_neg h)⟩

/-- a box of three cells that is there -/
theorem box3 {w1 : World} {g : Nat} {a b c : Value} {t : TypeId} (h : w1.heap[g]? = some (.cells #[a, b, c] t (0, 0))) :
    (w1.cell? ⟨g, 0, none⟩ = some a ∧ w1.cell? ⟨g, 1, none⟩ = some b ∧ w1.cell? ⟨g, 2, none⟩ = some c) ∧ (w1.frozen? ⟨g, 0, none⟩ = false ∧ w1.frozen? ⟨g, 1, none⟩ = false ∧ w1.frozen? ⟨g, 2, none⟩ = false) ∧ g < w1.heap.size :=
  ⟨⟨cell_of_row _ _ 0 _ _ _ h, cell_of_row _ _ 1 _ _ _ h, cell_of_row _ _ 2 _ _ _ h⟩, ⟨frozen_of_row _ _ 0 _ _ h, frozen_of_row _ _ 1 _ _ h, frozen_of_row _ _ 2 _ _ h⟩, (Array.getElem?_eq_some_iff.1 h).1⟩

/-- two values are told, and nothing that was there has turned -/
def Says2 (w : World) (v u : Value) (e : Ending) (w' : World) : Prop := e = .returned (.tuple #[v, u]) ∧ Ext w w'

set_option maxHeartbeats 400000 in
theorem take_any (s : ByteArray) (p e : Int) (n : Nat) (w : World) (hs : s.size ≤ 9223372036854775807) (hn : n ≤ 65535) (hv : e = 0 → n = 0 → 0 ≤ p ∧ p ≤ s.size) :
    Calls Try.prog 75 #[.agg #[.string s, .int .i64 p, .int .i64 e], .int .i64 (n : Int)] w (Says2 w (rd s (takeP s p e n) (takeE s p e n)) (.string (takeB s p e n))) := by
  by_cases he : e = 0
  · subst he
    by_cases hl : leftOf s p < n
    · have hl' := take_cut hl
      have HL := hid hl'
      clear hl'
      go_enter Try.func75, Try.ntmps75
      go_wp2_with fail
      refine (left_any s p 0 _ hs).mono ?_
      rintro e w1 ⟨rfl, hx⟩
      obtain ⟨⟨c0, c1, c2⟩, ⟨f0, f1, f2⟩, z0⟩ := box3 (hx.block (heap_alloc2_old w _ _))
      obtain ⟨⟨d0, d1, d2⟩, ⟨g0, g1, g2⟩, z1⟩ := box3 (hx.block (heap_alloc2_new w _ _))
      have HX := hid (((Ext.alloc w _).then_alloc _).trans hx)
      clear hx
      go_wp2_with fail
      refine (failed_any s p 0 3 _).mono ?_
      rintro e w2 ⟨rfl, hx⟩
      replace d0 := hx.cell d0
      replace d1 := hx.cell d1
      replace d2 := hx.cell d2
      replace g0 := (hx.frozen (p := ⟨w.heap.size + 1, 0, none⟩) z1).trans g0
      replace g1 := (hx.frozen (p := ⟨w.heap.size + 1, 1, none⟩) z1).trans g1
      replace g2 := (hx.frozen (p := ⟨w.heap.size + 1, 2, none⟩) z1).trans g2
      replace z1 := Nat.lt_of_lt_of_le z1 hx.size
      replace HX := hid (HX.out.trans hx)
      clear hx c0 c1 c2 f0 f1 f2
      go_wp2_with fail
      refine bodyPost_ret (v := .tuple #[rd s p 3, .string (⟨#[]⟩ : ByteArray)]) (by simp [results, rd, Try.results75, go_sem, d0, d1, d2]) rfl ?_
      rw [HL.out.1, HL.out.2.1, HL.out.2.2]
      exact ⟨rfl, by refine Ext.setCell (Ext.setCell (Ext.setCell HX.out ?_ _) ?_ _) ?_ _ <;> simp⟩
    · have hl' := take_fine hl
      have HL := hid hl'
      clear hl'
      have h0 : 0 ≤ p := by
        rcases Nat.eq_zero_or_pos n with hz | hz
        · exact (hv rfl hz).1
        · unfold leftOf at hl; split at hl <;> omega
      have h1 : p + n ≤ s.size := by
        rcases Nat.eq_zero_or_pos n with hz | hz
        · have := (hv rfl hz).2; omega
        · unfold leftOf at hl; split at hl <;> omega
      have hlo : leftOf s p = s.size - p := by unfold leftOf; rw [if_neg (by omega)]
      have hge : (n : Int) ≤ leftOf s p := by omega
      clear hl
      obtain ⟨q, rfl⟩ := Int.eq_ofNat_of_zero_le h0
      rw [Int.toNat_natCast, Int.toNat_natCast] at HL
      have HLO := hid hlo
      clear hlo
      go_enter Try.func75, Try.ntmps75
      go_wp2_with fail
      refine (left_any s q 0 _ hs).mono ?_
      rintro e w1 ⟨rfl, hx⟩
      obtain ⟨⟨c0, c1, c2⟩, ⟨f0, f1, f2⟩, z0⟩ := box3 (hx.block (heap_alloc2_old w _ _))
      obtain ⟨⟨d0, d1, d2⟩, ⟨g0, g1, g2⟩, z1⟩ := box3 (hx.block (heap_alloc2_new w _ _))
      have HX := hid (((Ext.alloc w _).then_alloc _).trans hx)
      clear hx
      go_wp2_with fail
      refine bodyPost_ret (v := .tuple #[rd s (q + n) 0, .string (cutOf s q n)]) (by simp [results, rd, cutOf, Try.results75, go_sem, d0, d1, d2]) rfl ?_
      rw [HL.out.1, HL.out.2.1, HL.out.2.2]
      exact ⟨rfl, by refine Ext.setCell (Ext.setCell (Ext.setCell (Ext.setCell HX.out ?_ _) ?_ _) ?_ _) ?_ _ <;> simp⟩
  · have hl' := take_err (s := s) (p := p) (n := n) he
    have HL := hid hl'
    clear hl'
    go_enter Try.func75, Try.ntmps75
    go_wp2_with fail
    refine (failed_any s p e 3 _).mono ?_
    rintro e w1 ⟨rfl, hx⟩
    rw [if_neg he]
    obtain ⟨⟨d0, d1, d2⟩, ⟨g0, g1, g2⟩, z1⟩ := box3 (hx.block (heap_alloc2_new w _ _))
    have HX := hid (((Ext.alloc w _).then_alloc _).trans hx)
    clear hx
    go_wp2_with fail
    refine bodyPost_ret (v := .tuple #[rd s p e, .string (⟨#[]⟩ : ByteArray)]) (by simp [results, rd, Try.results75, go_sem, d0, d1, d2]) rfl ?_
    rw [HL.out.1, HL.out.2.1, HL.out.2.2]
    exact ⟨rfl, by refine Ext.setCell (Ext.setCell (Ext.setCell HX.out ?_ _) ?_ _) ?_ _ <;> simp⟩
end Go.Proofs.Ytkblpbpmaoofgaa
