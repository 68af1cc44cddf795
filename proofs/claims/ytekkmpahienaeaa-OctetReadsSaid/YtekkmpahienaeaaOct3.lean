/- octet.Text, by its contract. Conditions: the reach of a slice and of a string. -/
import Derived.Test.YtekkmpahienaeaaOct2
namespace Go.Proofs.Ytekkmpahienaeaa
open Go Go.RowKit

/-- what octet.Text answers -/
def textSpec (l s : List UInt8) : List UInt8 × Int := if 65535 < s.length then ([], 5) else (l ++ (be 2 s.length ++ s), 0)

set_option maxHeartbeats 400000 in
theorem text_long (A : Option Addr) (l : List UInt8) (c : Nat) (s : ByteArray) (w : World) (hs : 65535 < s.size) (h63 : s.size ≤ 9223372036854775807) :
    Calls Try.prog 10 #[.slice A l.length c, .string s] w (Told2 w (textSpec l s.data.toList)) := by
  have hp : textSpec l s.data.toList = ([], 5) := by unfold textSpec; rw [if_pos (by rw [size_toList]; exact hs)]
  have HP := hid hp
  clear hp
  go_enter Try.func10, Try.ntmps10
  go_wp2_with fail
  go_ret2
  exact Told2.none_ _ _ _ HP.out

theorem text_tail (l s : List UInt8) (n m : Nat) (h : m = s.length) :
    ((l ++ List.replicate (2 + m) 0).take l.length ++ (be 2 n ++ (l ++ List.replicate (2 + m) 0).drop (l.length + 2))).take (l.length + 2) ++
      (s ++ ((l ++ List.replicate (2 + m) 0).take l.length ++ (be 2 n ++ (l ++ List.replicate (2 + m) 0).drop (l.length + 2))).drop (l.length + 2 + m)) = l ++ (be 2 n ++ s) := by
  subst h
  have e1 : (l ++ List.replicate (2 + s.length) (0 : UInt8)).take l.length ++ (be 2 n ++ (l ++ List.replicate (2 + s.length) 0).drop (l.length + 2)) = (l ++ be 2 n) ++ List.replicate s.length 0 := by
    rw [List.take_left, List.drop_append, List.drop_eq_nil_of_le (by omega), List.append_assoc]
    simp
  have e2 : (l ++ be 2 n).length = l.length + 2 := by simp [be_length]
  rw [e1, ← e2, List.take_left, List.drop_append, List.drop_eq_nil_of_le (by omega)]
  simp

theorem text_fin {w w2 w3 : World} {l : List UInt8} {s : ByteArray} (hp : textSpec l s.data.toList = (l ++ (be 2 s.size ++ s.data.toList), 0))
    (hrow : w3.heap[w.heap.size]? = some (.cells (bvs (((l ++ List.replicate (2 + s.size) 0).take l.length ++ (be 2 s.size ++ (l ++ List.replicate (2 + s.size) 0).drop (l.length + 2))).take (l.length + 2) ++
      (s.data.toList ++ ((l ++ List.replicate (2 + s.size) 0).take l.length ++ (be 2 s.size ++ (l ++ List.replicate (2 + s.size) 0).drop (l.length + 2))).drop (l.length + 2 + s.size)))).toArray 5 (0, 0)))
    (h2 : Ext w w2) (h3 : w2.grownBy w3 (some w.heap.size)) (hm : l.length + (2 + s.size) ≤ maxLen) :
    Told2 w (textSpec l s.data.toList) (.returned (.tuple #[.slice (some ⟨w.heap.size, 0, none⟩) (l.length + (2 + s.size)) (l.length + (2 + s.size)), .int .i64 0])) w3 := by
  rw [text_tail l s.data.toList s.size s.size rfl] at hrow
  have e : (l ++ (be 2 s.size ++ s.data.toList)).length = l.length + (2 + s.size) := by simp [be_length]
  have h4 := own_row (base := w.heap.size) hrow (Nat.le_refl _) (by rw [e]; exact hm)
  rw [e] at h4
  exact Told2.mk hp h4 (h2.grown h3 (fun k hk => by injection hk with hk; omega))

set_option maxHeartbeats 400000 in
theorem text_short (A : Option Addr) (l : List UInt8) (c : Nat) (s : ByteArray) (w : World) (hl : Lies w A (bvs l)) (hlc : l.length ≤ c) (hlen : l.length ≤ 70368744177664) (hs : s.size ≤ 65535) :
    Calls Try.prog 10 #[.slice A l.length c, .string s] w (Told2 w (textSpec l s.data.toList)) := by
  have hp : textSpec l s.data.toList = (l ++ (be 2 s.size ++ s.data.toList), 0) := by unfold textSpec; rw [if_neg (by rw [size_toList]; omega)]; rfl
  have HP := hid hp
  have HL := hid hl
  clear hp hl
  have hm : l.length + (2 + s.size) ≤ maxLen := by simp only [maxLen]; omega
  have HM := hid hm
  clear hm
  have hne : 0 < s.size → ¬ s = ByteArray.empty := by intro h e; rw [e] at h; exact absurd h (by decide)
  go_enter Try.func10, Try.ntmps10
  go_wp2_with fail
  refine (longer_any A l c (2 + s.size) w HL.out hlc (by omega)).mono ?_
  rintro e w1 ⟨rfl, hrow, hext⟩
  have HROW := hid hrow
  have HEXT := hid hext
  clear hrow hext
  go_wp2_with fail
  refine (fill_any w.heap.size l.length 2 _ s.size (l ++ List.replicate (2 + s.size) 0) w1 (by omega) (by simp) (by omega) HROW.out).mono ?_
  rintro e w2 ⟨rfl, hrow2, hg2⟩
  have HROW2 := hid hrow2
  have HG2 := hid hg2
  clear hrow2 hg2
  go_wp2_with ((with_reducible show wpList _ _ _ (⟨some 32, _, _, _, _, _⟩ :: _) _ _); (refine wpList_copy_str rfl (.tmp 30) (.tmp 31) _ _ rfl 5 Try.underlying22 (by kernel_rfl) _ _ _ _ rfl rfl w.heap.size (l.length + 2) _ _ HROW2.out (by omega) (by intro h; simp [hne h]) (by simp [be_length]; omega) (fun w3 h3 g3 => ?_)); have H3 := hid h3; have G3 := hid g3; clear h3 g3)
  · have he : s = ByteArray.empty := by assumption
    subst he
    go_ret2
    exact text_fin (s := ByteArray.empty) HP.out H3.out (HEXT.out.grown HG2.out (fun k hk => by injection hk with hk; omega)) G3.out HM.out
  · go_ret2
    exact text_fin HP.out H3.out (HEXT.out.grown HG2.out (fun k hk => by injection hk with hk; omega)) G3.out HM.out

/-- octet.Text -/
theorem text_any (A : Option Addr) (l : List UInt8) (c : Nat) (s : ByteArray) (w : World) (hl : Lies w A (bvs l)) (hlc : l.length ≤ c) (hlen : l.length ≤ 70368744177664) (h63 : s.size ≤ 9223372036854775807) :
    Calls Try.prog 10 #[.slice A l.length c, .string s] w (Told2 w (textSpec l s.data.toList)) := by
  by_cases hs : s.size ≤ 65535
  · exact text_short A l c s w hl hlc hlen hs
  · exact text_long A l c s w (by omega) h63
end Go.Proofs.Ytekkmpahienaeaa
