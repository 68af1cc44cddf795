/- A strings.Builder of the call's own, and the landed program's Print of types, by their contracts. Conditions: small types. -/
import Derived.Test.YtggafdimbddflaaSP5
import Derived.Test.YtggafdimbddflaaBase
import Derived.Laws.Externs
import Derived.Lib.Builder
import Derived.Lib.UnsafeStr
namespace Go.Proofs.Ytggafdimbddflaa
open Go Go.RowKit

/-- a builder in block b holds these bytes; what it has made lies from B on -/
def BldAt (B b : Nat) (l : List UInt8) (w : World) : Prop := Lib.IsBuilder 78 5 B b (bvs l) w
/-- blocks that are no bytes' and none of the builder's are as they were -/
def Others (b : Nat) (w w' : World) : Prop := ∀ g cs T fr, g ≠ b → T ≠ 5 → w.heap[g]? = some (.cells cs T fr) → w'.heap[g]? = some (.cells cs T fr)
theorem sizeBld : (Try.prog.info? 78).map (·.size) = some 2 := by kernel_rfl
theorem liesBld : liesAt Try.prog Try.prog.depth 78 (2 / Try.prog.cellsOf 78) 0 78 1 = true := by kernel_rfl
theorem bld_shape {B b : Nat} {l : List UInt8} {w : World} (h : BldAt B b l w) : ∃ p v, B ≤ b ∧ w.heap[b]? = some (.cells #[p, v] 78 (0, 0)) ∧ w.ownsRow B 5 1 v l.length (bvs l) ∧ v.ownBlock ≠ some b ∧ (p = .pointer none ∨ p = .pointer (some ⟨b, 0, none⟩)) := by
  rcases h with ⟨h1, v, h2, h3, h4⟩ | ⟨h1, v, h2, h3, h4⟩
  · exact ⟨_, v, h1, h2, by rw [bvs_length] at h3; exact h3, h4, .inl rfl⟩
  · exact ⟨_, v, h1, h2, by rw [bvs_length] at h3; exact h3, h4, .inr rfl⟩
theorem BldAt.ext {B b : Nat} {l : List UInt8} {w w' : World} (h : BldAt B b l w) (hx : Ext w w') : BldAt B b l w' := by
  rcases h with ⟨h1, v, h2, h3, h4⟩ | ⟨h1, v, h2, h3, h4⟩
  · exact .inl ⟨h1, v, hx.block h2, own_later h3 hx, h4⟩
  · exact .inr ⟨h1, v, hx.block h2, own_later h3 hx, h4⟩
theorem BldAt.fresh (w : World) : BldAt w.heap.size w.heap.size [] (w.alloc (.cells #[.pointer none, .slice none 0 0] 78)) := Lib.fresh_isBuilder _ _ w

set_option maxHeartbeats 1000000 in
set_option maxRecDepth 100000 in
theorem bcheck_used (b : Nat) (w : World) (h0 : w.cell? ⟨b, 0, none⟩ = some (.pointer (some ⟨b, 0, none⟩))) :
    Calls Try.prog 56 #[.pointer (some ⟨b, 0, none⟩)] w fun e w' => e = .returned (.tuple #[]) ∧ w' = w := by
  obtain ⟨j, hj, _⟩ := Option.map_eq_some_iff.1 sizeBld
  have hne := Lib.run_neq_ptr_same (P := Try.prog) w ⟨b, 0, none⟩ Try.underlying75 hj
  go_enter Try.func56, Try.ntmps56
  go_wp2
  go_end0
  exact ⟨rfl, rfl⟩
set_option maxHeartbeats 1000000 in
set_option maxRecDepth 100000 in
theorem bcheck_fresh (b : Nat) (v : Value) (w : World) (hb : w.heap[b]? = some (.cells #[.pointer none, v] 78 (0, 0))) :
    Calls Try.prog 56 #[.pointer (some ⟨b, 0, none⟩)] w fun e w' => e = .returned (.tuple #[]) ∧ w' = w.setCell ⟨b, 0, none⟩ (.pointer (some ⟨b, 0, none⟩)) := by
  obtain ⟨j, hj, hjs⟩ := Option.map_eq_some_iff.1 sizeBld
  have hsh : w.shape? b = some (78, 2) := by unfold World.shape?; rw [hb]; rfl
  obtain ⟨⟨b0, b1⟩, ⟨m0, m1⟩, _⟩ := box2 hb
  have h1 := Lib.run_to_unsafe (P := Try.prog) w ⟨b, 0, none⟩ Try.underlying75 Try.underlying108 hj (by rw [hjs]; decide) hsh (Nat.zero_lt_succ 1)
  have h2 := fun args W => run_callFunc_extern (P := Try.prog) Try.func63 (by kernel_rfl) (by kernel_rfl) (by kernel_rfl) (e := Extern.AbiNoEscape.same) (by kernel_rfl) args W
  have h3 := Lib.run_from_unsafe (P := Try.prog) w ⟨b, 0, none⟩ Try.underlying108 Try.underlying75 hj hsh liesBld
  have h4 := fun W => Lib.run_noEscape (P := Try.prog) W (x := .pointer (some ⟨b, 0, none⟩))
  go_enter Try.func56, Try.ntmps56
  go_wp2
  go_end0
  exact ⟨rfl, rfl⟩
/-- what its check leaves: the same bytes; its own address is known -/
theorem bcheck_any (B b : Nat) (l : List UInt8) (w : World) (h : BldAt B b l w) :
    Calls Try.prog 56 #[.pointer (some ⟨b, 0, none⟩)] w fun e w' => e = .returned (.tuple #[]) ∧ Lib.BuilderAt 78 5 B b (.pointer (some ⟨b, 0, none⟩)) (bvs l) w' ∧ Below B w w' ∧ Others b w w' ∧ w'.heap.size = w.heap.size := by
  rcases h with h | h
  · obtain ⟨hB, v, hb, ho, hne⟩ := h
    refine (bcheck_fresh b v w hb).mono ?_
    rintro e w' ⟨rfl, rfl⟩
    refine ⟨rfl, Lib.BuilderAt.used (p := .pointer none) ⟨hB, v, hb, ho, hne⟩ _, (Below.refl B w).setCell (p := ⟨b, 0, none⟩) hB _, fun g cs T fr hg hT hc => ?_, by simp [World.setCell]⟩
    exact (heap_setCell_other w ⟨b, 0, none⟩ g _ hg).trans hc
  · refine (bcheck_used b w h.cell0).mono ?_
    rintro e w' ⟨rfl, rfl⟩
    exact ⟨rfl, h, Below.refl B _, fun g cs T fr hg hT hc => hc, rfl⟩

set_option maxHeartbeats 2000000 in
set_option maxRecDepth 100000 in
theorem bwrite_any (B b : Nat) (l : List UInt8) (s : ByteArray) (w : World) (h : BldAt B b l w) (hlen : l.length + s.size ≤ 140737488355328) (hBw : B ≤ w.heap.size) :
    Calls Try.prog 37 #[.pointer (some ⟨b, 0, none⟩), .string s] w fun e w' => e = .returned (.tuple #[.int .i64 s.size, .nilIface]) ∧ BldAt B b (l ++ s.data.toList) w' ∧ Below B w w' ∧ Others b w w' := by
  obtain ⟨i0, hi, hz0, hz1, hz2⟩ := info_parts infoByte
  have kc := bcheck_any B b l w h
  go_enter Try.func37, Try.ntmps37
  go_wp2_with (go_at_call 56; refine kc.mono ?_)
  rintro e w1 ⟨rfl, ⟨hB, v, hbk, hown, hne⟩, hb1, hoth, hsz⟩
  rw [bvs_length] at hown
  obtain ⟨⟨c0, c1⟩, ⟨m0, m1⟩, hlt⟩ := box2 hbk
  have HK := hid hbk
  have HO := hid hown
  have HN := hid hne
  have HB1 := hid hb1
  have HT := hid hoth
  clear hbk hown hne hb1 hoth kc h
  go_wp2_with (at_builtin; refine Lib.wpList_append_own_string _ rfl (.tmp 12) (.tmp 13) 76 9 rfl B 5 i0 Try.underlying76 Try.underlying9 hi hz0 hz1 hz2 v l.length (bvs l) rfl HO.out s rfl (by unfold maxLen; omega) (by omega) (by omega) ?_)
  intro v' w2 hown' hgrow _
  have hb2 : w2.heap[b]? = some (.cells #[.pointer (some ⟨b, 0, none⟩), v] 78 (0, 0)) := (hgrow.block b hlt (fun e => HN.out e.symm)).trans HK.out
  obtain ⟨ao, n', cap, rfl⟩ : ∃ ao n' cap, v' = .slice ao n' cap := by
    rcases hown'.2 with ⟨hv, _⟩ | ⟨g, cap, cur, hv, _⟩
    · exact ⟨_, _, _, hv⟩
    · exact ⟨_, _, _, hv⟩
  clear c0 c1 m0 m1
  obtain ⟨⟨c0, c1⟩, ⟨m0, m1⟩, hlt2⟩ := box2 hb2
  have HK2 := hid hb2
  have HOW := hid (show w2.ownsRow B 5 1 (.slice ao n' cap) (bvs (l ++ s.data.toList)).length (bvs (l ++ s.data.toList)) by
    rw [bvs_length, List.length_append, size_toList, bvs_append]
    exact hown')
  have HBL := hid (HB1.out.grown hgrow (by omega) (fun k hk => own_block_ge HO.out k hk))
  have HOT := hid (show ∀ g cs T fr, T ≠ 5 → w1.heap[g]? = some (.cells cs T fr) → w2.heap[g]? = some (.cells cs T fr) from fun g cs T fr hT hc =>
    (hgrow.block g (Array.getElem?_eq_some_iff.1 hc).1 (fun e => Lib.ownBlock_ne HO.out hc hT e.symm)).trans hc)
  clear hown' hgrow hb2
  go_wp2
  go_ret2
  refine ⟨rfl, .inr (Lib.BuilderAt.put hB HK2.out HOW.out (by decide)), HBL.out.setCell (p := ⟨b, 1, none⟩) hB _, fun g cs T fr hg hT hc => ?_⟩
  exact (heap_setCell_other w2 ⟨b, 1, none⟩ g _ hg).trans (HOT.out g cs T fr hT (HT.out g cs T fr hg hT hc))

theorem bstring_none (W : World) (q : Option Addr) : (Builtin.unsafeString_ #[99, 3] 9 #[.pointer q, .int .i64 0]).run Try.prog W = .ok (.string .empty) W := Lib.run_unsafeString_none W _ _ _ q

set_option maxHeartbeats 2000000 in
set_option maxRecDepth 100000 in
theorem bstring_any (B b : Nat) (l : List UInt8) (w : World) (h : BldAt B b l w) (hBw : B ≤ w.heap.size) :
    Calls Try.prog 39 #[.pointer (some ⟨b, 0, none⟩)] w fun e w' => e = .returned (.string (bytesA l)) ∧ Below B w w' := by
  obtain ⟨p, v, hB, hbk, hown, hne, _⟩ := bld_shape h
  have hUS := bstring_none
  obtain ⟨⟨c0, c1⟩, _, hlt⟩ := box2 hbk
  clear h
  rcases hown.2 with ⟨rfl, h0⟩ | ⟨g, cap, cur, rfl, hbg, hg, hnc, hcm, hcs, htake⟩
  · obtain rfl : l = [] := List.length_eq_zero_iff.1 h0
    have hSD : ∀ W, (Builtin.unsafeSliceData_ #[76] 99 #[.slice none 0 0]).run Try.prog W = .ok (.pointer none) W := fun _ => rfl
    clear hown
    go_enter Try.func39, Try.ntmps39
    go_wp2
    go_region
    all_goals (go_wp2; go_ret; exact ⟨rfl, Below.drew (Below.refl B w)⟩)
  · by_cases hl : l = []
    · subst hl
      simp only [List.length_nil] at *
      by_cases hc0 : cap = 0
      · subst hc0
        have hSD : ∀ W : World, W.shape? g = some (5, cur.size) → (Builtin.unsafeSliceData_ #[76] 99 #[.slice (some ⟨g, 0, none⟩) 0 0]).run Try.prog W = .ok (.pointer (some ⟨W.heap.size, 0, none⟩)) (W.alloc (.view ⟨g, 0, none⟩ 5)) :=
          fun W hW => Lib.run_unsafeSliceData_zero W _ _ 5 Try.underlying99 ⟨g, 0, none⟩ 0 (5, cur.size) hW
        have hsh : w.drew.shape? g = some (5, cur.size) := by have hg' : w.drew.heap[g]? = some (.cells cur 5 (0, 0)) := hg; simp [World.shape?, hg']
        have hSD1 := hSD w.drew hsh
        have c2 : (w.drew.alloc (.view ⟨g, 0, none⟩ 5)).cell? ⟨b, 1, none⟩ = some (.slice (some ⟨g, 0, none⟩) 0 0) := (Ext.alloc w.drew _).cell (p := ⟨b, 1, none⟩) c1
        have c3 : (w.alloc (.view ⟨g, 0, none⟩ 5)).drew.cell? ⟨b, 1, none⟩ = some (.slice (some ⟨g, 0, none⟩) 0 0) := c2
        clear hown hg hSD htake
        go_enter Try.func39, Try.ntmps39
        go_wp2
        go_region
        all_goals (go_wp2; go_ret; exact ⟨rfl, (Below.drew (Below.refl B w)).alloc hBw _⟩)
      · have hSD : ∀ W, (Builtin.unsafeSliceData_ #[76] 99 #[.slice (some ⟨g, 0, none⟩) 0 cap]).run Try.prog W = .ok (.pointer (some ⟨g, 0, none⟩)) W := fun W => Lib.run_unsafeSliceData_row _ _ _ _ _ _ hc0
        clear hc0 hown hg htake
        go_enter Try.func39, Try.ntmps39
        go_wp2
        go_region
        all_goals (go_wp2; go_ret; exact ⟨rfl, Below.drew (Below.refl B w)⟩)
    · have hl0 : l.length ≠ 0 := fun e => hl (List.length_eq_zero_iff.1 e)
      have hSD : ∀ W, (Builtin.unsafeSliceData_ #[76] 99 #[.slice (some ⟨g, 0, none⟩) l.length cap]).run Try.prog W = .ok (.pointer (some ⟨g, 0, none⟩)) W := fun W => Lib.run_unsafeSliceData_row _ _ _ _ _ _ (by omega)
      have hUS : (Builtin.unsafeString_ #[99, 3] 9 #[.pointer (some ⟨g, 0, none⟩), .int .i64 l.length]).run Try.prog w.drew = .ok (.string ⟨l.toArray⟩) (w.drew.freeze ⟨g, 0, none⟩ l.length) := by
        refine Lib.run_unsafeString_row w.drew 99 3 9 5 Try.underlying99 (by kernel_rfl) g cur.size (by have hg' : w.drew.heap[g]? = some (.cells cur 5 (0, 0)) := hg; simp [World.shape?, hg']) l hl (by omega) (by unfold maxLen at hcm; omega) ?_
        intro j x hx
        exact hown.cells (g := g) rfl j (.int .u8 x.toNat) (by simp [bvs, bv, hx])
      clear hown hg htake hl hl0
      go_enter Try.func39, Try.ntmps39
      go_wp2
      go_region
      all_goals (go_wp2; go_ret; exact ⟨rfl, Lib.below_freeze (Below.drew (Below.refl B w)) (p := ⟨g, 0, none⟩) hbg _⟩)
end Go.Proofs.Ytggafdimbddflaa
