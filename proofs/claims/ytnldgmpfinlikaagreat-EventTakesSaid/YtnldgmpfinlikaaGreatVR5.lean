/- The document's Take of a value, by its contract. Conditions: the reach of a string. -/
import Derived.Test.YtnldgmpfinlikaaGreatGRR1
import Derived.Test.YtnldgmpfinlikaaGreatZR2
import Derived.Test.YtnldgmpfinlikaaGreatOrf4
import Derived.BigQuiet
namespace Go.Proofs.YtnldgmpfinlikaaGreat
open Go Go.RowKit

/-- a value, a place and an error are told -/
def SaysV (w : World) (t : VZ × Int × Int) (e : Ending) (w' : World) : Prop := e = .returned (.tuple #[t.1.v, .int .i64 t.2.1, .int .i64 t.2.2]) ∧ Ext w w'
theorem SaysV.mk {w w' : World} {t : VZ × Int × Int} {k : Nat} {n : Int} {b : Nat} {s : ByteArray} {m e : Int} {v : Value} (h : t = (⟨k, n, b, s⟩, m, e)) (hv : v = vv k n b s) (hx : Ext w w') : SaysV w t (.returned (.tuple #[v, .int .i64 m, .int .i64 e])) w' := by
  subst h; subst hv
  exact ⟨rfl, hx⟩

/-- a struct in a cell and two plain values are answered -/
theorem ret_cell_tmp2 {P : Program} {fn : Func} {p u x : Tmp} {ty : TypeId} (h : fn.results = #[.cell p ty, .tmp u, .tmp x]) (tmps : Array Value) (w : World) (g : Nat) (t : TypeId) (cs : Array Value) (fr : Nat × Nat) (d : TypeDesc)
    (hp : tmps.getD p undef = .pointer (some ⟨g, 0, none⟩)) (hg : w.heap[g]? = some (.cells cs t fr))
    (hu : P.underlying ty = some d) (hd : (match d with | .struct _ | .array _ _ => true | _ => false) = true) (hi : (P.info? ty).map (·.size) = some cs.size) :
    (results fn tmps).run P w = .ok (.tuple #[.agg cs, tmps.getD u undef, tmps.getD x undef]) w := by
  have hp' : tmps[p]?.getD undef = .pointer (some ⟨g, 0, none⟩) := by simpa using hp
  simp [results, h, hp', asAddr, run_loadVar_row w g t ty cs fr d hg hu hd hi]

/-- a struct of four cells, stored cell by cell -/
theorem set4 {x : World} {g : Nat} {u0 u1 u2 u3 a b c d : Value} {t : TypeId} (h : x.heap[g]? = some (.cells #[u0, u1, u2, u3] t (0, 0))) :
    ((((x.setCell ⟨g, 0, none⟩ a).setCell ⟨g, 1, none⟩ b).setCell ⟨g, 2, none⟩ c).setCell ⟨g, 3, none⟩ d).heap[g]? = some (.cells #[a, b, c, d] t (0, 0)) := by
  have h1 := heap_setCell_same x g 0 _ t a h
  have h2 := heap_setCell_same _ g 1 _ t b h1
  have h3 := heap_setCell_same _ g 2 _ t c h2
  have h4 := heap_setCell_same _ g 3 _ t d h3
  simpa using h4

theorem byte_at (s : ByteArray) (p : Nat) (h : p < s.size) : s.data.toList[p]?.getD 0 = s[p] := by
  rw [List.getElem?_eq_getElem (by rw [size_toList]; exact h)]
  rfl

theorem take_at (s : ByteArray) (p k : Nat) (h : p < s.size) (hk : s[p].toNat = k) (h1 : 1 ≤ k) (h4 : k ≤ 4) : takeV s (p : Int) = checkedV (restV s k (p + 1)) := by
  unfold takeV
  rw [if_neg (by omega), if_neg (by omega), Int.toNat_natCast, byte_at s p h, hk, if_neg (by omega)]
theorem take_none (s : ByteArray) (p : Nat) (h : p < s.size) (hk : s[p].toNat < 1 ∨ 4 < s[p].toNat) : takeV s (p : Int) = failV 11 := by
  unfold takeV
  rw [if_neg (by omega), if_neg (by omega), Int.toNat_natCast, byte_at s p h, if_pos hk]
theorem checked_fail (e : Int) (h : e ≠ 0) : checkedV (failV e) = failV e := if_pos h
theorem checked_good {k : Nat} {n : Int} {b : Nat} {t : ByteArray} {m : Int} (h : checkV k n b t = 0) : checkedV (⟨k, n, b, t⟩, m, 0) = (⟨k, n, b, t⟩, m, 0) := by
  unfold checkedV
  rw [if_neg (fun h => h rfl), if_neg (fun h2 => h2 h)]
theorem checked_bad {k : Nat} {n : Int} {b : Nat} {t : ByteArray} {m : Int} (h : checkV k n b t ≠ 0) : checkedV (⟨k, n, b, t⟩, m, 0) = failV (checkV k n b t) := by
  unfold checkedV
  rw [if_neg (fun h => h rfl), if_pos h]

theorem takeZ_shape (s : ByteArray) (p : Nat) (h : p ≤ s.size) : (∃ E : Int, takeZ s (p : Int) = (0, 0, E) ∧ E ≠ 0) ∨ (∃ U m : Nat, takeZ s (p : Int) = (U, (m : Int), 0) ∧ p < m ∧ m ≤ s.size ∧ U ≤ 18446744073709551615) := by
  obtain ⟨⟨u, n, e⟩, ht⟩ : ∃ t, t = tk (s.data.toList.drop p) 0 0 := ⟨_, rfl⟩
  by_cases he : e = 0
  · subst he
    have h1 := tk_inv _ 0 0 u n (by decide) (by omega) ht.symm
    have h2 := h1.2.1
    rw [List.length_drop, size_toList] at h2
    refine Or.inr ⟨u, p + n, ?_, by omega, by omega, by omega⟩
    rw [take_good h ht.symm]
    rfl
  · have h0 := tk_zero ht.symm he
    subst h0
    refine Or.inl ⟨e, ?_, he⟩
    unfold takeZ
    rw [if_neg (by omega), Int.toNat_natCast, ← ht]
    simp [he]

set_option maxHeartbeats 1000000 in
theorem rtakev_out (s : ByteArray) (p : Int) (w : World) (hs : s.size ≤ 9223372036854775807) (h : p < 0 ∨ s.size ≤ p) : Calls Tryz.prog 45 #[.string s, .int .i64 p] w (SaysV w (takeV s p)) := by
  by_cases h1 : p < 0 ∨ s.size < p
  · have hr : takeV s p = failV 2 := if_pos h1
    rw [hr]
    rcases h1 with h1 | h1
    · go_enter Tryz.func45, Tryz.ntmps45
      go_wp2_with fail
      exact bodyPost_ret (ret_cell_tmp2 rfl _ _ w.heap.size 47 _ (0, 0) _ rfl (heap_alloc_new w _) Tryz.underlying47 rfl (by kernel_rfl)) rfl (SaysV.mk rfl rfl (Ext.alloc _ _))
    · have h0 : ¬ p < 0 := by omega
      go_enter Tryz.func45, Tryz.ntmps45
      go_wp2_with fail
      exact bodyPost_ret (ret_cell_tmp2 rfl _ _ w.heap.size 47 _ (0, 0) _ rfl (heap_alloc_new w _) Tryz.underlying47 rfl (by kernel_rfl)) rfl (SaysV.mk rfl rfl (Ext.alloc _ _))
  · have hr : takeV s p = failV 3 := by unfold takeV; rw [if_neg h1, if_pos (by omega)]
    have hp : p = (s.size : Int) := by omega
    subst hp
    rw [hr]
    have hb : (s.size : Int) ≤ 9223372036854775807 := by omega
    clear hr h1 h
    go_enter Tryz.func45, Tryz.ntmps45
    go_wp2_with fail
    exact bodyPost_ret (ret_cell_tmp2 rfl _ _ w.heap.size 47 _ (0, 0) _ rfl (heap_alloc_new w _) Tryz.underlying47 rfl (by kernel_rfl)) rfl (SaysV.mk rfl rfl (Ext.alloc _ _))

set_option maxHeartbeats 1000000 in
theorem rtakev_none (s : ByteArray) (p : Nat) (w : World) (_hs : s.size ≤ 9223372036854775807) (hp : p < s.size) (hk : s[p].toNat < 1 ∨ 4 < s[p].toNat) : Calls Tryz.prog 45 #[.string s, .int .i64 (p : Int)] w (SaysV w (takeV s p)) := by
  rw [take_none s p hp hk]
  rcases hk with hk | hk
  all_goals
    go_enter Tryz.func45, Tryz.ntmps45
    go_wp2_with fail
    exact bodyPost_ret (ret_cell_tmp2 rfl _ _ w.heap.size 47 _ (0, 0) _ rfl (heap_alloc2_old w _ _) Tryz.underlying47 rfl (by kernel_rfl)) rfl (SaysV.mk rfl rfl ((Ext.alloc _ _).then_alloc _))

set_option maxRecDepth 100000 in
set_option maxHeartbeats 2000000 in
theorem rtakev_flag (s : ByteArray) (p : Nat) (w : World) (hs : s.size ≤ 9223372036854775807) (hp : p < s.size) (hk : s[p].toNat = 2) : Calls Tryz.prog 45 #[.string s, .int .i64 (p : Int)] w (SaysV w (takeV s p)) := by
  have ht := take_at s p 2 hp hk (by decide) (by decide)
  have hk' : (s[p].toNat : Int) = 2 := by omega
  by_cases h1 : p + 1 = s.size
  · have hr : takeV s (p : Int) = failV 3 := by
      rw [ht]
      unfold restV
      rw [if_pos rfl, if_pos h1]
      exact checked_fail 3 (by decide)
    rw [hr]
    clear hr ht hk
    go_enter Tryz.func45, Tryz.ntmps45
    go_wp2_with fail
    exact bodyPost_ret (ret_cell_tmp2 rfl _ _ w.heap.size 47 _ (0, 0) _ rfl (heap_alloc2_old w _ _) Tryz.underlying47 rfl (by kernel_rfl)) rfl (SaysV.mk rfl rfl ((Ext.alloc _ _).then_alloc _))
  · have h2 : p + 1 < s.size := by omega
    obtain ⟨N, hN⟩ : ∃ N, N = s[p + 1].toNat := ⟨_, rfl⟩
    have hr : takeV s (p : Int) = checkedV (⟨2, (N : Int), 0, noText⟩, (p : Int) + 1 + 1, 0) := by
      rw [ht]
      unfold restV
      rw [if_pos rfl, if_neg h1, byte_at s (p + 1) h2, hN]
      rfl
    rw [hr]
    have hNl : N ≤ 255 := by rw [hN]; have := s[p + 1].toNat_lt; omega
    have hNe : (s[p + 1].toNat : Int) = (N : Int) := by rw [hN]
    clear hr ht hk h1 hN
    have kc : ∀ W, Calls Tryz.prog 58 #[.agg #[.int .u8 2, .int .i64 (N : Int), .int .u64 0, .string ⟨#[]⟩]] W (Says W (.int .i64 (checkV 2 (N : Int) 0 noText))) := fun W => rcheck_any 2 (N : Int) 0 noText W (by decide)
    have HG := @checked_good 2 (N : Int) 0 noText ((p : Int) + 1 + 1)
    have HB := @checked_bad 2 (N : Int) 0 noText ((p : Int) + 1 + 1)
    generalize checkV 2 (N : Int) 0 noText = E at *
    have HG' := hid HG
    have HB' := hid HB
    clear HG HB
    go_enter Tryz.func45, Tryz.ntmps45
    go_wp2_with fail
    refine (kc _).mono ?_
    rintro e w1 ⟨rfl, hx⟩
    have hR := hid (hx.block (heap_alloc2_old w _ _))
    have hV := hid (hx.block (heap_alloc2_new w _ _))
    have HX := hid (((Ext.alloc w _).then_alloc _).trans hx)
    clear hx
    obtain ⟨⟨c0, c1, c2, c3⟩, ⟨m0, m1, m2, m3⟩, z0⟩ := box4 hR.out
    obtain ⟨⟨d0, d1, d2, d3⟩, ⟨g0, g1, g2, g3⟩, z1⟩ := box4 hV.out
    by_cases hE : E = 0
    · have HH := hid (HG'.out hE)
      subst hE
      clear HG' HB'
      go_wp2_with fail
      refine bodyPost_ret (ret_cell_tmp2 rfl _ _ w.heap.size 47 _ (0, 0) _ rfl (set4 hR.out) Tryz.underlying47 rfl (by kernel_rfl)) rfl (SaysV.mk HH.out rfl ?_)
      repeat (first | (with_reducible exact HX.out) | (with_reducible apply Ext.then_drew) | (with_reducible apply Ext.then_alloc) | (with_reducible refine Ext.setCell ?_ (by simp) _))
    · have HH := hid (HB'.out hE)
      have hE' : (E != 0) = true := bne_iff_ne.2 hE
      clear HG' HB' hE
      go_wp2_with fail
      refine bodyPost_ret (ret_cell_tmp2 rfl _ _ w.heap.size 47 _ (0, 0) _ rfl (set4 hR.out) Tryz.underlying47 rfl (by kernel_rfl)) rfl (SaysV.mk HH.out rfl ?_)
      repeat (first | (with_reducible exact HX.out) | (with_reducible apply Ext.then_drew) | (with_reducible apply Ext.then_alloc) | (with_reducible refine Ext.setCell ?_ (by simp) _))

set_option maxRecDepth 100000 in
set_option maxHeartbeats 2000000 in
theorem rtakev_real (s : ByteArray) (p : Nat) (w : World) (hs : s.size ≤ 9223372036854775807) (hp : p < s.size) (hk : s[p].toNat = 3) : Calls Tryz.prog 45 #[.string s, .int .i64 (p : Int)] w (SaysV w (takeV s p)) := by
  have ht := take_at s p 3 hp hk (by decide) (by decide)
  have hk' : (s[p].toNat : Int) = 3 := by omega
  have hor := fun W => ropen_any (s.extract (p + 1) s.size) W
  have hrr := fun W => rrword_any (s.extract (p + 1) s.size) 0 0 W (by rw [ByteArray.size_extract]; omega)
  have hxs : (s.extract (p + 1) s.size).size = s.size - (p + 1) := by rw [ByteArray.size_extract]; omega
  by_cases h1 : s.size - (p + 1) < 8
  · have hr : takeV s (p : Int) = failV 3 := by
      rw [ht]
      unfold restV
      rw [if_neg (by decide), if_pos rfl, if_pos h1]
      exact checked_fail 3 (by decide)
    have hl : leftOf (s.extract (p + 1) s.size) 0 < 8 := by unfold leftOf; rw [if_neg (by omega)]; omega
    have ht8 := take_cut hl
    rw [hr]
    rw [ht8.1, ht8.2.1, ht8.2.2] at hrr
    clear hr ht hk h1 hl ht8 hxs
    go_enter Tryz.func45, Tryz.ntmps45
    go_wp2_with fail

    refine (hor _).mono ?_
    rintro e w1 ⟨rfl, hx⟩
    have hR := hid (hx.block (heap_alloc2_old w _ _))
    have hV := hid (hx.block (heap_alloc2_new w _ _))
    have HX := hid (((Ext.alloc w _).then_alloc _).trans hx)
    clear hx hor
    go_wp2_with fail
    refine (hrr _).mono ?_
    rintro e w2 ⟨rfl, hx⟩
    replace hR := hid (hx.block hR.out)
    replace hV := hid (hx.block hV.out)
    replace HX := hid (HX.out.trans hx)
    clear hx hrr
    obtain ⟨⟨c0, c1, c2, c3⟩, ⟨m0, m1, m2, m3⟩, z0⟩ := box4 hR.out
    obtain ⟨⟨d0, d1, d2, d3⟩, ⟨g0, g1, g2, g3⟩, z1⟩ := box4 hV.out
    go_wp2_with fail
    refine bodyPost_ret (ret_cell_tmp2 rfl _ _ w.heap.size 47 _ (0, 0) _ rfl ((heap_alloc_old _ _ (by simpa using z0)).trans (set4 hR.out)) Tryz.underlying47 rfl (by kernel_rfl)) rfl (SaysV.mk rfl rfl ?_)
    repeat (first | (with_reducible exact HX.out) | (with_reducible apply Ext.then_drew) | (with_reducible apply Ext.then_alloc) | (with_reducible refine Ext.setCell ?_ (by simp) _))
  · obtain ⟨u, hu⟩ : ∃ u, u = worth ((s.data.toList.drop (p + 1)).take 8) := ⟨_, rfl⟩
    have hr : takeV s (p : Int) = checkedV (⟨3, 0, u, noText⟩, (p : Int) + 1 + 8, 0) := by
      rw [ht]
      unfold restV
      rw [if_neg (by decide), if_pos rfl, if_neg h1, hu]
      rfl
    have hul : u ≤ 18446744073709551615 := by
      have h3 := worth_lt ((s.data.toList.drop (p + 1)).take 8)
      rw [← hu, List.length_take, List.length_drop, size_toList, Nat.min_eq_left (by omega)] at h3
      have h4 : (256 : Nat) ^ 8 = 18446744073709551616 := by decide
      omega
    have hl : ¬ leftOf (s.extract (p + 1) s.size) 0 < 8 := by unfold leftOf; rw [if_neg (by omega)]; omega
    have ht8 := take_fine hl
    have hcu : (cutOf (s.extract (p + 1) s.size) (0 : Int).toNat (8 : Int).toNat).data.toList = (s.data.toList.drop (p + 1)).take 8 := by
      unfold cutOf
      rw [ByteArray.data_extract, ByteArray.data_extract, Array.toList_extract, Array.toList_extract, List.extract_eq_take_drop, List.extract_eq_take_drop]
      show List.take (0 + 8 - 0) (List.drop 0 (List.take (s.size - (p + 1)) (List.drop (p + 1) s.data.toList))) = _
      rw [List.drop_zero, List.take_take]
      congr 1
      omega
    rw [hr]
    rw [ht8.1, ht8.2.1, ht8.2.2, hcu, ← hu] at hrr
    have HP9 := hid (show p + 9 ≤ s.size by omega)
    have HUL := hid hul
    clear hr ht hk h1 hl ht8 hxs hcu hu hul
    have kc : ∀ W, Calls Tryz.prog 58 #[.agg #[.int .u8 3, .int .i64 0, .int .u64 (u : Int), .string ⟨#[]⟩]] W (Says W (.int .i64 (checkV 3 0 u noText))) := fun W => rcheck_any 3 0 u noText W HUL.out
    have HG := @checked_good 3 0 u noText ((p : Int) + 1 + 8)
    have HB := @checked_bad 3 0 u noText ((p : Int) + 1 + 8)
    generalize checkV 3 0 u noText = E at *
    have HG' := hid HG
    have HB' := hid HB
    clear HG HB
    go_enter Tryz.func45, Tryz.ntmps45
    go_wp2_with fail

    refine (hor _).mono ?_
    rintro e w1 ⟨rfl, hx⟩
    have hR := hid (hx.block (heap_alloc2_old w _ _))
    have hV := hid (hx.block (heap_alloc2_new w _ _))
    have HX := hid (((Ext.alloc w _).then_alloc _).trans hx)
    clear hx hor
    go_wp2_with fail
    refine (hrr _).mono ?_
    rintro e w2 ⟨rfl, hx⟩
    replace hR := hid (hx.block hR.out)
    replace hV := hid (hx.block hV.out)
    replace HX := hid (HX.out.trans hx)
    clear hx hrr
    obtain ⟨⟨c0, c1, c2, c3⟩, ⟨m0, m1, m2, m3⟩, z0⟩ := box4 hR.out
    obtain ⟨⟨d0, d1, d2, d3⟩, ⟨g0, g1, g2, g3⟩, z1⟩ := box4 hV.out
    have zz0 : w.heap.size < w2.heap.size := z0
    have zz1 : w.heap.size + 1 < w2.heap.size := z1
    have hp9 : (p : Int) + 9 ≤ 9223372036854775807 := by have := HP9.out; omega
    go_wp2_with fail
    clear c0 c1 c2 c3 m0 m1 m2 m3 d0 d1 d2 d3 g0 g1 g2 g3 z0 z1
    refine (kc _).mono ?_
    rintro e w3 ⟨rfl, hx⟩
    replace hV := hid (hx.block ((heap_alloc_old _ _ (by simpa using zz1)).trans (heap_setCell_same w2 _ 2 _ _ _ hV.out)))
    replace hR := hid (hx.block ((heap_alloc_old _ _ (by simpa using zz0)).trans ((heap_setCell_other _ _ _ _ (by simp)).trans hR.out)))
    replace HX := hid (((HX.out.setCell (by simp) _).then_alloc _).trans hx)
    clear hx
    obtain ⟨⟨c0, c1, c2, c3⟩, ⟨m0, m1, m2, m3⟩, z0⟩ := box4 hR.out
    obtain ⟨⟨d0, d1, d2, d3⟩, ⟨g0, g1, g2, g3⟩, z1⟩ := box4 hV.out
    by_cases hE : E = 0
    · have HH := hid (HG'.out hE)
      subst hE
      clear HG' HB'
      go_wp2_with fail
      refine bodyPost_ret (ret_cell_tmp2 rfl _ _ w.heap.size 47 _ (0, 0) _ rfl (set4 hR.out) Tryz.underlying47 rfl (by kernel_rfl)) rfl (SaysV.mk HH.out rfl ?_)
      repeat (first | (with_reducible exact HX.out) | (with_reducible apply Ext.then_drew) | (with_reducible apply Ext.then_alloc) | (with_reducible refine Ext.setCell ?_ (by simp) _))
    · have HH := hid (HB'.out hE)
      have hE' : (E != 0) = true := bne_iff_ne.2 hE
      clear HG' HB' hE
      go_wp2_with fail
      refine bodyPost_ret (ret_cell_tmp2 rfl _ _ w.heap.size 47 _ (0, 0) _ rfl (set4 hR.out) Tryz.underlying47 rfl (by kernel_rfl)) rfl (SaysV.mk HH.out rfl ?_)
      repeat (first | (with_reducible exact HX.out) | (with_reducible apply Ext.then_drew) | (with_reducible apply Ext.then_alloc) | (with_reducible refine Ext.setCell ?_ (by simp) _))

set_option maxRecDepth 100000 in
set_option maxHeartbeats 2000000 in
theorem rtakev_int (s : ByteArray) (p : Nat) (w : World) (hs : s.size ≤ 9223372036854775807) (hp : p < s.size) (hk : s[p].toNat = 1) : Calls Tryz.prog 45 #[.string s, .int .i64 (p : Int)] w (SaysV w (takeV s p)) := by
  have ht := take_at s p 1 hp hk (by decide) (by decide)
  have hk' : (s[p].toNat : Int) = 1 := by omega
  rcases takeZ_shape s (p + 1) (by omega) with ⟨E0, hz, hE0⟩ | ⟨U, m, hz, hm1, hm2, hU⟩
  · have hr : takeV s (p : Int) = failV E0 := by
      rw [ht]
      unfold restV
      rw [if_neg (by decide), if_neg (by decide), hz, if_pos hE0]
      exact checked_fail E0 hE0
    have kz := fun W => rtake_any s ((p : Int) + 1) W hs
    rw [show ((p + 1 : Nat) : Int) = (p : Int) + 1 by omega] at hz
    rw [hz] at kz
    rw [hr]
    have hE' : (E0 != 0) = true := bne_iff_ne.2 hE0
    clear hr ht hk hz hE0
    go_enter Tryz.func45, Tryz.ntmps45
    go_wp2_with fail
    refine (kz _).mono ?_
    rintro e w1 ⟨rfl, hx⟩
    have hR := hid (hx.block (heap_alloc2_old w _ _))
    have hV := hid (hx.block (heap_alloc2_new w _ _))
    have HX := hid (((Ext.alloc w _).then_alloc _).trans hx)
    clear hx kz
    obtain ⟨⟨c0, c1, c2, c3⟩, ⟨m0, m1, m2, m3⟩, z0⟩ := box4 hR.out
    obtain ⟨⟨d0, d1, d2, d3⟩, ⟨g0, g1, g2, g3⟩, z1⟩ := box4 hV.out
    go_wp2_with fail
    refine bodyPost_ret (ret_cell_tmp2 rfl _ _ w.heap.size 47 _ (0, 0) _ rfl (set4 hR.out) Tryz.underlying47 rfl (by kernel_rfl)) rfl (SaysV.mk rfl rfl ?_)
    repeat (first | (with_reducible exact HX.out) | (with_reducible apply Ext.then_drew) | (with_reducible apply Ext.then_alloc) | (with_reducible refine Ext.setCell ?_ (by simp) _))
  · have hr : takeV s (p : Int) = checkedV (⟨1, backZ (U : Int), 0, noText⟩, (m : Int), 0) := by
      rw [ht]
      unfold restV
      rw [if_neg (by decide), if_neg (by decide), hz, if_neg (fun h => h rfl), if_pos rfl]
    have kz := fun W => rtake_any s ((p : Int) + 1) W hs
    have hz' := hz
    rw [show ((p + 1 : Nat) : Int) = (p : Int) + 1 by omega] at hz'
    rw [hz'] at kz
    have kb := fun W => rback_any (U : Int) W (by omega) (by omega)
    rw [hr]
    clear hr ht hk hz hz'
    generalize backZ (U : Int) = B at *
    have kc : ∀ W, Calls Tryz.prog 58 #[.agg #[.int .u8 1, .int .i64 B, .int .u64 0, .string ⟨#[]⟩]] W (Says W (.int .i64 (checkV 1 B 0 noText))) := fun W => rcheck_any 1 B 0 noText W (by decide)
    have HG := @checked_good 1 B 0 noText ((m : Int))
    have HB := @checked_bad 1 B 0 noText ((m : Int))
    generalize checkV 1 B 0 noText = E at *
    have HG' := hid HG
    have HB' := hid HB
    clear HG HB
    go_enter Tryz.func45, Tryz.ntmps45
    go_wp2_with fail
    refine (kz _).mono ?_
    rintro e w1 ⟨rfl, hx⟩
    have hR := hid (hx.block (heap_alloc2_old w _ _))
    have hV := hid (hx.block (heap_alloc2_new w _ _))
    have HX := hid (((Ext.alloc w _).then_alloc _).trans hx)
    clear hx kz
    obtain ⟨⟨c0, c1, c2, c3⟩, ⟨m0, m1, m2, m3⟩, z0⟩ := box4 hR.out
    obtain ⟨⟨d0, d1, d2, d3⟩, ⟨g0, g1, g2, g3⟩, z1⟩ := box4 hV.out
    go_wp2_with fail
    refine (kb _).mono ?_
    rintro e w2 ⟨rfl, hx⟩
    replace hR := hid (hx.block hR.out)
    replace hV := hid (hx.block hV.out)
    replace HX := hid (HX.out.trans hx)
    clear hx kb c0 c1 c2 c3 m0 m1 m2 m3 d0 d1 d2 d3 g0 g1 g2 g3 z0 z1
    obtain ⟨⟨c0, c1, c2, c3⟩, ⟨m0, m1, m2, m3⟩, z0⟩ := box4 hR.out
    obtain ⟨⟨d0, d1, d2, d3⟩, ⟨g0, g1, g2, g3⟩, z1⟩ := box4 hV.out
    go_wp2_with fail
    clear c0 c1 c2 c3 m0 m1 m2 m3 d0 d1 d2 d3 g0 g1 g2 g3 z0 z1
    refine (kc _).mono ?_
    rintro e w3 ⟨rfl, hx⟩
    replace hV := hid (hx.block (heap_setCell_same w2 _ 1 _ _ _ hV.out))
    replace hR := hid (hx.block ((heap_setCell_other _ _ _ _ (by simp)).trans hR.out))
    replace HX := hid ((HX.out.setCell (by simp) _).trans hx)
    clear hx
    obtain ⟨⟨c0, c1, c2, c3⟩, ⟨m0, m1, m2, m3⟩, z0⟩ := box4 hR.out
    obtain ⟨⟨d0, d1, d2, d3⟩, ⟨g0, g1, g2, g3⟩, z1⟩ := box4 hV.out
    by_cases hE : E = 0
    · have HH := hid (HG'.out hE)
      subst hE
      clear HG' HB'
      go_wp2_with fail
      refine bodyPost_ret (ret_cell_tmp2 rfl _ _ w.heap.size 47 _ (0, 0) _ rfl (set4 hR.out) Tryz.underlying47 rfl (by kernel_rfl)) rfl (SaysV.mk HH.out rfl ?_)
      repeat (first | (with_reducible exact HX.out) | (with_reducible apply Ext.then_drew) | (with_reducible apply Ext.then_alloc) | (with_reducible refine Ext.setCell ?_ (by simp) _))
    · have HH := hid (HB'.out hE)
      have hE' : (E != 0) = true := bne_iff_ne.2 hE
      clear HG' HB' hE
      go_wp2_with fail
      refine bodyPost_ret (ret_cell_tmp2 rfl _ _ w.heap.size 47 _ (0, 0) _ rfl (set4 hR.out) Tryz.underlying47 rfl (by kernel_rfl)) rfl (SaysV.mk HH.out rfl ?_)
      repeat (first | (with_reducible exact HX.out) | (with_reducible apply Ext.then_drew) | (with_reducible apply Ext.then_alloc) | (with_reducible refine Ext.setCell ?_ (by simp) _))

set_option maxRecDepth 100000 in
set_option maxHeartbeats 2000000 in
theorem rtakev_text (s : ByteArray) (p : Nat) (w : World) (hs : s.size ≤ 9223372036854775807) (hp : p < s.size) (hk : s[p].toNat = 4) : Calls Tryz.prog 45 #[.string s, .int .i64 (p : Int)] w (SaysV w (takeV s p)) := by
  have ht := take_at s p 4 hp hk (by decide) (by decide)
  have hk' : (s[p].toNat : Int) = 4 := by omega
  rcases takeZ_shape s (p + 1) (by omega) with ⟨E0, hz, hE0⟩ | ⟨U, m, hz, hm1, hm2, hU⟩
  · have hr : takeV s (p : Int) = failV E0 := by
      rw [ht]
      unfold restV
      rw [if_neg (by decide), if_neg (by decide), hz, if_pos hE0]
      exact checked_fail E0 hE0
    have kz := fun W => rtake_any s ((p : Int) + 1) W hs
    rw [show ((p + 1 : Nat) : Int) = (p : Int) + 1 by omega] at hz
    rw [hz] at kz
    rw [hr]
    have hE' : (E0 != 0) = true := bne_iff_ne.2 hE0
    clear hr ht hk hz hE0
    go_enter Tryz.func45, Tryz.ntmps45
    go_wp2_with fail
    refine (kz _).mono ?_
    rintro e w1 ⟨rfl, hx⟩
    have hR := hid (hx.block (heap_alloc2_old w _ _))
    have hV := hid (hx.block (heap_alloc2_new w _ _))
    have HX := hid (((Ext.alloc w _).then_alloc _).trans hx)
    clear hx kz
    obtain ⟨⟨c0, c1, c2, c3⟩, ⟨m0, m1, m2, m3⟩, z0⟩ := box4 hR.out
    obtain ⟨⟨d0, d1, d2, d3⟩, ⟨g0, g1, g2, g3⟩, z1⟩ := box4 hV.out
    go_wp2_with fail
    refine bodyPost_ret (ret_cell_tmp2 rfl _ _ w.heap.size 47 _ (0, 0) _ rfl (set4 hR.out) Tryz.underlying47 rfl (by kernel_rfl)) rfl (SaysV.mk rfl rfl ?_)
    repeat (first | (with_reducible exact HX.out) | (with_reducible apply Ext.then_drew) | (with_reducible apply Ext.then_alloc) | (with_reducible refine Ext.setCell ?_ (by simp) _))
  · by_cases h24 : 24 < U
    · have hr : takeV s (p : Int) = failV 5 := by
        rw [ht]
        unfold restV
        rw [if_neg (by decide), if_neg (by decide), hz, if_neg (fun h => h rfl), if_neg (by decide), if_pos h24]
        exact checked_fail 5 (by decide)
      have kz := fun W => rtake_any s ((p : Int) + 1) W hs
      have hz' := hz
      rw [show ((p + 1 : Nat) : Int) = (p : Int) + 1 by omega] at hz'
      rw [hz'] at kz
      rw [hr]
      have h24' : (24 : Int) < (U : Int) := by omega
      clear hr ht hk hz hz' h24
      go_enter Tryz.func45, Tryz.ntmps45
      go_wp2_with fail
      refine (kz _).mono ?_
      rintro e w1 ⟨rfl, hx⟩
      have hR := hid (hx.block (heap_alloc2_old w _ _))
      have hV := hid (hx.block (heap_alloc2_new w _ _))
      have HX := hid (((Ext.alloc w _).then_alloc _).trans hx)
      clear hx kz
      obtain ⟨⟨c0, c1, c2, c3⟩, ⟨m0, m1, m2, m3⟩, z0⟩ := box4 hR.out
      obtain ⟨⟨d0, d1, d2, d3⟩, ⟨g0, g1, g2, g3⟩, z1⟩ := box4 hV.out
      go_wp2_with fail
      refine bodyPost_ret (ret_cell_tmp2 rfl _ _ w.heap.size 47 _ (0, 0) _ rfl (set4 hR.out) Tryz.underlying47 rfl (by kernel_rfl)) rfl (SaysV.mk rfl rfl ?_)
      repeat (first | (with_reducible exact HX.out) | (with_reducible apply Ext.then_drew) | (with_reducible apply Ext.then_alloc) | (with_reducible refine Ext.setCell ?_ (by simp) _))
    · by_cases hl : (s.size : Int) - (m : Int) < (U : Int)
      · have hr : takeV s (p : Int) = failV 3 := by
          rw [ht]
          unfold restV
          rw [if_neg (by decide), if_neg (by decide), hz, if_neg (fun h => h rfl), if_neg (by decide), if_neg h24, if_pos hl]
          exact checked_fail 3 (by decide)
        have kz := fun W => rtake_any s ((p : Int) + 1) W hs
        have hz' := hz
        rw [show ((p + 1 : Nat) : Int) = (p : Int) + 1 by omega] at hz'
        rw [hz'] at kz
        rw [hr]
        have h24' : (U : Int) ≤ 24 := by omega
        clear hr ht hk hz hz' h24
        go_enter Tryz.func45, Tryz.ntmps45
        go_wp2_with fail
        refine (kz _).mono ?_
        rintro e w1 ⟨rfl, hx⟩
        have hR := hid (hx.block (heap_alloc2_old w _ _))
        have hV := hid (hx.block (heap_alloc2_new w _ _))
        have HX := hid (((Ext.alloc w _).then_alloc _).trans hx)
        clear hx kz
        obtain ⟨⟨c0, c1, c2, c3⟩, ⟨m0, m1, m2, m3⟩, z0⟩ := box4 hR.out
        obtain ⟨⟨d0, d1, d2, d3⟩, ⟨g0, g1, g2, g3⟩, z1⟩ := box4 hV.out
        go_wp2_with fail
        refine bodyPost_ret (ret_cell_tmp2 rfl _ _ w.heap.size 47 _ (0, 0) _ rfl (set4 hR.out) Tryz.underlying47 rfl (by kernel_rfl)) rfl (SaysV.mk rfl rfl ?_)
        repeat (first | (with_reducible exact HX.out) | (with_reducible apply Ext.then_drew) | (with_reducible apply Ext.then_alloc) | (with_reducible refine Ext.setCell ?_ (by simp) _))
      · have hr : takeV s (p : Int) = checkedV (⟨4, 0, 0, s.extract m (m + U)⟩, (m : Int) + (U : Int), 0) := by
          rw [ht]
          unfold restV
          rw [if_neg (by decide), if_neg (by decide), hz, if_neg (fun h => h rfl), if_neg (by decide), if_neg h24, if_neg hl]
          rfl
        have kz := fun W => rtake_any s ((p : Int) + 1) W hs
        have hz' := hz
        rw [show ((p + 1 : Nat) : Int) = (p : Int) + 1 by omega] at hz'
        rw [hz'] at kz
        rw [hr]
        have h24' : (U : Int) ≤ 24 := by omega
        have hmU : m + U ≤ s.size := by omega
        clear hr ht hk hz hz' h24 hl
        have kc : ∀ W, Calls Tryz.prog 58 #[.agg #[.int .u8 4, .int .i64 0, .int .u64 0, .string (s.extract m (m + U))]] W (Says W (.int .i64 (checkV 4 0 0 (s.extract m (m + U))))) := fun W => rcheck_any 4 0 0 (s.extract m (m + U)) W (by decide)
        have HG := @checked_good 4 0 0 (s.extract m (m + U)) ((m : Int) + (U : Int))
        have HB := @checked_bad 4 0 0 (s.extract m (m + U)) ((m : Int) + (U : Int))
        generalize checkV 4 0 0 (s.extract m (m + U)) = E at *
        have HG' := hid HG
        have HB' := hid HB
        clear HG HB
        go_enter Tryz.func45, Tryz.ntmps45
        go_wp2_with fail
        refine (kz _).mono ?_
        rintro e w1 ⟨rfl, hx⟩
        have hR := hid (hx.block (heap_alloc2_old w _ _))
        have hV := hid (hx.block (heap_alloc2_new w _ _))
        have HX := hid (((Ext.alloc w _).then_alloc _).trans hx)
        clear hx kz
        obtain ⟨⟨c0, c1, c2, c3⟩, ⟨m0, m1, m2, m3⟩, z0⟩ := box4 hR.out
        obtain ⟨⟨d0, d1, d2, d3⟩, ⟨g0, g1, g2, g3⟩, z1⟩ := box4 hV.out
        go_wp2_with fail
        clear c0 c1 c2 c3 m0 m1 m2 m3 d0 d1 d2 d3 g0 g1 g2 g3 z0 z1
        refine (kc _).mono ?_
        rintro e w3 ⟨rfl, hx⟩
        replace hV := hid (hx.block (heap_setCell_same w1 _ 3 _ _ _ hV.out))
        replace hR := hid (hx.block ((heap_setCell_other _ _ _ _ (by simp)).trans hR.out))
        replace HX := hid ((HX.out.setCell (by simp) _).trans hx)
        clear hx
        obtain ⟨⟨c0, c1, c2, c3⟩, ⟨m0, m1, m2, m3⟩, z0⟩ := box4 hR.out
        obtain ⟨⟨d0, d1, d2, d3⟩, ⟨g0, g1, g2, g3⟩, z1⟩ := box4 hV.out
        by_cases hE : E = 0
        · have HH := hid (HG'.out hE)
          subst hE
          clear HG' HB'
          go_wp2_with fail
          refine bodyPost_ret (ret_cell_tmp2 rfl _ _ w.heap.size 47 _ (0, 0) _ rfl (set4 hR.out) Tryz.underlying47 rfl (by kernel_rfl)) rfl (SaysV.mk HH.out rfl ?_)
          repeat (first | (with_reducible exact HX.out) | (with_reducible apply Ext.then_drew) | (with_reducible apply Ext.then_alloc) | (with_reducible refine Ext.setCell ?_ (by simp) _))
        · have HH := hid (HB'.out hE)
          have hE' : (E != 0) = true := bne_iff_ne.2 hE
          clear HG' HB' hE
          go_wp2_with fail
          refine bodyPost_ret (ret_cell_tmp2 rfl _ _ w.heap.size 47 _ (0, 0) _ rfl (set4 hR.out) Tryz.underlying47 rfl (by kernel_rfl)) rfl (SaysV.mk HH.out rfl ?_)
          repeat (first | (with_reducible exact HX.out) | (with_reducible apply Ext.then_drew) | (with_reducible apply Ext.then_alloc) | (with_reducible refine Ext.setCell ?_ (by simp) _))

theorem rtakev_any (s : ByteArray) (p : Int) (w : World) (hs : s.size ≤ 9223372036854775807) : Calls Tryz.prog 45 #[.string s, .int .i64 p] w (SaysV w (takeV s p)) := by
  by_cases h : p < 0 ∨ s.size ≤ p
  · exact rtakev_out s p w hs h
  · obtain ⟨p, rfl⟩ := Int.eq_ofNat_of_zero_le (show 0 ≤ p by omega)
    have hp : p < s.size := by omega
    by_cases hk : s[p].toNat < 1 ∨ 4 < s[p].toNat
    · exact rtakev_none s p w hs hp hk
    · have : s[p].toNat = 1 ∨ s[p].toNat = 2 ∨ s[p].toNat = 3 ∨ s[p].toNat = 4 := by omega
      rcases this with h1 | h1 | h1 | h1
      · exact rtakev_int s p w hs hp h1
      · exact rtakev_flag s p w hs hp h1
      · exact rtakev_real s p w hs hp h1
      · exact rtakev_text s p w hs hp h1

end Go.Proofs.YtnldgmpfinlikaaGreat
