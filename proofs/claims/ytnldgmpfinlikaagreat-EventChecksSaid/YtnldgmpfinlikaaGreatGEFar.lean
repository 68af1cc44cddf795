/- Several texts in one: EFar, EP9, EP10. Conditions: those of each. -/
import Derived.OwnWalk
import Derived.Test.YtnldgmpfinlikaaGreatGSMem2
import Derived.Test.YtnldgmpfinlikaaGreatEP3
import Derived.Test.YtnldgmpfinlikaaGreatGER1
import Derived.Test.YtnldgmpfinlikaaGreatGER7
import Derived.Test.YtnldgmpfinlikaaGreatGVV3
import Derived.Test.YtnldgmpfinlikaaGreatBase
/- What lies elsewhere is kept where one block has turned. Conditions: none. -/
namespace Go.Proofs.YtnldgmpfinlikaaGreat
open Go Go.RowKit

/-- but for this block nothing has turned -/
def But (g : Nat) (w w' : World) : Prop := ∀ k, k ≠ g → w'.heap[k]? = w.heap[k]?
theorem But.refl (g : Nat) (w : World) : But g w w := fun _ _ => rfl
theorem But.set {g : Nat} {w w' : World} (h : But g w w') (o : Nat) (v : Value) : But g w (w'.setCell ⟨g, o, none⟩ v) := fun k hk => (heap_setCell_other w' ⟨g, o, none⟩ k v hk).trans (h k hk)
theorem But.cell {g : Nat} {w w' : World} (h : But g w w') {k o : Nat} {v : Value} (hk : k ≠ g) (hc : w.cell? ⟨k, o, none⟩ = some v) : w'.cell? ⟨k, o, none⟩ = some v := by
  rw [← hc]
  unfold World.cell?
  rw [show w'.heap[(⟨k, o, none⟩ : Addr).block]? = w.heap[(⟨k, o, none⟩ : Addr).block]? from h k hk]
theorem own_kept {w w' : World} {base : Nat} {e t : TypeId} {size n g : Nat} {v : Value} {xs : List Value} {cs : Array Value} {fr : Nat × Nat} (h : w.ownsRow base e size v n xs) (hb : w.heap[g]? = some (.cells cs t fr)) (hne : e ≠ t) (hk : But g w w') : w'.ownsRow base e size v n xs := by
  refine ⟨h.1, ?_⟩
  rcases h.2 with h1 | ⟨g', cap, cur, hv, hb', hg, h2⟩
  · exact .inl h1
  · refine .inr ⟨g', cap, cur, hv, hb', ?_, h2⟩
    rw [hk g' (fun e => by subst e; rw [hb] at hg; simp at hg; exact hne hg.2.1.symm), hg]
/-- a block without a byte -/
def NoByte (cs : Array Value) : Prop := ∀ (j : Nat) (k : Int), cs[j]? ≠ some (Value.int .u8 k)
theorem fields_kept {w w' : World} {r : Value} {F : List FZ} {g : Nat} {cs : Array Value} {t : TypeId} {fr : Nat × Nat} (h : FieldsAt w r F) (hb : w.heap[g]? = some (.cells cs t fr)) (hn : NoByte cs) (hk : But g w w') : FieldsAt w' r F := by
  obtain ⟨A, c, rfl, h1, h2, h3⟩ := h
  refine ⟨A, c, rfl, h1, h2, fun i hi => ?_⟩
  obtain ⟨g3, o3, hA, q1, q2⟩ := h3 i hi
  have hne : g3 ≠ g := fun e => by
    subst e
    rw [cell_of_row w g3 _ _ _ _ hb] at q2
    exact hn _ _ q2
  exact ⟨g3, o3, hA, hk.cell hne q1, hk.cell hne q2⟩
theorem Built.kept {w w' : World} {base : Nat} {e t : TypeId} {v : Value} {L : List TZ} {g : Nat} {cs : Array Value} {fr : Nat × Nat} (h : Built w base e v L) (hb : w.heap[g]? = some (.cells cs t fr)) (hn : NoByte cs) (hne : e ≠ t) (hk : But g w w') : Built w' base e v L := by
  obtain ⟨R, hl, hown, hR⟩ := h
  refine ⟨R, hl, own_kept hown hb hne hk, fun i h1 h2 => ?_⟩
  obtain ⟨q1, q2⟩ := hR i h1 h2
  exact ⟨fields_kept q1 hb hn hk, q2⟩
theorem noByte_event (m o q : Int) (n : ByteArray) (A : Option Addr) (l c : Nat) : NoByte #[.int .i64 m, .int .i64 o, .int .i64 q, .string n, .slice A l c] := fun j k h => by
  match j with
  | 0 => simp at h
  | 1 => simp at h
  | 2 => simp at h
  | 3 => simp at h
  | 4 => simp at h
  | j + 5 => simp at h
theorem EventsAt.of_block {w : World} {g : Nat} {e : EZ} {r : Value} {t : TypeId} (h : w.heap[g]? = some (.cells #[.int .i64 e.m, .int .i64 e.o, .int .i64 e.q, .string e.n, r] t (0, 0))) (hv : ValsAt w r e.v) : EventsAt w (.slice (some ⟨g, 0, none⟩) 1 1) [e] := by
  refine ⟨[r], _, 1, rfl, Nat.le_refl _, by unfold maxLen; omega, ⟨rfl, fun i h1 h2 => ?_⟩, fun i h1 h2 => ?_⟩
  all_goals
    have : i = 0 := by simp at h1; omega
    subst this
  · exact hv
  · exact ⟨g, 0, rfl, cell_of_row _ _ 0 _ _ _ h, cell_of_row _ _ 1 _ _ _ h, cell_of_row _ _ 2 _ _ _ h, cell_of_row _ _ 3 _ _ _ h, cell_of_row _ _ 4 _ _ _ h⟩
end Go.Proofs.YtnldgmpfinlikaaGreat

/- The landed program's takeVals, by its contract. Conditions: few values, texts of up to 2^20 bytes. -/
namespace Go.Proofs.YtnldgmpfinlikaaGreat
open Go Go.RowKit

/-- values are told, a place, an error -/
def SaysVals (w : World) (x : List VZ × Int × Int) (e : Ending) (w' : World) : Prop := ∃ u, e = .returned (.tuple #[u, .int .i64 x.2.1, .int .i64 x.2.2]) ∧ w'.ownsRow w.heap.size 44 4 u x.1.length (vcells x.1) ∧ Ext w w'

set_option maxRecDepth 100000 in
set_option maxHeartbeats 3000000 in
theorem etakevals_any (n : Nat) (s : ByteArray) (q : Int) (w : World) (hn : n ≤ 12) (hs : s.size ≤ 1048576) (hq0 : 0 ≤ q) (hq1 : q ≤ (s.size : Int)) :
    Calls Tryz.prog 67 #[.int .i64 (n : Int), .string s, .int .i64 q] w (SaysVals w (valsE s n q)) := by
  have HV0 := hid (show valsE s n q = joinE [] (valsE s (n - 0) q) from (joinE_nil (valsE_bad s n q)).symm)
  obtain ⟨R, HRR⟩ : ∃ R, R = valsE s n q := ⟨_, rfl⟩
  rw [← HRR]
  replace HV0 := hid (HRR.trans HV0.out)
  clear HRR
  go_enter Tryz.func67, Tryz.ntmps67
  go_wp2_with fail
  go_loopw [2, 6, 11] (fun a x y wr => ∃ (i : Nat) (z : Int) (done : List VZ), i ≤ n ∧ a = .int .i64 z ∧ (0 ≤ z ∧ z ≤ (s.size : Int)) ∧ y = .int .i64 (i : Int) ∧ Hid (done.length = i) ∧ Hid (R = joinE done (valsE s (n - i) z)) ∧
      Hid (wr.ownsRow w.heap.size 44 4 x done.length (vcells done)) ∧ Hid (Ext w wr))
    (fun _ _ y _ => n - (intOf y).toNat)
  case atStart => exact ⟨0, q, [], by omega, rfl, ⟨hq0, hq1⟩, rfl, hid rfl, HV0, hid (World.ownsRow_nil _ _ _ _), hid (Ext.refl _)⟩
  case round =>
    obtain ⟨i, z, done, hi, rfl, ⟨hz0, hz1⟩, rfl, hlen, hva, hown, hext⟩ := hrel
    obtain ⟨A8, c8, rfl, z1, z2, _⟩ := own_form hown.out
    by_cases hlt : i < n
    · have hlt' : (i : Int) < (n : Int) := by omega
      have HXA := hid (Ext.alloc wr (Obj.cells #[.int .u8 0, .int .i64 0, .int .u64 0, .string noText] 44 (0, 0)))
      have HBA := hid (heap_alloc_new wr (Obj.cells #[.int .u8 0, .int .i64 0, .int .u64 0, .string noText] 44 (0, 0)))
      have kt := vtake_any s z (wr.alloc (Obj.cells #[.int .u8 0, .int .i64 0, .int .u64 0, .string noText] 44 (0, 0))) (by omega) (by omega) (by omega)
      obtain ⟨k, hk⟩ : ∃ k, n - i = k + 1 := ⟨n - i - 1, by omega⟩
      rw [hk] at hva
      have hbad := @joinV_bad s k z done
      have hst := @joinV_step s k z done
      have hdl12 : done.length < 12 := by have := hlen.out; omega
      obtain ⟨zn, rfl⟩ : ∃ n : Nat, z = (n : Int) := ⟨z.toNat, by omega⟩
      have hvb := fun (v : VZ) (m : Int) => @value_bytes s zn (by omega) v m
      unfold SaysV at kt
      generalize takeV s (zn : Int) = TV9 at *
      obtain ⟨x, m, f⟩ := TV9
      obtain ⟨xk, xn, xb, xt⟩ := x
      unfold VZ.v vv at kt
      dsimp only at *
      have HBD := hid hbad
      have HSTP := hid hst
      have HVB := hid hvb
      clear hbad hst hvb
      go_wp2_with fail
      refine kt.mono ?_
      rintro e2 w2 ⟨rfl, hx⟩
      have HBV := hid (hx.block HBA.out)
      have HX2 := hid (hext.out.trans (HXA.out.trans hx))
      have HXR := hid (HXA.out.trans hx)
      have hsz : w.heap.size ≤ wr.heap.size := Below.size hext.out
      obtain ⟨bv, hbv⟩ : ∃ b, b = wr.heap.size := ⟨_, rfl⟩
      rw [← hbv] at HBV hsz ⊢
      have HLE := hid (show wr.heap.size ≤ bv from Nat.le_of_eq hbv.symm)
      clear hx kt HXA HBA hbv
      obtain ⟨⟨v0, v1, v2, v3⟩, ⟨m0, m1, m2, m3⟩, hbvl⟩ := box4 HBV.out
      by_cases hf : f = 0
      · subst hf
        have HN2 := hid (hva.out.trans (HSTP.out rfl))
        have hk4 : k = n - (i + 1) := by omega
        obtain ⟨M, rfl, hM1, hM2, _, hIn⟩ := HVB.out _ _ rfl
        go_wp2_with (at_builtin; refine hold9 ?_)
        unfold Hold9
        obtain ⟨w3, hw3⟩ : ∃ w3, w3 = ((((w2.setCell ⟨bv, 0, none⟩ (.int .u8 (xk : Int))).setCell ⟨bv, 1, none⟩ (.int .i64 xn)).setCell ⟨bv, 2, none⟩ (.int .u64 (xb : Int))).setCell ⟨bv, 3, none⟩ (.string xt)) := ⟨_, rfl⟩
        have HX3 := hid (show Ext wr w3 by
          rw [hw3]
          repeat (first | (with_reducible exact HXR.out) | (with_reducible refine Ext.setCell ?_ HLE.out _)))
        have hs3 : w3.heap.size = w2.heap.size := by rw [hw3]; simp
        rw [← hw3]
        clear hw3 v0 v1 v2 v3 m0 m1 m2 m3 hbvl
        have HOW := hid ((own_later hown.out HX3.out).alloc (Obj.cells #[.int .u8 (xk : Int), .int .i64 xn, .int .u64 (xb : Int), .string xt] 44))
        have HL2 := hid (show Lies (w3.alloc (.cells #[.int .u8 (xk : Int), .int .i64 xn, .int .u64 (xb : Int), .string xt] 44)) (some ⟨w3.heap.size, 0, none⟩) [.int .u8 (xk : Int), .int .i64 xn, .int .u64 (xb : Int), .string xt] by
          have := Lies.of_row (heap_alloc_new w3 (.cells #[.int .u8 (xk : Int), .int .i64 xn, .int .u64 (xb : Int), .string xt] 44)) 0 4
          simpa using this)
        have hsz3 : w.heap.size ≤ (w3.alloc (Obj.cells #[.int .u8 (xk : Int), .int .i64 xn, .int .u64 (xb : Int), .string xt] 44)).heap.size := Below.size ((hext.out.trans HX3.out).then_alloc _)
        refine wpList_append_lies _ rfl (.tmp 23) (.tmp 25) 32 rfl w.heap.size 44 (.agg #[.int .u8 0, .int .i64 0, .int .u64 0, .string ⟨#[]⟩]) 4 40 Tryz.underlying32 info4 rfl (by decide) (.slice A8 done.length c8) done.length (vcells done) rfl HOW.out (some ⟨w3.heap.size, 0, none⟩) 1 1 [.int .u8 (xk : Int), .int .i64 xn, .int .u64 (xb : Int), .string xt] (by simp [Act.eval, go_sem, hs3]) rfl HL2.out (by intro u hu; simp at hu; rcases hu with rfl | rfl | rfl | rfl <;> rfl) (by unfold maxLen; omega) (by omega) hsz3 ?_
        intro v9 w9 hown9 hgrow9 hat9
        have hge := fun k hk => own_block_ge HOW.out k hk
        have HG9 := hid (Ext.grown (x := w) ((hext.out.trans HX3.out).then_alloc _) hgrow9 (fun k hk => hge k hk))
        have HOW9 := hid (show w9.ownsRow w.heap.size 44 4 v9 (done ++ [(⟨xk, xn, xb, xt⟩ : VZ)]).length (vcells (done ++ [⟨xk, xn, xb, xt⟩])) by rw [vcells_append, List.length_append]; exact hown9)
        clear hown9 hgrow9 hat9 hge hsz3
        clear hs3
        go_wp2_with fail
        go_roundw
        case rel => exact ⟨i + 1, (M : Int), done ++ [⟨xk, xn, xb, xt⟩], by omega, rfl, by omega, by go_num, hid (by rw [List.length_append, hlen.out]; rfl), hid (by rw [← hk4]; exact HN2.out), HOW9, HG9⟩
        case measure => simp only [intOf]; omega
      · have HN2 := hid (hva.out.trans (HBD.out hf))
        have hfb : (f != 0) = true := bne_iff_ne.2 hf
        clear hf
        go_wp2_with fail
        refine bodyPost_ret (results_tmp3 rfl _ _ _) rfl ?_
        rw [HN2.out]
        refine ⟨_, rfl, World.ownsRow_nil _ _ _ _, ?_⟩
        repeat (first | (with_reducible exact HX2.out) | (with_reducible refine Ext.setCell ?_ hsz _))
    · have hlt' : ¬ (i : Int) < (n : Int) := by omega
      obtain rfl : i = n := by omega
      have HVAL := hid (show R = (done, z, 0) by
        rw [hva.out, Nat.sub_self]
        show joinE done ([], z, 0) = _
        simp [joinE])
      go_wp2_with fail
      refine bodyPost_ret (results_tmp3 rfl _ _ _) rfl ?_
      rw [HVAL.out]
      exact ⟨_, rfl, hown.out, hext.out⟩
end Go.Proofs.YtnldgmpfinlikaaGreat

/- The landed program's takeOf, by its contract. Conditions: small types, texts of up to 2^20 bytes. -/
namespace Go.Proofs.YtnldgmpfinlikaaGreat
open Go Go.RowKit

theorem gen_exit8 {T : Exit → Act → World → Prop} {e : Exit} {a : Act} {X : World} (F : World → Prop) (hF : F X) (h : ∀ W, F W → T e a W) : T e a X := h X hF
/-- a number as the program holds it -/
def ewr (a : Nat) : Int := IntKind.i64.wrap (a : Int)
def restO (T : List TZ) (s : ByteArray) (a b c d : Nat) (p : Int) : EZ × Int × Int :=
  if T.length ≤ d then failE 6
  else (⟨ewr a, ewr b, ewr c, (T.getD d TZ.none).n, (valsE s (T.getD d TZ.none).f.length p).1⟩, (valsE s (T.getD d TZ.none).f.length p).2.1, (valsE s (T.getD d TZ.none).f.length p).2.2)
def takeO (T : List TZ) (s : ByteArray) (p : Int) : EZ × Int × Int :=
  match numsE s 4 p with
  | ([a, b, c, d], m, 0) => restO T s a b c d m
  | (_, _, f) => failE f

/-- four numbers, these ahead -/
def arrN (L : List Nat) : Array Value := ((L ++ List.replicate (4 - L.length) 0).map fun (u : Nat) => Value.int .u64 (u : Int)).toArray
theorem arrN_at {L : List Nat} (h : L.length < 4) : (arrN L)[L.length]? = some (.int .u64 0) := by
  unfold arrN
  rw [List.getElem?_toArray, List.getElem?_map, List.getElem?_append_right (Nat.le_refl _), Nat.sub_self]
  obtain ⟨k, hk⟩ : ∃ k, 4 - L.length = k + 1 := ⟨3 - L.length, by omega⟩
  rw [hk]
  rfl
theorem arrN_set {L : List Nat} (h : L.length < 4) (u : Nat) : (arrN L).setIfInBounds L.length (.int .u64 (u : Int)) = arrN (L ++ [u]) := by
  unfold arrN
  obtain ⟨k, hk⟩ : ∃ k, 4 - L.length = k + 1 := ⟨3 - L.length, by omega⟩
  have hk2 : 4 - (L ++ [u]).length = k := by rw [List.length_append, List.length_singleton]; omega
  rw [hk, hk2, List.setIfInBounds_toArray, List.map_append, List.set_append_right _ _ (by rw [List.length_map]; exact Nat.le_refl _), List.length_map, Nat.sub_self, List.replicate_succ, List.map_cons, List.set_cons_zero]
  simp
theorem box_arr {w : World} {g : Nat} {a b c d : Nat} {t : TypeId} (h : w.heap[g]? = some (.cells (arrN [a, b, c, d]) t (0, 0))) : w.cell? ⟨g, 0, none⟩ = some (.int .u64 (a : Int)) ∧ w.cell? ⟨g, 1, none⟩ = some (.int .u64 (b : Int)) ∧ w.cell? ⟨g, 2, none⟩ = some (.int .u64 (c : Int)) ∧ w.cell? ⟨g, 3, none⟩ = some (.int .u64 (d : Int)) :=
  ⟨cell_of_row _ _ 0 _ _ _ h, cell_of_row _ _ 1 _ _ _ h, cell_of_row _ _ 2 _ _ _ h, cell_of_row _ _ 3 _ _ _ h⟩

set_option maxRecDepth 100000 in
set_option maxHeartbeats 4000000 in
theorem etakeof_any (T : List TZ) (tv : Value) (s : ByteArray) (p : Int) (w : World) (hT : TypesAt w tv T) (hsm : TypesSmall T) (hs : s.size ≤ 1048576) (hp0 : 0 ≤ p) (hp1 : p ≤ (s.size : Int)) :
    Calls Tryz.prog 43 #[tv, .string s, .int .i64 p] w (SaysE w (takeO T s p)) := by
  obtain ⟨R, HRR⟩ : ∃ R, R = takeO T s p := ⟨_, rfl⟩
  rw [← HRR]
  have HR := hid (HRR.trans (show takeO T s p = match numsE s 4 p with
    | ([a, b, c, d], m, 0) => restO T s a b c d m
    | (_, _, f) => failE f from rfl))
  clear HRR
  have HT := hid hT
  obtain ⟨AT, cT, rfl, _, qT, _⟩ := hT
  have hmT : (T.length : Int) ≤ 9223372036854775807 := by unfold maxLen at qT; omega
  have HN0 := hid (show numsE s 4 p = joinE [] (numsE s (4 - 0) p) from (joinE_nil (numsE_bad s 4 p)).symm)
  have HX := hid ((Ext.alloc w (Obj.cells #[.int .i64 0, .int .i64 0, .int .i64 0, .string ⟨#[]⟩, .slice none 0 0] 34 (0, 0))).then_alloc (Obj.cells #[.int .u64 0, .int .u64 0, .int .u64 0, .int .u64 0] 125 (0, 0)))
  have HB := hid (heap_alloc2_old w (Obj.cells #[.int .i64 0, .int .i64 0, .int .i64 0, .string ⟨#[]⟩, .slice none 0 0] 34 (0, 0)) (Obj.cells #[.int .u64 0, .int .u64 0, .int .u64 0, .int .u64 0] 125 (0, 0)))
  have HA := hid (heap_alloc2_new w (Obj.cells #[.int .i64 0, .int .i64 0, .int .i64 0, .string ⟨#[]⟩, .slice none 0 0] 34 (0, 0)) (Obj.cells #[.int .u64 0, .int .u64 0, .int .u64 0, .int .u64 0] 125 (0, 0)))
  go_enter Tryz.func43, Tryz.ntmps43
  go_wp2_with fail
  obtain ⟨w1, hw1⟩ : ∃ w1, w1 = (w.alloc (Obj.cells #[.int .i64 0, .int .i64 0, .int .i64 0, .string ⟨#[]⟩, .slice none 0 0] 34 (0, 0))).alloc (Obj.cells #[.int .u64 0, .int .u64 0, .int .u64 0, .int .u64 0] 125 (0, 0)) := ⟨_, rfl⟩
  rw [← hw1] at HX HB HA ⊢
  clear hw1
  obtain ⟨ge, hge⟩ : ∃ g, g = w.heap.size := ⟨_, rfl⟩
  rw [← hge] at HB HA ⊢
  obtain ⟨gn, hgn⟩ : ∃ g, g = ge + 1 := ⟨_, rfl⟩
  rw [← hgn] at HA ⊢
  have HG := hid (show w.heap.size ≤ ge ∧ w.heap.size ≤ gn ∧ ge ≠ gn by omega)
  clear hge hgn
  go_loopw [2, 12] (fun a y wr => ∃ (i : Nat) (z : Int) (done : List Nat), i ≤ 4 ∧ a = .int .i64 z ∧ (0 ≤ z ∧ z ≤ (s.size : Int)) ∧ y = .int .i64 (i : Int) ∧ Hid (done.length = i) ∧ Hid (numsE s 4 p = joinE done (numsE s (4 - i) z)) ∧
      Hid (wr.heap[gn]? = some (.cells (arrN done) 125 (0, 0))) ∧ Hid (wr.heap[ge]? = some (.cells #[.int .i64 0, .int .i64 0, .int .i64 0, .string ⟨#[]⟩, .slice none 0 0] 34 (0, 0))) ∧ Hid (Ext w wr))
    (fun _ y _ => 4 - (intOf y).toNat)
  case atStart => exact ⟨0, p, [], by omega, rfl, ⟨hp0, hp1⟩, rfl, hid rfl, HN0, HA, HB, HX⟩
  case round =>
    obtain ⟨i, z, done, hi, rfl, ⟨hz0, hz1⟩, rfl, hlen, hnu, harr, hbox, hext⟩ := hrel
    by_cases h4 : i < 4
    · have h4' : (i : Int) < 4 := by omega
      have kt := ztake_any s z wr (by omega)
      have hdl4 : done.length < 4 := by have := hlen.out; omega
      obtain ⟨k, hk⟩ : ∃ k, 4 - i = k + 1 := ⟨3 - i, by omega⟩
      rw [hk] at hnu
      have hbad := @joinN_bad s k z done
      have hst := @joinN_step s k z done
      unfold SaysT at kt
      have hin : (takeZ s z).2.2 = 0 → 0 ≤ (takeZ s z).2.1 ∧ (takeZ s z).2.1 ≤ (s.size : Int) := by
        obtain ⟨qn, rfl⟩ : ∃ n : Nat, z = (n : Int) := ⟨z.toNat, by omega⟩
        obtain ⟨u9, M9, e9, h9, h8, _⟩ := takeZ_at (s := s) (p := qn) (by omega)
        rw [h9]
        intro h7
        have := h8 h7
        show 0 ≤ (M9 : Int) ∧ (M9 : Int) ≤ _
        omega
      generalize takeZ s z = TZ9 at *
      obtain ⟨u, m, f⟩ := TZ9
      dsimp only at *
      have HBD := hid hbad
      have HST := hid hst
      clear hbad hst
      go_wp2_with fail
      refine kt.mono ?_
      rintro e2 w2 ⟨rfl, hx⟩
      have HB2 := hid (hx.block hbox.out)
      have HA2 := hid (hx.block harr.out)
      have HX2 := hid (Ext.trans hext.out hx)
      have c0 : w2.cell? ⟨gn, i, none⟩ = some (.int .u64 0) := by rw [cell_of_row w2 gn i _ _ _ HA2.out, ← hlen.out, arrN_at hdl4]
      have m9 : w2.frozen? ⟨gn, i, none⟩ = false := frozen_of_row _ _ _ _ _ HA2.out
      clear hx kt
      obtain ⟨⟨b0, b1, b2, b3, b4⟩, ⟨m0, m1, m2, m3, m4⟩, _⟩ := box5 HB2.out
      have hne : ge ≠ gn := HG.out.2.2
      have hne2 : gn ≠ ge := fun h => HG.out.2.2 h.symm
      by_cases hf : f = 0
      · subst hf
        have HN2 := hid (hnu.out.trans (HST.out rfl))
        have hk4 : k = 4 - (i + 1) := by omega
        have hin2 := hin rfl
        go_wp2_with fail
        refine ⟨⟨i + 1, m, done ++ [u], by omega, rfl, hin2, by go_num, hid (by rw [List.length_append, hlen.out]; rfl), hid (by rw [← hk4]; exact HN2.out), hid ?_, hid ((heap_setCell_other w2 ⟨gn, i, none⟩ ge _ hne).trans HB2.out), hid (Ext.setCell HX2.out HG.out.2.1 _)⟩, by simp only [intOf]; omega⟩
        rw [heap_setCell_same w2 gn i _ _ _ HA2.out, ← hlen.out, arrN_set hdl4]
      · have HN2 := hid (hnu.out.trans (HBD.out hf))
        have HR2 := hid (show R = failE f by rw [HR.out, HN2.out])
        have hfb : (f != 0) = true := bne_iff_ne.2 hf
        clear hf
        go_wp2_with fail
        refine bodyPost_ret (ret_cell_tmp2 rfl _ _ ge 34 _ (0, 0) _ rfl (set5 ((heap_setCell_other w2 ⟨gn, i, none⟩ ge _ hne).trans HB2.out)) Tryz.underlying34 rfl (by kernel_rfl)) rfl ?_
        rw [HR2.out]
        refine ⟨_, rfl, EventV.none_ _, ?_⟩
        repeat (first | (with_reducible exact HX2.out) | (with_reducible refine Ext.setCell ?_ HG.out.1 _) | (with_reducible refine Ext.setCell ?_ HG.out.2.1 _))
    · have h4' : ¬ (i : Int) < 4 := by omega
      obtain rfl : i = 4 := by omega
      obtain ⟨a, b, c, d, rfl⟩ : ∃ a b c d, done = [a, b, c, d] := by
        match done, hlen.out with
        | [a, b, c, d], _ => exact ⟨a, b, c, d, rfl⟩
      have hR2 : R = restO T s a b c d z := by rw [HR.out, hnu.out]; rfl
      have HR2 := hid (hR2.trans (show restO T s a b c d z = if T.length ≤ d then failE 6
        else (⟨ewr a, ewr b, ewr c, (T.getD d TZ.none).n, (valsE s (T.getD d TZ.none).f.length z).1⟩, (valsE s (T.getD d TZ.none).f.length z).2.1, (valsE s (T.getD d TZ.none).f.length z).2.2) from rfl))
      obtain ⟨c0, c1, c2, c3⟩ := box_arr harr.out
      obtain ⟨⟨b0, b1, b2, b3, b4⟩, ⟨m0, m1, m2, m3, m4⟩, _⟩ := box5 hbox.out
      have hT12 : T.length ≤ 12 := hsm.1
      have hwl : IntKind.u64.wrap (T.length : Int) = (T.length : Int) := u64_wrap _ (by omega)
      have wa : IntKind.i64.wrap (a : Int) = ewr a := rfl
      have wb : IntKind.i64.wrap (b : Int) = ewr b := rfl
      have wc : IntKind.i64.wrap (c : Int) = ewr c := rfl
      generalize ewr a = za at *
      generalize ewr b = zb9 at *
      generalize ewr c = zc at *
      clear hR2 hnu hlen HR
      by_cases hd : T.length ≤ d
      · have HR3 := hid (HR2.out.trans (if_pos hd))
        have hd' : (T.length : Int) ≤ (d : Int) := by omega
        go_wp2_with fail
        refine bodyPost_ret (ret_cell_tmp2 rfl _ _ ge 34 _ (0, 0) _ rfl (set5 hbox.out) Tryz.underlying34 rfl (by kernel_rfl)) rfl ?_
        rw [HR3.out]
        refine ⟨_, rfl, EventV.none_ _, ?_⟩
        repeat (first | (with_reducible exact hext.out) | (with_reducible refine Ext.setCell ?_ HG.out.1 _))
      · have HR3 := hid (HR2.out.trans (if_neg hd))
        have hd' : ¬ (T.length : Int) ≤ (d : Int) := by omega
        have hd2 : (d : Int) < (T.length : Int) := by omega
        have hdl : d < T.length := by omega
        obtain ⟨g, o, c', rt, e1, _, _, t0, t1, hfr⟩ := (HT.out.ext hext.out).open_ hdl
        obtain ⟨rfl, rfl⟩ : AT = some ⟨g, o, none⟩ ∧ cT = c' := by simpa using e1
        have hF12 := hsm.2 _ (List.getElem_mem hdl)
        have hget : T.getD d TZ.none = T[d] := by rw [List.getD_eq_getElem?_getD, List.getElem?_eq_getElem hdl]; rfl
        rw [hget] at HR3
        generalize hTT : T[d] = t at *
        obtain ⟨N, F⟩ := t
        have HF := hid hfr
        obtain ⟨A6, c6, rfl, _, q6, _⟩ := hfr
        dsimp only at *
        have hf12 : F.length ≤ 12 := hF12.2.1
        have hmF : (F.length : Int) ≤ 9223372036854775807 := by omega
        have HTT := hid hTT
        clear e1 hget hTT hd hF12
        go_wp2_with fail
        go_region
        refine gen_exit8 (fun W => W.heap[ge]? = some (.cells #[.int .i64 za, .int .i64 zb9, .int .i64 zc, .string N, .slice none 0 0] 34 (0, 0)) ∧ Ext w W) ⟨set5 hbox.out, ?_⟩ ?_
        · refine Ext.then_drew ?_
          repeat (first | (with_reducible exact hext.out) | (with_reducible refine Ext.setCell ?_ HG.out.1 _))
        rintro W ⟨hbw, hxw⟩
        have HBW := hid hbw
        have HXW := hid hxw
        have hlt5 : ge < W.heap.size := (Array.getElem?_eq_some_iff.1 hbw).1
        have HLT5 := hid hlt5
        clear hbw hxw b0 b1 b2 b3 b4 m0 m1 m2 m3 m4 t0 t1 c0 c1 c2 c3 wa wb wc hlt5
        obtain ⟨g', o', c'', rt, e1, _, _, t0, t1, hfr⟩ := (HT.out.ext HXW.out).open_ hdl
        obtain ⟨⟨rfl, rfl⟩, rfl⟩ : (g = g' ∧ o = o') ∧ cT = c'' := by simpa using e1
        rw [HTT.out] at t0 hfr
        dsimp only at t0 t1 hfr
        obtain ⟨A7, c7, rfl, _, _, _⟩ := hfr
        have kk := etakevals_any F.length s z W hf12 hs hz0 hz1
        unfold SaysVals at kk
        generalize valsE s F.length z = VV at *
        obtain ⟨V, m, f⟩ := VV
        dsimp only at *
        clear e1
        go_wp2_with fail
        refine kk.mono ?_
        rintro e7 w7 ⟨u, rfl, hown, hx⟩
        have HB7 := hid (hx.block HBW.out)
        have HX7 := hid (HXW.out.trans hx)
        obtain ⟨A8, c8, rfl, _, _, _⟩ := own_form hown
        have HOW := hid hown
        clear hx kk hown t0 t1
        obtain ⟨⟨b0, b1, b2, b3, b4⟩, ⟨m0, m1, m2, m3, m4⟩, _⟩ := box5 HB7.out
        go_wp2_with fail
        have HB8 := hid (show (w7.setCell ⟨ge, 4, none⟩ (.slice A8 V.length c8)).heap[ge]? = some (.cells #[.int .i64 za, .int .i64 zb9, .int .i64 zc, .string N, .slice A8 V.length c8] 34 (0, 0)) by simpa using heap_setCell_same w7 ge 4 _ _ (.slice A8 V.length c8) HB7.out)
        refine bodyPost_ret (ret_cell_tmp2 rfl _ _ ge 34 _ (0, 0) _ rfl (set5 HB8.out) Tryz.underlying34 rfl (by kernel_rfl)) rfl ?_
        rw [HR3.out]
        refine ⟨_, rfl, ⟨_, rfl, ?_⟩, ?_⟩
        · exact ValsAt.of_own (ownsRow_setCell_below (ownsRow_setCell_below (ownsRow_setCell_below (ownsRow_setCell_below (ownsRow_setCell_below (ownsRow_setCell_below HOW.out HLT5.out _) HLT5.out _) HLT5.out _) HLT5.out _) HLT5.out _) HLT5.out _)
        · repeat (first | (with_reducible exact HX7.out) | (with_reducible refine Ext.setCell ?_ HG.out.1 _))
end Go.Proofs.YtnldgmpfinlikaaGreat

