/- Several texts in one: ER7, ER8. Conditions: those of each. -/
import Derived.BigQuiet
import Derived.Test.YtnldgmpfinlikaaGreatER5
import Derived.Test.YtnldgmpfinlikaaGreatGSMem2
import Derived.Test.YtnldgmpfinlikaaGreatGVBackM
import Derived.Test.YtnldgmpfinlikaaGreatBase
import Derived.Test.YtnldgmpfinlikaaGreatGRR1
import Derived.Test.YtnldgmpfinlikaaGreatGOct4
import Derived.Test.YtnldgmpfinlikaaGreatER4
import Derived.Test.YtnldgmpfinlikaaGreatZR2
import Derived.Test.YtnldgmpfinlikaaGreatVR5
/- The document's Put of an event, by its contract. Conditions: numbers within their kinds, texts of up to 2^40 bytes. -/
namespace Go.Proofs.YtnldgmpfinlikaaGreat
open Go Go.RowKit

/-- a value's bytes -/
def bVal (x : VZ) : List UInt8 := bytesV x.k x.n x.b x.t
theorem bVals_len : ∀ (V : List VZ), (∀ v ∈ V, checkV v.k v.n v.b v.t = 0) → (V.flatMap bVal).length ≤ 100 * V.length
  | [], _ => Nat.le_refl _
  | v :: V, h => by
    have h1 := bytes_len (h v (List.mem_cons_self ..))
    have h2 := bVals_len V (fun x hx => h x (List.mem_cons_of_mem _ hx))
    rw [List.flatMap_cons, List.length_append, List.length_cons]
    show (bytesV v.k v.n v.b v.t).length + _ ≤ _
    omega
theorem zb_ten (u : Nat) (h : u ≤ 18446744073709551615) : (zb u).length ≤ 10 := by rw [zb_length]; exact zs_ten (by omega)
theorem u64_wrap (n : Nat) (h : n ≤ 18446744073709551615) : IntKind.u64.wrap (n : Int) = (n : Int) := by
  rw [IntKind.wrap_u64]
  omega
/-- what is known of an event that may be -/
theorem event_known {T : List TZ} {e : EZ} (h : checkE T e = 0) : (0 ≤ e.m ∧ e.m ≤ 1099511627776) ∧ (0 ≤ e.o ∧ e.o < 16) ∧ (0 ≤ e.q ∧ e.q ≤ 1099511627776) ∧ placeE e.n T < T.length ∧ T.length ≤ 12 ∧ e.v.length ≤ 12 ∧ ∀ v ∈ e.v, checkV v.k v.n v.b v.t = 0 := by
  obtain ⟨h1, h2, h3, h4⟩ := checkE_ok h
  obtain ⟨h5, h6, _⟩ := find_placeE e.n T h3
  have hs := check_small h1
  unfold boundE at h2
  have hf : e.v.length = (findZ e.n T).1.f.length := by
    unfold fitsZ at h4
    by_cases hl : e.v.length ≠ (findZ e.n T).1.f.length
    · rw [if_pos hl] at h4; cases h4
    · exact Classical.not_not.1 hl
  have hfit : fitZ (findZ e.n T).1.f e.v = 0 := by
    unfold fitsZ at h4
    rwa [if_neg (fun k => k hf)] at h4
  have hmem : (findZ e.n T).1 ∈ T := by
    rw [← h6, List.getD_eq_getElem?_getD, List.getElem?_eq_getElem h5]
    exact List.getElem_mem h5
  refine ⟨by omega, by omega, by omega, h5, hs.1, ?_, fits_may _ _ hf hfit⟩
  have := (hs.2 _ hmem).2.1
  omega

end Go.Proofs.YtnldgmpfinlikaaGreat

/- The document's Take of an event, by its contract. Conditions: numbers within their kinds, texts of up to 2^20 bytes. -/
namespace Go.Proofs.YtnldgmpfinlikaaGreat
open Go Go.RowKit

/-- an event is told, a place, an error -/
def SaysE (w : World) (t : EZ × Int × Int) (e : Ending) (w' : World) : Prop := ∃ v, e = .returned (.tuple #[v, .int .i64 t.2.1, .int .i64 t.2.2]) ∧ EventV w' v t.1 ∧ Ext w w'
/-- what was read ahead of the rest -/
def joinE {α : Type} (done : List α) (x : List α × Int × Int) : List α × Int × Int := if x.2.2 = 0 then (done ++ x.1, x.2.1, 0) else ([], 0, x.2.2)
theorem numsE_step (s : ByteArray) (k : Nat) (p : Int) : numsE s (k + 1) p = if (takeZ s p).2.2 ≠ 0 then ([], 0, (takeZ s p).2.2)
    else if (numsE s k (takeZ s p).2.1).2.2 ≠ 0 then ([], 0, (numsE s k (takeZ s p).2.1).2.2)
    else ((takeZ s p).1 :: (numsE s k (takeZ s p).2.1).1, (numsE s k (takeZ s p).2.1).2.1, 0) := rfl
theorem valsE_step (s : ByteArray) (k : Nat) (p : Int) : valsE s (k + 1) p = if (takeV s p).2.2 ≠ 0 then ([], 0, (takeV s p).2.2)
    else if (valsE s k (takeV s p).2.1).2.2 ≠ 0 then ([], 0, (valsE s k (takeV s p).2.1).2.2)
    else ((takeV s p).1 :: (valsE s k (takeV s p).2.1).1, (valsE s k (takeV s p).2.1).2.1, 0) := rfl
theorem joinE_nil {α : Type} {x : List α × Int × Int} (h : x.2.2 ≠ 0 → x = ([], 0, x.2.2)) : joinE [] x = x := by
  unfold joinE
  obtain ⟨a, b, c⟩ := x
  by_cases hc : c = 0
  · subst hc; rfl
  · rw [if_neg hc]
    exact (h hc).symm
theorem numsE_bad (s : ByteArray) : ∀ (k : Nat) (p : Int), (numsE s k p).2.2 ≠ 0 → numsE s k p = ([], 0, (numsE s k p).2.2)
  | 0, _, h => absurd rfl h
  | k + 1, p, h => by
    rw [numsE_step] at h ⊢
    by_cases h1 : (takeZ s p).2.2 ≠ 0
    · rw [if_pos h1]
    · rw [if_neg h1] at h ⊢
      by_cases h2 : (numsE s k (takeZ s p).2.1).2.2 ≠ 0
      · rw [if_pos h2]
      · rw [if_neg h2] at h
        exact absurd rfl h
theorem valsE_bad (s : ByteArray) : ∀ (k : Nat) (p : Int), (valsE s k p).2.2 ≠ 0 → valsE s k p = ([], 0, (valsE s k p).2.2)
  | 0, _, h => absurd rfl h
  | k + 1, p, h => by
    rw [valsE_step] at h ⊢
    by_cases h1 : (takeV s p).2.2 ≠ 0
    · rw [if_pos h1]
    · rw [if_neg h1] at h ⊢
      by_cases h2 : (valsE s k (takeV s p).2.1).2.2 ≠ 0
      · rw [if_pos h2]
      · rw [if_neg h2] at h
        exact absurd rfl h
theorem joinN_step {s : ByteArray} {k : Nat} {p : Int} {done : List Nat} (h : (takeZ s p).2.2 = 0) : joinE done (numsE s (k + 1) p) = joinE (done ++ [(takeZ s p).1]) (numsE s k (takeZ s p).2.1) := by
  rw [numsE_step, if_neg (fun g => g h)]
  generalize numsE s k (takeZ s p).2.1 = x
  obtain ⟨a, b, c⟩ := x
  by_cases hc : c = 0
  · subst hc
    simp [joinE]
  · simp [joinE, hc]
theorem joinN_bad {s : ByteArray} {k : Nat} {p : Int} {done : List Nat} (h : (takeZ s p).2.2 ≠ 0) : joinE done (numsE s (k + 1) p) = ([], 0, (takeZ s p).2.2) := by
  rw [numsE_step, if_pos h]
  exact if_neg h
theorem joinV_step {s : ByteArray} {k : Nat} {p : Int} {done : List VZ} (h : (takeV s p).2.2 = 0) : joinE done (valsE s (k + 1) p) = joinE (done ++ [(takeV s p).1]) (valsE s k (takeV s p).2.1) := by
  rw [valsE_step, if_neg (fun g => g h)]
  generalize valsE s k (takeV s p).2.1 = x
  obtain ⟨a, b, c⟩ := x
  by_cases hc : c = 0
  · subst hc
    simp [joinE]
  · simp [joinE, hc]
theorem joinV_bad {s : ByteArray} {k : Nat} {p : Int} {done : List VZ} (h : (takeV s p).2.2 ≠ 0) : joinE done (valsE s (k + 1) p) = ([], 0, (takeV s p).2.2) := by
  rw [valsE_step, if_pos h]
  exact if_neg h
def nvs (L : List Nat) : List Value := L.map fun (u : Nat) => Value.int .u64 (u : Int)
theorem nvs_append (L M : List Nat) : nvs (L ++ M) = nvs L ++ nvs M := List.map_append
theorem infoN8 : (Tryz.prog.info? 42).map (fun i => (i.zero, i.size, i.bytes)) = some (some (.int .u64 0), 1, 8) := by kernel_rfl
theorem infoV8 : (Tryz.prog.info? 47).map (fun i => (i.zero, i.size, i.bytes)) = some (some (.agg #[.int .u8 0, .int .i64 0, .int .u64 0, .string ⟨#[]⟩]), 4, 40) := by kernel_rfl
theorem set5 {x : World} {g : Nat} {u0 u1 u2 u3 u4 a b c d e : Value} {t : TypeId} (h : x.heap[g]? = some (.cells #[u0, u1, u2, u3, u4] t (0, 0))) :
    (((((x.setCell ⟨g, 0, none⟩ a).setCell ⟨g, 1, none⟩ b).setCell ⟨g, 2, none⟩ c).setCell ⟨g, 3, none⟩ d).setCell ⟨g, 4, none⟩ e).heap[g]? = some (.cells #[a, b, c, d, e] t (0, 0)) := by
  have h1 := heap_setCell_same x g 0 _ t a h
  have h2 := heap_setCell_same _ g 1 _ t b h1
  have h3 := heap_setCell_same _ g 2 _ t c h2
  have h4 := heap_setCell_same _ g 3 _ t d h3
  have h5 := heap_setCell_same _ g 4 _ t e h4
  simpa using h5
theorem EventV.none_ (w : World) : EventV w (.agg #[.int .i64 0, .int .i64 0, .int .i64 0, .string noText, .slice none 0 0]) EZ.none :=
  ⟨.slice none 0 0, rfl, ⟨none, 0, rfl, Nat.le_refl _, by unfold maxLen; omega, fun _ h => absurd h (Nat.not_lt_zero _)⟩⟩

set_option maxRecDepth 100000 in
set_option maxHeartbeats 8000000 in
theorem rtakee_any (T : List TZ) (tv : Value) (s : ByteArray) (p : Int) (w : World) (hT : TypesAt w tv T) (hok : TypesOk T) (hs : s.size ≤ 1048576) (hp0 : -9223372036854775808 ≤ p) (hp1 : p ≤ 9223372036854775807) :
    Calls Tryz.prog 17 #[tv, .string s, .int .i64 p] w (SaysE w (takeEv T s p)) := by
  obtain ⟨iN, hiN, hzN0, hzN1, hzN2⟩ := info_parts infoN8
  obtain ⟨iV, hiV, hzV0, hzV1, hzV2⟩ := info_parts infoV8
  have kc := fun W (h : Ext w W) => rchecks_any T tv W (hT.ext h) hok
  have ho : takeEv T s p = if checkZ T ≠ 0 ∨ p < 0 ∨ s.size < p then failE 2 else match numsE s 4 p with
    | ([a, b, c, d], m, 0) => restE T s a b c d m
    | (_, _, f) => failE f := rfl
  have hsm := @check_small T
  generalize takeEv T s p = R at *
  generalize checkZ T = CT at *
  have HT := hid hT
  obtain ⟨AT, cT, rfl, _, qT, _⟩ := hT
  have hmT : (T.length : Int) ≤ 9223372036854775807 := by unfold maxLen at qT; omega
  have HO := hid ho
  have HSM := hid hsm
  clear ho hsm
  have HX := hid (Ext.alloc w (Obj.cells #[.int .i64 0, .int .i64 0, .int .i64 0, .string noText, .slice none 0 0] 25 (0, 0)))
  have HB := hid (heap_alloc_new w (Obj.cells #[.int .i64 0, .int .i64 0, .int .i64 0, .string noText, .slice none 0 0] 25 (0, 0)))
  go_enter Tryz.func17, Tryz.ntmps17
  go_wp2_with fail
  refine (kc _ HX.out).mono ?_
  rintro e1 w1 ⟨rfl, hx⟩
  replace HB := hid (hx.block HB.out)
  replace HX := hid (HX.out.trans hx)
  clear hx kc
  by_cases hbad : CT ≠ 0 ∨ p < 0 ∨ s.size < p
  · have HR := hid (HO.out.trans (if_pos hbad))
    obtain ⟨⟨b0, b1, b2, b3, b4⟩, ⟨m0, m1, m2, m3, m4⟩, _⟩ := box5 HB.out
    rcases (show (CT != 0) = true ∨ ((CT != 0) = false ∧ p < 0) ∨ ((CT != 0) = false ∧ ¬ p < 0 ∧ (s.size : Int) < p) by
      by_cases h : CT = 0
      · have h1 : (CT != 0) = false := bne_eq_false_iff_eq.2 h
        rcases hbad with hb | hb | hb
        · exact absurd h hb
        · exact .inr (.inl ⟨h1, hb⟩)
        · exact .inr (.inr ⟨h1, by omega, hb⟩)
      · exact .inl (bne_iff_ne.2 h)) with h1 | ⟨h1, h2⟩ | ⟨h1, h2, h3⟩
    all_goals
      clear hbad
      go_wp2_with fail
      refine bodyPost_ret (ret_cell_tmp2 rfl _ _ w.heap.size 25 _ (0, 0) _ rfl (set5 HB.out) Tryz.underlying25 rfl (by kernel_rfl)) rfl ?_
      rw [HR.out]
      refine ⟨_, rfl, EventV.none_ _, ?_⟩
      repeat (first | (with_reducible exact HX.out) | (with_reducible refine Ext.setCell ?_ (by simp) _))
  · have HR := hid (HO.out.trans (if_neg hbad))
    have h1 : (CT != 0) = false := bne_eq_false_iff_eq.2 (by omega)
    have h2 : ¬ p < 0 := by omega
    have h3 : ¬ (s.size : Int) < p := by omega
    have hsm := HSM.out (by omega)
    have hT12 : T.length ≤ 12 := hsm.1
    clear hbad HO
    have HE0 := hid (show Ext w w1 from HX.out)
    have hS0 : w.heap.size < w1.heap.size := (Array.getElem?_eq_some_iff.1 HB.out).1
    go_wp2_with fail
    have HN0 := hid (show numsE s 4 p = joinE [] (numsE s (4 - 0) p) from (joinE_nil (numsE_bad s 4 p)).symm)
    go_loopw [2, 9, 10] (fun a x y wr => ∃ (i : Nat) (q : Int) (done : List Nat), i ≤ 4 ∧ a = .int .i64 q ∧ (0 ≤ q ∧ q ≤ (s.size : Int)) ∧ y = .int .i64 (i : Int) ∧ Hid (done.length = i) ∧ Hid (numsE s 4 p = joinE done (numsE s (4 - i) q)) ∧
        Hid (wr.ownsRow (w.heap.size + 1) 42 1 x done.length (nvs done)) ∧ Hid (Ext w wr) ∧ Hid (wr.heap[w.heap.size]? = some (.cells #[.int .i64 0, .int .i64 0, .int .i64 0, .string noText, .slice none 0 0] 25 (0, 0))))
      (fun _ _ y _ => 4 - (intOf y).toNat)
    case atStart => exact ⟨0, p, [], by omega, rfl, by omega, rfl, hid rfl, HN0, World.ownsRow_nil _ _ _ _, HX, HB⟩
    case round =>
      obtain ⟨i, q, done, hi, rfl, ⟨hq0, hq1⟩, rfl, hlen, hnu, hown, hext, hbox⟩ := hrel
      obtain ⟨A5, c5, hsl, z1, z2, z3⟩ := own_form hown.out
      have Z3 := hid z3
      clear z3
      by_cases h4 : i < 4
      · have h4' : (i : Int) < 4 := by omega
        have kt := rtake_any s q wr (by omega)
        have hdl4 : done.length < 4 := by have := hlen.out; omega
        obtain ⟨k, hk⟩ : ∃ k, 4 - i = k + 1 := ⟨3 - i, by omega⟩
        rw [hk] at hnu
        have hbad := @joinN_bad s k q done
        have hst := @joinN_step s k q done
        unfold SaysT at kt
        have hin : (takeZ s q).2.2 = 0 → 0 ≤ (takeZ s q).2.1 ∧ (takeZ s q).2.1 ≤ (s.size : Int) := by
          obtain ⟨qn, rfl⟩ : ∃ n : Nat, q = (n : Int) := ⟨q.toNat, by omega⟩
          obtain ⟨u9, M9, e9, h9, h8, _⟩ := takeZ_at (s := s) (p := qn) (by omega)
          rw [h9]
          intro h7
          have := h8 h7
          show 0 ≤ (M9 : Int) ∧ (M9 : Int) ≤ _
          omega
        generalize takeZ s q = TZ9 at *
        obtain ⟨u, m, f⟩ := TZ9
        dsimp only at *
        have HBD := hid hbad
        have HST := hid hst
        clear hbad hst
        subst hsl
        go_wp2_with fail
        refine kt.mono ?_
        rintro e2 w2 ⟨rfl, hx⟩
        have HB2 := hid (hx.block hbox.out)
        have HX2 := hid (Ext.trans hext.out hx)
        have HOW := hid (own_later hown.out hx)
        have hsz2 : w.heap.size + 1 ≤ w2.heap.size := (Array.getElem?_eq_some_iff.1 HB2.out).1
        clear hx kt
        by_cases hf : f = 0
        · subst hf
          have HN2 := hid (hnu.out.trans (HST.out rfl))
          have hk4 : k = 4 - (i + 1) := by omega
          have hin2 := hin rfl
          go_wp2_with (at_builtin; refine Go.wpList_append_lies _ rfl (.tmp 50) (.tmp 52) 97 rfl (w.heap.size + 1) 42 iN (.int .u64 0) 1 8 Tryz.underlying97 hiN hzN0 hzN1 hzN2 rfl (by decide) _ done.length _ rfl (HOW.out.alloc _) ⟨w2.heap.size, 0, none⟩ 1 1 [.int .u64 (u : Int)] rfl rfl (fun j u h => World.news_of_block (heap_alloc_new w2 _) j u h) (by intro u hu; simp at hu; rcases hu with rfl; rfl) (by decide) (by unfold maxLen; omega) (by omega) (by simp; omega) _ rfl ?_; intro g9 cap9 w9 hown9 hgrow9 hat9 hlt9)
          have HG9 := hid (Ext.grown (x := w) (HX2.out.then_alloc _) hgrow9 (fun k hk => by have := own_block_ge HOW.out k hk; omega))
          have HBX9 := hid (grown_block (Ext.alloc w2 _) hgrow9 (fun k hk => own_block_ge HOW.out k hk) HB2.out (Nat.lt_succ_self _))
          have HOW9 := hid (show w9.ownsRow (w.heap.size + 1) 42 1 (.slice (some ⟨g9, 0, none⟩) (done.length + 1) cap9) (done ++ [u]).length (nvs (done ++ [u])) by rw [nvs_append, List.length_append]; exact hown9)
          clear hown9 hgrow9 hat9 hlt9
          go_roundw
          case rel => exact ⟨i + 1, m, done ++ [u], by omega, rfl, hin2, by go_num, hid (by rw [List.length_append, hlen.out]; rfl), hid (by rw [← hk4]; exact HN2.out), HOW9, HG9, HBX9⟩
          case measure => simp only [intOf]; omega
        · have HN2 := hid (hnu.out.trans (HBD.out hf))
          have HR2 := hid (show R = failE f by rw [HR.out, HN2.out])
          have hfb : (f != 0) = true := bne_iff_ne.2 hf
          obtain ⟨⟨b0, b1, b2, b3, b4⟩, ⟨m0, m1, m2, m3, m4⟩, _⟩ := box5 HB2.out
          clear hf
          go_wp2_with fail
          refine bodyPost_ret (ret_cell_tmp2 rfl _ _ w.heap.size 25 _ (0, 0) _ rfl (set5 HB2.out) Tryz.underlying25 rfl (by kernel_rfl)) rfl ?_
          rw [HR2.out]
          refine ⟨_, rfl, EventV.none_ _, ?_⟩
          repeat (first | (with_reducible exact HX2.out) | (with_reducible refine Ext.setCell ?_ (by simp) _))
      · have h4' : ¬ (i : Int) < 4 := by omega
        obtain rfl : i = 4 := by omega
        obtain ⟨a, b, c, d, rfl⟩ : ∃ a b c d, done = [a, b, c, d] := by
          match done, hlen.out with
          | [a, b, c, d], _ => exact ⟨a, b, c, d, rfl⟩
        have HR2 := hid (show R = restE T s a b c d q by rw [HR.out, hnu.out]; rfl)
        obtain ⟨g5, hg5, c0⟩ := Z3.out 0 _ rfl
        subst hg5
        obtain ⟨g5', hg5', c1⟩ := Z3.out 1 _ rfl
        obtain rfl : g5 = g5' := by simpa using hg5'
        obtain ⟨g5', hg5', c2⟩ := Z3.out 2 _ rfl
        obtain rfl : g5 = g5' := by simpa using hg5'
        obtain ⟨g5', hg5', c3⟩ := Z3.out 3 _ rfl
        obtain rfl : g5 = g5' := by simpa using hg5'
        subst hsl
        have hre : restE T s a b c d q = if T.length ≤ d then failE 6 else if (valsE s (T.getD d TZ.none).f.length q).2.2 ≠ 0 then failE (valsE s (T.getD d TZ.none).f.length q).2.2
          else if checkE T (madeE a b c (T.getD d TZ.none) (valsE s (T.getD d TZ.none).f.length q).1) ≠ 0 then failE (checkE T (madeE a b c (T.getD d TZ.none) (valsE s (T.getD d TZ.none).f.length q).1))
          else (madeE a b c (T.getD d TZ.none) (valsE s (T.getD d TZ.none).f.length q).1, (valsE s (T.getD d TZ.none).f.length q).2.1, 0) := rfl
        replace HR2 := hid (HR2.out.trans hre)
        have hwl : IntKind.u64.wrap (T.length : Int) = (T.length : Int) := u64_wrap _ (by omega)
        clear hre HR hnu hown hlen
        by_cases hd : T.length ≤ d
        · have HR3 := hid (HR2.out.trans (if_pos hd))
          have hd' : (T.length : Int) ≤ (d : Int) := by omega
          obtain ⟨⟨b0, b1, b2, b3, b4⟩, ⟨m0, m1, m2, m3, m4⟩, _⟩ := box5 hbox.out
          go_wp2_with fail
          refine bodyPost_ret (ret_cell_tmp2 rfl _ _ w.heap.size 25 _ (0, 0) _ rfl (set5 hbox.out) Tryz.underlying25 rfl (by kernel_rfl)) rfl ?_
          rw [HR3.out]
          refine ⟨_, rfl, EventV.none_ _, ?_⟩
          repeat (first | (with_reducible exact hext.out) | (with_reducible refine Ext.setCell ?_ (by simp) _))
        · have HR3 := hid (HR2.out.trans (if_neg hd))
          have hd' : ¬ (T.length : Int) ≤ (d : Int) := by omega
          have hdl : d < T.length := by omega
          have hwd : IntKind.i64.wrap (d : Int) = (d : Int) := iwrap _ (by omega) (by omega)
          obtain ⟨g, o, c', rt, e1, _, _, t0, t1, hfr⟩ := (HT.out.ext hext.out).open_ hdl
          obtain ⟨rfl, rfl⟩ : AT = some ⟨g, o, none⟩ ∧ cT = c' := by simpa using e1
          have hF12 := hsm.2 _ (List.getElem_mem hdl)
          have hget : T.getD d TZ.none = T[d] := by rw [List.getD_eq_getElem?_getD, List.getElem?_eq_getElem hdl]; rfl
          rw [hget] at HR3
          generalize hTT : T[d] = t at *
          obtain ⟨N, F⟩ := t
          have HF := hid hfr
          obtain ⟨A6, c6, rfl, _, q6, _⟩ := hfr
          dsimp only at *
          have hf12 : F.length ≤ 12 := hF12.2.1
          have hmF : (F.length : Int) ≤ 9223372036854775807 := by omega
          clear e1 hget hTT hd hF12
          go_wp2_with fail
          have HTB := hid (heap_alloc2_old wr (Obj.cells #[.string N, .slice A6 F.length c6] 62 (0, 0)) (Obj.cells #[.int .i64 (-1), .int .i64 (-1), .int .i64 (-1), .string N, .slice none 0 0] 25 (0, 0)))
          have HEB := hid (heap_alloc2_new wr (Obj.cells #[.string N, .slice A6 F.length c6] 62 (0, 0)) (Obj.cells #[.int .i64 (-1), .int .i64 (-1), .int .i64 (-1), .string N, .slice none 0 0] 25 (0, 0)))
          have HXE := hid ((Ext.alloc wr (Obj.cells #[.string N, .slice A6 F.length c6] 62 (0, 0))).then_alloc (Obj.cells #[.int .i64 (-1), .int .i64 (-1), .int .i64 (-1), .string N, .slice none 0 0] 25 (0, 0)))
          obtain ⟨W5, hW5⟩ : ∃ W5, W5 = (wr.alloc (Obj.cells #[.string N, .slice A6 F.length c6] 62 (0, 0))).alloc (Obj.cells #[.int .i64 (-1), .int .i64 (-1), .int .i64 (-1), .string N, .slice none 0 0] 25 (0, 0)) := ⟨_, rfl⟩
          rw [← hW5] at HTB HEB HXE ⊢
          obtain ⟨ST, hST⟩ : ∃ ST, ST = wr.heap.size := ⟨_, rfl⟩
          rw [← hST] at HTB HEB ⊢
          have HST := hid hST
          obtain ⟨W4, hW4⟩ : ∃ W4, W4 = wr := ⟨_, rfl⟩
          rw [← hW4] at HXE HST hext c0 c1 c2 c3 HF hbox
          clear hST hW5 hW4 t0 t1 Z3
          have HV0 := hid (show valsE s F.length q = joinE [] (valsE s (F.length - 0) q) from (joinE_nil (valsE_bad s F.length q)).symm)
          have hSTlt : w.heap.size < ST := by rw [HST.out]; exact (Array.getElem?_eq_some_iff.1 hbox.out).1
          go_loopw [2, 16] (fun a y wq => ∃ (i : Nat) (z : Int) (done : List VZ) (v2 : Value), i ≤ F.length ∧ a = .int .i64 z ∧ (0 ≤ z ∧ z ≤ (s.size : Int)) ∧ y = .int .i64 (i : Int) ∧ Hid (done.length = i) ∧ Hid (valsE s F.length q = joinE done (valsE s (F.length - i) z)) ∧
              Hid (wq.heap[ST + 1]? = some (.cells #[.int .i64 (-1), .int .i64 (-1), .int .i64 (-1), .string N, v2] 25 (0, 0))) ∧ Hid (wq.ownsRow (ST + 2) 47 4 v2 done.length (vcells done)) ∧
              Hid (Ext W4 wq) ∧ Hid (wq.heap[ST]? = some (.cells #[.string N, .slice A6 F.length c6] 62 (0, 0))) ∧ Hid (∀ x ∈ done, x.In))
            (fun _ y _ => F.length - (intOf y).toNat)
          case atStart => exact ⟨0, q, [], .slice none 0 0, by omega, rfl, ⟨hq0, hq1⟩, rfl, hid rfl, HV0, HEB, World.ownsRow_nil _ _ _ _, HXE, HTB, hid (fun x hx => by cases hx)⟩
          case round =>
            obtain ⟨i, z, done, v2, hi, rfl, ⟨hz0, hz1⟩, rfl, hlen, hva, heb, hown, hext2, htb, hin⟩ := hrel
            have HBX := hid (hext2.out.block hbox.out)
            have HXW := hid (hext.out.trans hext2.out)
            obtain ⟨A8, c8, rfl, z1, z2, _⟩ := own_form hown.out
            obtain ⟨⟨t0, t1⟩, _, _⟩ := box2 htb.out
            by_cases hlt : i < F.length
            · have hlt' : (i : Int) < (F.length : Int) := by omega
              have kt := rtakev_any s z wr (by omega)
              obtain ⟨k, hk⟩ : ∃ k, F.length - i = k + 1 := ⟨F.length - i - 1, by omega⟩
              rw [hk] at hva
              have hbad := @joinV_bad s k z done
              have hst := @joinV_step s k z done
              have hdl12 : done.length < 12 := by have := hlen.out; omega
              obtain ⟨zn, rfl⟩ : ∃ n : Nat, z = (n : Int) := ⟨z.toNat, by omega⟩
              have hvb := fun (v : VZ) (m : Int) => @value_bytes s zn (by omega) v m
              unfold SaysV at kt
              generalize takeV s (zn : Int) = TV9 at *
              obtain ⟨x, m, f⟩ := TV9
              obtain ⟨xk, xn, xb, xt⟩ := x
              unfold VZ.v vv at kt
              dsimp only at *
              have HBD := hid hbad
              have HSTP := hid hst
              have HVB := hid hvb
              clear hbad hst hvb
              go_wp2_with fail
              refine kt.mono ?_
              rintro e2 w2 ⟨rfl, hx⟩
              have hxa := hx.then_alloc (Obj.cells #[.int .u8 (xk : Int), .int .i64 xn, .int .u64 (xb : Int), .string xt] 47 (0, 0))
              have HVX := hid (heap_alloc_new w2 (Obj.cells #[.int .u8 (xk : Int), .int .i64 xn, .int .u64 (xb : Int), .string xt] 47 (0, 0)))
              have HB2 := hid (hxa.block HBX.out)
              have HEB2 := hid (hxa.block heb.out)
              have HTB2 := hid (hxa.block htb.out)
              have HOW := hid (own_later hown.out hxa)
              have HX2 := hid (Ext.trans hext2.out hxa)
              have HXW2 := hid (Ext.trans HXW.out hxa)
              have hS2 : ST + 1 < w2.heap.size + 1 := by have := (Array.getElem?_eq_some_iff.1 HEB2.out).1; simpa using this
              obtain ⟨⟨v0, v1, v2, v3⟩, _, _⟩ := box4 HVX.out
              obtain ⟨⟨g0, g1, g2, g3, g4⟩, ⟨n0, n1, n2, n3, n4⟩, _⟩ := box5 HEB2.out
              clear hx hxa kt t0 t1
              by_cases hf : f = 0
              · subst hf
                have HN2 := hid (hva.out.trans (HSTP.out rfl))
                have hk4 : k = F.length - (i + 1) := by omega
                obtain ⟨M, rfl, hM1, hM2, _, hIn⟩ := HVB.out _ _ rfl
                go_wp2_with (at_builtin; go_must (refine Go.wpList_append_lies _ rfl (.tmp 92) (.tmp 94) 23 rfl (ST + 2) 47 iV (.agg #[.int .u8 0, .int .i64 0, .int .u64 0, .string ⟨#[]⟩]) 4 40 Tryz.underlying23 hiV hzV0 hzV1 hzV2 rfl (by decide) (.slice A8 done.length c8) done.length _ rfl (HOW.out.alloc _) ⟨w2.heap.size + 1, 0, none⟩ 1 1 [.int .u8 (xk : Int), .int .i64 xn, .int .u64 (xb : Int), .string xt] rfl rfl (fun j u h => World.news_of_block (heap_alloc2_new w2 _ _) j u h) (by intro u hu; simp at hu; rcases hu with rfl | rfl | rfl | rfl <;> rfl) (by decide) (by unfold maxLen; omega) (by omega) (by simp; omega) _ rfl ?_))
                intro g9 cap9 w9 hown9 hgrow9 hat9 hlt9
                have hge := fun k hk => own_block_ge HOW.out k hk
                have HG9 := hid (Ext.grown (x := W4) (HX2.out.then_alloc _) hgrow9 (fun k hk => by have := hge k hk; have := HST.out; omega))
                have HEB9 := hid (grown_block (Ext.alloc (w2.alloc (Obj.cells #[.int .u8 (xk : Int), .int .i64 xn, .int .u64 (xb : Int), .string xt] 47 (0, 0))) _) hgrow9 hge HEB2.out (by omega))
                have HTB9 := hid (grown_block (Ext.alloc (w2.alloc (Obj.cells #[.int .u8 (xk : Int), .int .i64 xn, .int .u64 (xb : Int), .string xt] 47 (0, 0))) _) hgrow9 hge HTB2.out (by omega))
                have HOW9 := hid (show w9.ownsRow (ST + 2) 47 4 (.slice (some ⟨g9, 0, none⟩) (done.length + 1) cap9) (done ++ [(⟨xk, xn, xb, xt⟩ : VZ)]).length (vcells (done ++ [⟨xk, xn, xb, xt⟩])) by rw [vcells_append, List.length_append]; exact hown9)
                clear hown9 hgrow9 hat9 hlt9 g0 g1 g2 g3 g4 n0 n1 n2 n3 n4 v0 v1 v2 v3
                obtain ⟨⟨g0, g1, g2, g3, g4⟩, ⟨n0, n1, n2, n3, n4⟩, _⟩ := box5 HEB9.out
                go_wp2_with fail
                go_roundw
                case rel => exact ⟨i + 1, (M : Int), done ++ [⟨xk, xn, xb, xt⟩], _, by omega, rfl, by omega, by go_num, hid (by rw [List.length_append, hlen.out]; rfl), hid (by rw [← hk4]; exact HN2.out),
                  hid (by simpa using heap_setCell_same w9 (ST + 1) 4 _ _ _ HEB9.out), hid (ownsRow_setCell_below (a := ⟨ST + 1, 4, none⟩) HOW9.out (Nat.lt_succ_self _) _), hid (Ext.setCell HG9.out (by have := HST.out; show _ ≤ ST + 1; omega) _), hid ((heap_setCell_other w9 ⟨ST + 1, 4, none⟩ ST _ (by show ST ≠ ST + 1; omega)).trans HTB9.out), hid (fun y hy => by
                    rcases List.mem_append.1 hy with hy | hy
                    · exact hin.out y hy
                    · rw [List.mem_singleton.1 hy]; exact hIn)⟩
                case measure => simp only [intOf]; omega
              · have HN2 := hid (hva.out.trans (HBD.out hf))
                have HR4 := hid (show R = failE f by rw [HR3.out, HN2.out, if_pos (show (([] : List VZ), (0 : Int), f).2.2 ≠ 0 from hf)])
                have hfb : (f != 0) = true := bne_iff_ne.2 hf
                obtain ⟨⟨b0, b1, b2, b3, b4⟩, ⟨m0, m1, m2, m3, m4⟩, _⟩ := box5 HB2.out
                clear hf
                go_wp2_with fail
                refine bodyPost_ret (ret_cell_tmp2 rfl _ _ w.heap.size 25 _ (0, 0) _ rfl (set5 HB2.out) Tryz.underlying25 rfl (by kernel_rfl)) rfl ?_
                rw [HR4.out]
                refine ⟨_, rfl, EventV.none_ _, ?_⟩
                repeat (first | (with_reducible exact HXW2.out) | (with_reducible refine Ext.setCell ?_ (by simp) _))
            · have hlt' : ¬ (i : Int) < (F.length : Int) := by omega
              obtain rfl : i = F.length := by omega
              have HVAL := hid (show valsE s F.length q = (done, z, 0) by
                rw [hva.out, Nat.sub_self]
                show joinE done ([], z, 0) = _
                simp [joinE])
              have HR4 := hid (show R = if checkE T (madeE a b c ⟨N, F⟩ done) ≠ 0 then failE (checkE T (madeE a b c ⟨N, F⟩ done)) else (madeE a b c ⟨N, F⟩ done, z, 0) by
                rw [HR3.out, HVAL.out, if_neg (show ¬ ((done, z, (0 : Int)).2.2 ≠ 0) from fun h => h rfl)])
              have HVO := hid (show ValsOk done from fun x hx => by
                obtain ⟨q1, q2, q3, q4, q5⟩ := hin.out x hx
                exact ⟨q1, q2, q3, q4, by omega⟩)
              have HVAT := hid (ValsAt.of_own hown.out)
              have HOWN := hid hown.out
              have HTX := hid (HT.out.ext HXW.out)
              have d0 := hext2.out.cell c0
              have d1 := hext2.out.cell c1
              have d2 := hext2.out.cell c2
              obtain ⟨⟨g0, g1, g2, g3, g4⟩, ⟨n0, n1, n2, n3, n4⟩, glt⟩ := box5 heb.out
              have hsz5 : w.heap.size ≤ wr.heap.size := Below.size HXW.out
              clear c0 c1 c2 c3 hva hown
              by_cases hgood : a ≤ 1099511627776 ∧ b < 16 ∧ c ≤ 1099511627776
              · have hmade : madeE a b c ⟨N, F⟩ done = ⟨(a : Int), (b : Int), (c : Int), N, done⟩ := if_pos hgood
                rw [hmade] at HR4
                obtain ⟨ga, gb, gc⟩ := hgood
                have ga' : (a : Int) ≤ 1099511627776 := by omega
                have gb' : (b : Int) < 16 := by omega
                have gc' : (c : Int) ≤ 1099511627776 := by omega
                have wa := iwrap (a : Int) (by omega) (by omega)
                have wb := iwrap (b : Int) (by omega) (by omega)
                have wc := iwrap (c : Int) (by omega) (by omega)
                clear ga gb gc hmade
                go_wp2_with fail
                go_region
                obtain ⟨w6, hw6⟩ : ∃ w6, w6 = (((wr.setCell ⟨ST + 1, 0, none⟩ (.int .i64 (a : Int))).setCell ⟨ST + 1, 1, none⟩ (.int .i64 (b : Int))).setCell ⟨ST + 1, 2, none⟩ (.int .i64 (c : Int))).drew := ⟨_, rfl⟩
                have HEB6 := hid (show w6.heap[ST + 1]? = some (.cells #[.int .i64 (a : Int), .int .i64 (b : Int), .int .i64 (c : Int), .string N, .slice A8 done.length c8] 25 (0, 0)) by
                  rw [hw6]
                  have h1 := heap_setCell_same wr (ST + 1) 0 _ _ (.int .i64 (a : Int)) heb.out
                  have h2 := heap_setCell_same _ (ST + 1) 1 _ _ (.int .i64 (b : Int)) h1
                  have h3 := heap_setCell_same _ (ST + 1) 2 _ _ (.int .i64 (c : Int)) h2
                  have h4 : (((wr.setCell ⟨ST + 1, 0, none⟩ (.int .i64 (a : Int))).setCell ⟨ST + 1, 1, none⟩ (.int .i64 (b : Int))).setCell ⟨ST + 1, 2, none⟩ (.int .i64 (c : Int))).heap[ST + 1]? = some (.cells #[.int .i64 (a : Int), .int .i64 (b : Int), .int .i64 (c : Int), .string N, .slice A8 done.length c8] 25 (0, 0)) := by simpa using h3
                  exact h4)
                have hneS : w.heap.size ≠ ST + 1 := by omega
                have HB6 := hid (show w6.heap[w.heap.size]? = some (.cells #[.int .i64 0, .int .i64 0, .int .i64 0, .string noText, .slice none 0 0] 25 (0, 0)) by
                  rw [hw6]
                  exact (heap_setCell_other _ ⟨ST + 1, 2, none⟩ w.heap.size _ hneS).trans ((heap_setCell_other _ ⟨ST + 1, 1, none⟩ w.heap.size _ hneS).trans ((heap_setCell_other _ ⟨ST + 1, 0, none⟩ w.heap.size _ hneS).trans HBX.out)))
                have HX6 := hid (show Ext w w6 by
                  rw [hw6]
                  refine Ext.then_drew ?_
                  repeat (first | (with_reducible exact HXW.out) | (with_reducible refine Ext.setCell ?_ (by show w.heap.size ≤ ST + 1; omega) _)))
                have HOW6 := hid (show w6.ownsRow (ST + 2) 47 4 (.slice A8 done.length c8) done.length (vcells done) by
                  rw [hw6]
                  exact World.ownsRow.drew (ownsRow_setCell_below (ownsRow_setCell_below (ownsRow_setCell_below HOWN.out (Nat.lt_succ_self _) _) (Nat.lt_succ_self _) _) (Nat.lt_succ_self _) _))
                rw [← hw6]
                clear hw6 g0 g1 g2 g3 g4 n0 n1 n2 n3 n4 d0 d1 d2
                obtain ⟨⟨g0, g1, g2, g3, g4⟩, _, _⟩ := box5 HEB6.out
                have HVA6 := hid (ValsAt.of_own HOW6.out)
                have kk := rcheck7_any T ⟨(a : Int), (b : Int), (c : Int), N, done⟩ (.slice (some ⟨g, o, none⟩) T.length cT) (.slice A8 done.length c8) w6 (HT.out.ext HX6.out) HVA6.out hok HVO.out
                unfold evv at kk
                generalize checkE T ⟨(a : Int), (b : Int), (c : Int), N, done⟩ = CE at *
                dsimp only at kk
                go_wp2_with fail
                refine kk.mono ?_
                rintro e7 w7 ⟨rfl, hx⟩
                have HEB7 := hid (hx.block HEB6.out)
                have HB7 := hid (hx.block HB6.out)
                have HX7 := hid (HX6.out.trans hx)
                have HOW7 := hid (own_later HOW6.out hx)
                clear hx kk g0 g1 g2 g3 g4
                obtain ⟨⟨g0, g1, g2, g3, g4⟩, _, _⟩ := box5 HEB7.out
                obtain ⟨⟨b0, b1, b2, b3, b4⟩, ⟨m0, m1, m2, m3, m4⟩, _⟩ := box5 HB7.out
                by_cases hce : CE = 0
                · have HR5 := hid (HR4.out.trans (if_neg (fun h => h hce)))
                  subst hce
                  go_wp2_with fail
                  refine bodyPost_ret (ret_cell_tmp2 rfl _ _ w.heap.size 25 _ (0, 0) _ rfl (set5 HB7.out) Tryz.underlying25 rfl (by kernel_rfl)) rfl ?_
                  rw [HR5.out]
                  refine ⟨_, rfl, ⟨_, rfl, ?_⟩, ?_⟩
                  · exact ValsAt.of_own (ownsRow_setCell_below (ownsRow_setCell_below (ownsRow_setCell_below (ownsRow_setCell_below (ownsRow_setCell_below HOW7.out (show w.heap.size < ST + 2 by omega) _) (show w.heap.size < ST + 2 by omega) _) (show w.heap.size < ST + 2 by omega) _) (show w.heap.size < ST + 2 by omega) _) (show w.heap.size < ST + 2 by omega) _)
                  · repeat (first | (with_reducible exact HX7.out) | (with_reducible refine Ext.setCell ?_ (by simp) _))
                · have HR5 := hid (HR4.out.trans (if_pos hce))
                  have hceb : (CE != 0) = true := bne_iff_ne.2 hce
                  clear hce
                  go_wp2_with fail
                  refine bodyPost_ret (ret_cell_tmp2 rfl _ _ w.heap.size 25 _ (0, 0) _ rfl (set5 HB7.out) Tryz.underlying25 rfl (by kernel_rfl)) rfl ?_
                  rw [HR5.out]
                  refine ⟨_, rfl, EventV.none_ _, ?_⟩
                  repeat (first | (with_reducible exact HX7.out) | (with_reducible refine Ext.setCell ?_ (by simp) _))
              · have hmade : madeE a b c ⟨N, F⟩ done = ⟨-1, -1, -1, N, done⟩ := if_neg hgood
                rw [hmade] at HR4
                have hge : ¬ (a : Int) ≤ 1099511627776 ∨ ((a : Int) ≤ 1099511627776 ∧ ¬ (b : Int) < 16) ∨ ((a : Int) ≤ 1099511627776 ∧ (b : Int) < 16 ∧ ¬ (c : Int) ≤ 1099511627776) := by omega
                have HEB6 := heb
                have HB6 := HBX
                have HX6 := HXW
                have HOW6 := HOWN
                rcases hge with h1 | ⟨h1, h2⟩ | ⟨h1, h2, h3⟩
                all_goals
                  clear hgood hmade n0 n1 n2 n3 n4
                  obtain ⟨⟨g0, g1, g2, g3, g4⟩, _, _⟩ := box5 HEB6.out
                  have HVA6 := hid (ValsAt.of_own HOW6.out)
                  have kk := rcheck7_any T ⟨(-1), (-1), (-1), N, done⟩ (.slice (some ⟨g, o, none⟩) T.length cT) (.slice A8 done.length c8) wr (HT.out.ext HX6.out) HVA6.out hok HVO.out
                  unfold evv at kk
                  generalize checkE T ⟨(-1), (-1), (-1), N, done⟩ = CE at *
                  dsimp only at kk
                  go_wp2_with fail
                  refine kk.mono ?_
                  rintro e7 w7 ⟨rfl, hx⟩
                  have HEB7 := hid (hx.block HEB6.out)
                  have HB7 := hid (hx.block HB6.out)
                  have HX7 := hid (HX6.out.trans hx)
                  have HOW7 := hid (own_later HOW6.out hx)
                  clear hx kk g0 g1 g2 g3 g4
                  obtain ⟨⟨g0, g1, g2, g3, g4⟩, _, _⟩ := box5 HEB7.out
                  obtain ⟨⟨b0, b1, b2, b3, b4⟩, ⟨m0, m1, m2, m3, m4⟩, _⟩ := box5 HB7.out
                  by_cases hce : CE = 0
                  · have HR5 := hid (HR4.out.trans (if_neg (fun h => h hce)))
                    subst hce
                    go_wp2_with fail
                    refine bodyPost_ret (ret_cell_tmp2 rfl _ _ w.heap.size 25 _ (0, 0) _ rfl (set5 HB7.out) Tryz.underlying25 rfl (by kernel_rfl)) rfl ?_
                    rw [HR5.out]
                    refine ⟨_, rfl, ⟨_, rfl, ?_⟩, ?_⟩
                    · exact ValsAt.of_own (ownsRow_setCell_below (ownsRow_setCell_below (ownsRow_setCell_below (ownsRow_setCell_below (ownsRow_setCell_below HOW7.out (show w.heap.size < ST + 2 by omega) _) (show w.heap.size < ST + 2 by omega) _) (show w.heap.size < ST + 2 by omega) _) (show w.heap.size < ST + 2 by omega) _) (show w.heap.size < ST + 2 by omega) _)
                    · repeat (first | (with_reducible exact HX7.out) | (with_reducible refine Ext.setCell ?_ (by simp) _))
                  · have HR5 := hid (HR4.out.trans (if_pos hce))
                    have hceb : (CE != 0) = true := bne_iff_ne.2 hce
                    clear hce
                    go_wp2_with fail
                    refine bodyPost_ret (ret_cell_tmp2 rfl _ _ w.heap.size 25 _ (0, 0) _ rfl (set5 HB7.out) Tryz.underlying25 rfl (by kernel_rfl)) rfl ?_
                    rw [HR5.out]
                    refine ⟨_, rfl, EventV.none_ _, ?_⟩
                    repeat (first | (with_reducible exact HX7.out) | (with_reducible refine Ext.setCell ?_ (by simp) _))
end Go.Proofs.YtnldgmpfinlikaaGreat

