/- Several texts in one: ER7, ER8. Conditions: those of each. -/
import Derived.Test.YtnldgmpfinlikaaGreatGER1
import Derived.Test.YtnldgmpfinlikaaGreatGSMem2
import Derived.Test.YtnldgmpfinlikaaGreatGVBackM
import Derived.Test.YtnldgmpfinlikaaGreatGZR1
import Derived.Test.YtnldgmpfinlikaaGreatBase
/- The document's Put of an event, by its contract. Conditions: numbers within their kinds, texts of up to 2^40 bytes. -/
namespace Go.Proofs.YtnldgmpfinlikaaGreat
open Go Go.RowKit

/-- a value's bytes -/
def bVal (x : VZ) : List UInt8 := bytesV x.k x.n x.b x.t
theorem bVals_len : ∀ (V : List VZ), (∀ v ∈ V, checkV v.k v.n v.b v.t = 0) → (V.flatMap bVal).length ≤ 100 * V.length
  | [], _ => Nat.le_refl _
  | v :: V, h => by
    have h1 := bytes_len (h v (List.mem_cons_self ..))
    have h2 := bVals_len V (fun x hx => h x (List.mem_cons_of_mem _ hx))
    rw [List.flatMap_cons, List.length_append, List.length_cons]
    show (bytesV v.k v.n v.b v.t).length + _ ≤ _
    omega
theorem zb_ten (u : Nat) (h : u ≤ 18446744073709551615) : (zb u).length ≤ 10 := by rw [zb_length]; exact zs_ten (by omega)
theorem own_bytes {w : World} {base : Nat} {e : TypeId} {r : Value} {n : Nat} {l : List UInt8} (h : w.ownsRow base e 1 r n (bvs l)) : ∃ A c, r = .slice A l.length c ∧ Lies w A (bvs l) := by
  have hl : l.length = n := by have := h.1; rwa [bvs_length, Nat.mul_one] at this
  subst hl
  obtain ⟨A, c, rfl, _, _, h3⟩ := own_shape h
  exact ⟨A, c, rfl, h3⟩
theorem u64_wrap (n : Nat) (h : n ≤ 18446744073709551615) : IntKind.u64.wrap (n : Int) = (n : Int) := by
  rw [IntKind.wrap_u64]
  omega
/-- what is known of an event that may be -/
theorem event_known {T : List TZ} {e : EZ} (h : checkE T e = 0) : (0 ≤ e.m ∧ e.m ≤ 1099511627776) ∧ (0 ≤ e.o ∧ e.o < 16) ∧ (0 ≤ e.q ∧ e.q ≤ 1099511627776) ∧ placeE e.n T < T.length ∧ T.length ≤ 12 ∧ e.v.length ≤ 12 ∧ ∀ v ∈ e.v, checkV v.k v.n v.b v.t = 0 := by
  obtain ⟨h1, h2, h3, h4⟩ := checkE_ok h
  obtain ⟨h5, h6, _⟩ := find_placeE e.n T h3
  have hs := check_small h1
  unfold boundE at h2
  have hf : e.v.length = (findZ e.n T).1.f.length := by
    unfold fitsZ at h4
    by_cases hl : e.v.length ≠ (findZ e.n T).1.f.length
    · rw [if_pos hl] at h4; cases h4
    · exact Classical.not_not.1 hl
  have hfit : fitZ (findZ e.n T).1.f e.v = 0 := by
    unfold fitsZ at h4
    rwa [if_neg (fun k => k hf)] at h4
  have hmem : (findZ e.n T).1 ∈ T := by
    rw [← h6, List.getD_eq_getElem?_getD, List.getElem?_eq_getElem h5]
    exact List.getElem_mem h5
  refine ⟨by omega, by omega, by omega, h5, hs.1, ?_, fits_may _ _ hf hfit⟩
  have := (hs.2 _ hmem).2.1
  omega

set_option maxRecDepth 100000 in
set_option maxHeartbeats 8000000 in
theorem rput7_any (T : List TZ) (e : EZ) (tv r : Value) (A : Option Addr) (l : List UInt8) (c : Nat) (w : World) (hT : TypesAt w tv T) (hv : ValsAt w r e.v) (hok : TypesOk T) (hvo : ValsOk e.v) (hl : Lies w A (bvs l)) (hlen : l.length ≤ 1048576) :
    Calls Tryz.prog 11 #[.slice A l.length c, tv, evv e r] w (Told2 w (putE l T e)) := by
  have kc := fun W (h : Ext w W) => rcheck7_any T e tv r W (hT.ext h) (hv.ext h) hok hvo
  have kp := fun W (h : Ext w W) => rplace7_any T tv e.n W (hT.ext h)
  have hkn := @event_known T e
  have ho : putE l T e = if checkE T e = 0 then (l ++ bytesE T e, 0) else ([], checkE T e) := rfl
  have hby : bytesE T e = zb e.m.toNat ++ (zb e.o.toNat ++ (zb e.q.toNat ++ (zb (placeE e.n T) ++ e.v.flatMap bVal))) := rfl
  generalize putE l T e = R at *
  generalize bytesE T e = BY at *
  generalize checkE T e = CE at *
  generalize placeE e.n T = PL at *
  obtain ⟨em, eo, eq, en, V⟩ := e
  unfold evv at *
  dsimp only at *
  have HV := hid hv
  obtain ⟨A3, c3, rfl, _, q3, _⟩ := hv
  have hml : (V.length : Int) ≤ 9223372036854775807 := by unfold maxLen at q3; omega
  obtain ⟨A2, c2, rfl, _, _, _⟩ := hT
  have HL := hid hl
  have HX := hid (Ext.alloc w (Obj.cells #[.int .i64 em, .int .i64 eo, .int .i64 eq, .string en, .slice A3 V.length c3] 25 (0, 0)))
  have HB := hid (heap_alloc_new w (Obj.cells #[.int .i64 em, .int .i64 eo, .int .i64 eq, .string en, .slice A3 V.length c3] 25 (0, 0)))
  obtain ⟨⟨b0, b1, b2, b3, b4⟩, _, _⟩ := box5 HB.out
  have HO := hid ho
  have HBY := hid hby
  have HKN := hid hkn
  clear ho hby hkn hl
  go_enter Tryz.func11, Tryz.ntmps11
  go_wp2_with fail
  refine (kc _ HX.out).mono ?_
  rintro e1 w1 ⟨rfl, hx⟩
  replace HB := hid (hx.block HB.out)
  replace HX := hid (HX.out.trans hx)
  clear hx kc b0 b1 b2 b3 b4
  obtain ⟨⟨b0, b1, b2, b3, b4⟩, _, _⟩ := box5 HB.out
  by_cases hz : CE = 0
  · have HR := hid (HO.out.trans (if_pos hz))
    obtain ⟨⟨m0, m1⟩, ⟨o0, o1⟩, ⟨r0, r1⟩, hpl, hT12, hV12, hVok⟩ := HKN.out hz
    subst hz
    obtain ⟨mn, rfl⟩ : ∃ n : Nat, em = (n : Int) := ⟨em.toNat, by omega⟩
    obtain ⟨on, rfl⟩ : ∃ n : Nat, eo = (n : Int) := ⟨eo.toNat, by omega⟩
    obtain ⟨qn, rfl⟩ : ∃ n : Nat, eq = (n : Int) := ⟨eq.toNat, by omega⟩
    rw [Int.toNat_natCast, Int.toNat_natCast, Int.toNat_natCast] at HBY
    rw [if_pos hpl] at kp
    have hmn : mn ≤ 1099511627776 := by omega
    have hon : on ≤ 16 := by omega
    have hqn : qn ≤ 1099511627776 := by omega
    have u1 := u64_wrap mn (by omega)
    have u2 := u64_wrap on (by omega)
    have u3 := u64_wrap qn (by omega)
    have u4 := u64_wrap PL (by omega)
    have z1 := zb_ten mn (by omega)
    have z2 := zb_ten on (by omega)
    have z3 := zb_ten qn (by omega)
    have z4 := zb_ten PL (by omega)
    have HZ := hid (And.intro z1 (And.intro z2 (And.intro z3 z4)))
    have k1 := rput_any A l c mn w1 (HL.out.ext HX.out) (by omega) (by omega)
    clear z1 z2 z3 z4 m0 m1 o0 o1 r0 r1
    go_wp2_with fail
    refine k1.mono ?_
    rintro e2 w2 ⟨v2, rfl, hown2, hx⟩
    obtain ⟨L1, hL1⟩ : ∃ L1, L1 = l ++ zb mn := ⟨_, rfl⟩
    rw [← hL1] at hown2
    have hlen1 : L1.length ≤ 1048586 := by have h1 := HZ.out.1; have h2 := HZ.out.2.1; have h3 := HZ.out.2.2.1; have h4 := HZ.out.2.2.2; rw [hL1, List.length_append]; omega
    have HL1 := hid hL1
    clear hL1
    obtain ⟨A4, c4, rfl, hl4⟩ := own_bytes hown2
    have HLI4 := hid hl4
    replace HB := hid (hx.block HB.out)
    replace HX := hid (HX.out.trans hx)
    clear hx k1 b0 b1 b2 b3 b4 hown2 hl4
    obtain ⟨⟨b0, b1, b2, b3, b4⟩, _, _⟩ := box5 HB.out
    have k2 := rput_any A4 L1 c4 on w2 HLI4.out (by omega) (by omega)
    go_wp2_with fail
    refine k2.mono ?_
    rintro e3 w3 ⟨v3, rfl, hown3, hx⟩
    obtain ⟨L2, hL2⟩ : ∃ L2, L2 = L1 ++ zb on := ⟨_, rfl⟩
    rw [← hL2] at hown3
    have hlen2 : L2.length ≤ 1048596 := by have h1 := HZ.out.1; have h2 := HZ.out.2.1; have h3 := HZ.out.2.2.1; have h4 := HZ.out.2.2.2; rw [hL2, List.length_append]; omega
    have HL2 := hid hL2
    clear hL2
    obtain ⟨A5, c5, rfl, hl5⟩ := own_bytes hown3
    have HLI5 := hid hl5
    replace HB := hid (hx.block HB.out)
    replace HX := hid (HX.out.trans hx)
    clear hx k2 b0 b1 b2 b3 b4 hown3 hl5
    obtain ⟨⟨b0, b1, b2, b3, b4⟩, _, _⟩ := box5 HB.out
    have k3 := rput_any A5 L2 c5 qn w3 HLI5.out (by omega) (by omega)
    go_wp2_with fail
    refine k3.mono ?_
    rintro e4 w4 ⟨v4, rfl, hown4, hx⟩
    obtain ⟨L3, hL3⟩ : ∃ L3, L3 = L2 ++ zb qn := ⟨_, rfl⟩
    rw [← hL3] at hown4
    have hlen3 : L3.length ≤ 1048606 := by have h1 := HZ.out.1; have h2 := HZ.out.2.1; have h3 := HZ.out.2.2.1; have h4 := HZ.out.2.2.2; rw [hL3, List.length_append]; omega
    have HL3 := hid hL3
    clear hL3
    obtain ⟨A6, c6, rfl, hl6⟩ := own_bytes hown4
    have HLI6 := hid hl6
    replace HB := hid (hx.block HB.out)
    replace HX := hid (HX.out.trans hx)
    clear hx k3 b0 b1 b2 b3 b4 hown4 hl6
    obtain ⟨⟨b0, b1, b2, b3, b4⟩, _, _⟩ := box5 HB.out
    have kp := kp w4 HX.out
    go_wp2_with fail
    refine kp.mono ?_
    rintro e5 w5 ⟨rfl, hx⟩
    replace HB := hid (hx.block HB.out)
    replace HX := hid (HX.out.trans hx)
    have HLI7 := hid (HLI6.out.ext hx)
    clear hx kp b0 b1 b2 b3 b4
    have k4 := rput_any A6 L3 c6 PL w5 HLI7.out (by omega) (by omega)
    have hX5 : w.heap.size ≤ w5.heap.size := Below.size HX.out
    go_wp2_with fail
    refine k4.mono ?_
    rintro e6 w6 ⟨v6, rfl, hown6, hx⟩
    obtain ⟨L4, hL4⟩ : ∃ L4, L4 = L3 ++ zb PL := ⟨_, rfl⟩
    rw [← hL4] at hown6
    have hlen4 : L4.length ≤ 1048616 := by have h1 := HZ.out.1; have h2 := HZ.out.2.1; have h3 := HZ.out.2.2.1; have h4 := HZ.out.2.2.2; rw [hL4, List.length_append]; omega
    have HL4 := hid hL4
    clear hL4
    replace HB := hid (hx.block HB.out)
    replace HX := hid (HX.out.trans hx)
    have HOW := hid (own_from hown6 hX5)
    clear hx k4 hown6
    go_wp2_with fail
    go_loopw [0, 9] (fun x y wr => ∃ (i : Nat) (LL : List UInt8), i ≤ V.length ∧ y = .int .i64 (i : Int) ∧ Hid (LL = L4 ++ (V.take i).flatMap bVal) ∧ Hid (wr.ownsRow w.heap.size 5 1 x LL.length (bvs LL)) ∧ Ext w6 wr)
      (fun _ y _ => V.length - (intOf y).toNat)
    case atStart => exact ⟨0, L4, by omega, rfl, hid (by rw [List.take_zero, List.flatMap_nil, List.append_nil]), hid (own_len HOW.out), Ext.refl _⟩
    case round =>
      obtain ⟨i, LL, hi, rfl, hLL, hown, hext⟩ := hrel
      have HE := hid hext
      have HBr := hid (hext.block HB.out)
      have hsz : w.heap.size ≤ wr.heap.size := Nat.le_trans (Below.size HX.out) (Below.size hext)
      clear hext
      obtain ⟨⟨b0, b1, b2, b3, b4⟩, _, _⟩ := box5 HBr.out
      by_cases hlt : i < V.length
      · obtain ⟨g, o, c', e1, v0, v1, v2, v3⟩ := ((HV.out.ext HX.out).ext HE.out).open_ hlt
        obtain ⟨rfl, rfl⟩ : A3 = some ⟨g, o, none⟩ ∧ c3 = c' := by simpa using e1
        have hLLl : LL.length ≤ 1049816 := by
          have h1 := bVals_len (V.take i) (fun x hx => hVok x (List.mem_of_mem_take hx))
          rw [List.length_take] at h1
          rw [hLL.out, List.length_append]
          omega
        have HST := hid (show L4 ++ (V.take (i + 1)).flatMap bVal = LL ++ bVal V[i] by rw [hLL.out, List.take_succ_eq_append_getElem hlt, List.flatMap_append, List.flatMap_singleton, List.append_assoc])
        have hvk := hVok _ (List.getElem_mem hlt)
        have hvo2 := hvo _ (List.getElem_mem hlt)
        obtain ⟨A7, c7, rfl, hl7⟩ := own_bytes hown.out
        have kv := rputv_any A7 LL c7 V[i].k V[i].n V[i].b V[i].t wr hl7 (by omega) hvo2.2.1 hvo2.2.2.1 hvo2.2.2.2.1
        rw [show putV LL V[i].k V[i].n V[i].b V[i].t = (LL ++ bVal V[i], 0) from if_pos hvk] at kv
        unfold Told2 vv at kv
        dsimp only at kv
        obtain ⟨L5, hL5⟩ : ∃ L5, L5 = LL ++ bVal V[i] := ⟨_, rfl⟩
        rw [← hL5] at kv HST
        have HL5 := hid hL5
        clear hL5 hvk hvo2 hl7
        generalize hT : V[i] = T5 at *
        obtain ⟨xk, xn, xb, xt⟩ := T5
        dsimp only at *
        clear e1 hT
        go_wp2_with (go_at_call 33; refine kv.mono ?_; rintro e8 w8 ⟨r8, rfl, hown8, hx⟩)
        go_roundw
        case rel => exact ⟨i + 1, L5, by omega, by go_num, hid HST.out.symm, hid (own_from hown8 hsz), HE.out.trans hx⟩
        case measure => simp only [intOf]; omega
      · have hi' : i = V.length := by omega
        subst hi'
        have HLLB := hid (show LL = l ++ BY by
          rw [hLL.out, List.take_length, HL4.out, HL3.out, HL2.out, HL1.out, HBY.out]
          simp only [List.append_assoc])
        go_wp2_with fail
        go_ret2
        rw [HR.out]
        refine ⟨_, rfl, ?_, HX.out.trans HE.out⟩
        show wr.ownsRow w.heap.size 5 1 _ (l ++ BY).length (bvs (l ++ BY))
        rw [← HLLB.out]
        exact hown.out
  · have HR := hid (HO.out.trans (if_neg hz))
    have hq : (CE != 0) = true := bne_iff_ne.2 hz
    clear hz
    go_wp2_with fail
    go_ret2
    rw [HR.out]
    exact ⟨_, rfl, World.ownsRow_nil _ _ _ _, HX.out⟩
end Go.Proofs.YtnldgmpfinlikaaGreat

/- The document's Take of an event, by its contract. Conditions: numbers within their kinds, texts of up to 2^20 bytes. -/
namespace Go.Proofs.YtnldgmpfinlikaaGreat
open Go Go.RowKit

/-- an event is told, a place, an error -/
def SaysE (w : World) (t : EZ × Int × Int) (e : Ending) (w' : World) : Prop := ∃ v, e = .returned (.tuple #[v, .int .i64 t.2.1, .int .i64 t.2.2]) ∧ EventV w' v t.1 ∧ Ext w w'
/-- what was read ahead of the rest -/
def joinE {α : Type} (done : List α) (x : List α × Int × Int) : List α × Int × Int := if x.2.2 = 0 then (done ++ x.1, x.2.1, 0) else ([], 0, x.2.2)
theorem numsE_step (s : ByteArray) (k : Nat) (p : Int) : numsE s (k + 1) p = if (takeZ s p).2.2 ≠ 0 then ([], 0, (takeZ s p).2.2)
    else if (numsE s k (takeZ s p).2.1).2.2 ≠ 0 then ([], 0, (numsE s k (takeZ s p).2.1).2.2)
    else ((takeZ s p).1 :: (numsE s k (takeZ s p).2.1).1, (numsE s k (takeZ s p).2.1).2.1, 0) := rfl
theorem valsE_step (s : ByteArray) (k : Nat) (p : Int) : valsE s (k + 1) p = if (takeV s p).2.2 ≠ 0 then ([], 0, (takeV s p).2.2)
    else if (valsE s k (takeV s p).2.1).2.2 ≠ 0 then ([], 0, (valsE s k (takeV s p).2.1).2.2)
    else ((takeV s p).1 :: (valsE s k (takeV s p).2.1).1, (valsE s k (takeV s p).2.1).2.1, 0) := rfl
theorem joinE_nil {α : Type} {x : List α × Int × Int} (h : x.2.2 ≠ 0 → x = ([], 0, x.2.2)) : joinE [] x = x := by
  unfold joinE
  obtain ⟨a, b, c⟩ := x
  by_cases hc : c = 0
  · subst hc; rfl
  · rw [if_neg hc]
    exact (h hc).symm
theorem numsE_bad (s : ByteArray) : ∀ (k : Nat) (p : Int), (numsE s k p).2.2 ≠ 0 → numsE s k p = ([], 0, (numsE s k p).2.2)
  | 0, _, h => absurd rfl h
  | k + 1, p, h => by
    rw [numsE_step] at h ⊢
    by_cases h1 : (takeZ s p).2.2 ≠ 0
    · rw [if_pos h1]
    · rw [if_neg h1] at h ⊢
      by_cases h2 : (numsE s k (takeZ s p).2.1).2.2 ≠ 0
      · rw [if_pos h2]
      · rw [if_neg h2] at h
        exact absurd rfl h
theorem valsE_bad (s : ByteArray) : ∀ (k : Nat) (p : Int), (valsE s k p).2.2 ≠ 0 → valsE s k p = ([], 0, (valsE s k p).2.2)
  | 0, _, h => absurd rfl h
  | k + 1, p, h => by
    rw [valsE_step] at h ⊢
    by_cases h1 : (takeV s p).2.2 ≠ 0
    · rw [if_pos h1]
    · rw [if_neg h1] at h ⊢
      by_cases h2 : (valsE s k (takeV s p).2.1).2.2 ≠ 0
      · rw [if_pos h2]
      · rw [if_neg h2] at h
        exact absurd rfl h
theorem joinN_step {s : ByteArray} {k : Nat} {p : Int} {done : List Nat} (h : (takeZ s p).2.2 = 0) : joinE done (numsE s (k + 1) p) = joinE (done ++ [(takeZ s p).1]) (numsE s k (takeZ s p).2.1) := by
  rw [numsE_step, if_neg (fun g => g h)]
  generalize numsE s k (takeZ s p).2.1 = x
  obtain ⟨a, b, c⟩ := x
  by_cases hc : c = 0
  · subst hc
    simp [joinE]
  · simp [joinE, hc]
theorem joinN_bad {s : ByteArray} {k : Nat} {p : Int} {done : List Nat} (h : (takeZ s p).2.2 ≠ 0) : joinE done (numsE s (k + 1) p) = ([], 0, (takeZ s p).2.2) := by
  rw [numsE_step, if_pos h]
  exact if_neg h
theorem joinV_step {s : ByteArray} {k : Nat} {p : Int} {done : List VZ} (h : (takeV s p).2.2 = 0) : joinE done (valsE s (k + 1) p) = joinE (done ++ [(takeV s p).1]) (valsE s k (takeV s p).2.1) := by
  rw [valsE_step, if_neg (fun g => g h)]
  generalize valsE s k (takeV s p).2.1 = x
  obtain ⟨a, b, c⟩ := x
  by_cases hc : c = 0
  · subst hc
    simp [joinE]
  · simp [joinE, hc]
theorem joinV_bad {s : ByteArray} {k : Nat} {p : Int} {done : List VZ} (h : (takeV s p).2.2 ≠ 0) : joinE done (valsE s (k + 1) p) = ([], 0, (takeV s p).2.2) := by
  rw [valsE_step, if_pos h]
  exact if_neg h
theorem set5 {x : World} {g : Nat} {u0 u1 u2 u3 u4 a b c d e : Value} {t : TypeId} (h : x.heap[g]? = some (.cells #[u0, u1, u2, u3, u4] t (0, 0))) :
    (((((x.setCell ⟨g, 0, none⟩ a).setCell ⟨g, 1, none⟩ b).setCell ⟨g, 2, none⟩ c).setCell ⟨g, 3, none⟩ d).setCell ⟨g, 4, none⟩ e).heap[g]? = some (.cells #[a, b, c, d, e] t (0, 0)) := by
  have h1 := heap_setCell_same x g 0 _ t a h
  have h2 := heap_setCell_same _ g 1 _ t b h1
  have h3 := heap_setCell_same _ g 2 _ t c h2
  have h4 := heap_setCell_same _ g 3 _ t d h3
  have h5 := heap_setCell_same _ g 4 _ t e h4
  simpa using h5
theorem EventV.none_ (w : World) : EventV w (.agg #[.int .i64 0, .int .i64 0, .int .i64 0, .string noText, .slice none 0 0]) EZ.none :=
  ⟨.slice none 0 0, rfl, ⟨none, 0, rfl, Nat.le_refl _, by unfold maxLen; omega, fun _ h => absurd h (Nat.not_lt_zero _)⟩⟩

end Go.Proofs.YtnldgmpfinlikaaGreat

