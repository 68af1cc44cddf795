/- The landed program's Put of an event, by its contract. Conditions: small types, names of up to 40 bytes, values within their kinds, texts of up to 2^20 bytes. -/
import Derived.Test.YtnldgmpfinlikaaGreatEP3
import Derived.Test.YtnldgmpfinlikaaGreatGER7
import Derived.Test.YtnldgmpfinlikaaGreatGVV7
import Derived.Test.YtnldgmpfinlikaaGreatBase
namespace Go.Proofs.YtnldgmpfinlikaaGreat
open Go Go.RowKit

theorem place_same (name : ByteArray) : ∀ (T : List TZ) (k : Nat), placeE name T < T.length → placeZ name k T = ((k + placeE name T : Nat) : Int)
  | [], _, h => absurd h (Nat.not_lt_zero _)
  | t :: r, k, h => by
    show (if t.n = name then (k : Int) else placeZ name (k + 1) r) = _
    have he : placeE name (t :: r) = if t.n = name then 0 else placeE name r + 1 := rfl
    rw [he] at h ⊢
    by_cases g : t.n = name
    · rw [if_pos g, if_pos g]
      rfl
    · rw [if_neg g] at h ⊢
      rw [if_neg g, place_same name r (k + 1) (Nat.lt_of_succ_lt_succ h)]
      omega
theorem own_bytes2 {w : World} {base : Nat} {e : TypeId} {r : Value} {n : Nat} {l : List UInt8} (h : w.ownsRow base e 1 r n (bvs l)) : ∃ A c, r = .slice A l.length c ∧ l.length ≤ c ∧ Lies w A (bvs l) := by
  have hl : l.length = n := by have := h.1; rwa [bvs_length, Nat.mul_one] at this
  subst hl
  obtain ⟨A, c, rfl, h1, _, h3⟩ := own_shape h
  exact ⟨A, c, rfl, h1, h3⟩

set_option maxRecDepth 100000 in
set_option maxHeartbeats 1000000 in
theorem eput1_any (nm name : ByteArray) (r : Value) (B : Nat) (w : World) (hc : w.cell? ⟨B, 3, none⟩ = some (.string name)) :
    Calls Tryz.prog 27 #[.agg #[.string nm, r], .pointer (some ⟨B, 0, none⟩)] w (Says w (.bool (nm.toList == name.toList))) := by
  have hcB : ∀ o, (w.alloc o).cell? ⟨B, 3, none⟩ = some (.string name) := fun o => (Ext.alloc w o).cell hc
  go_enter Tryz.func27, Tryz.ntmps27
  go_wp2_with fail
  go_ret
  exact ⟨rfl, Ext.alloc _ _⟩

set_option maxRecDepth 100000 in
set_option maxHeartbeats 4000000 in
theorem eindexf_any (L : List TZ) (v : Value) (name : ByteArray) (B : Nat) (w : World) (hv : TypesAt w v L) (hc : w.cell? ⟨B, 3, none⟩ = some (.string name)) :
    Calls Tryz.prog 26 #[v, .func (.func 27) #[] #[.pointer (some ⟨B, 0, none⟩)]] w (Says w (.int .i64 (placeZ name 0 L))) := by
  have HO := hid (show placeZ name 0 L = placeZ name 0 (L.drop 0) from rfl)
  generalize placeZ name 0 L = R at *
  have HV := hid hv
  have HC := hid hc
  obtain ⟨A, c, rfl, q1, q2, _⟩ := hv
  have hml : (L.length : Int) ≤ 9223372036854775807 := by unfold maxLen at q2; omega
  go_enter Tryz.func26, Tryz.ntmps26
  go_wp2_with fail
  go_loopw [8] (fun x wr => ∃ i : Nat, i ≤ L.length ∧ x = .int .i64 (i : Int) ∧ Hid (R = placeZ name i (L.drop i)) ∧ Ext w wr)
    (fun x _ => L.length - (intOf x).toNat)
  case atStart => exact ⟨0, by omega, rfl, hid HO.out, Ext.refl _⟩
  case round =>
    obtain ⟨i, hi, rfl, ho, hext⟩ := hrel
    have HE := hid hext
    clear hext
    by_cases hlt : i < L.length
    · obtain ⟨g, o, c', r, e1, _, _, d0, d1, hfr⟩ := (HV.out.ext HE.out).open_ hlt
      obtain ⟨rfl, rfl⟩ : A = some ⟨g, o, none⟩ ∧ c = c' := by simpa using e1
      have HAT := hid (place_at (name := name) hlt)
      generalize hT : L[i] = T at *
      obtain ⟨N, F⟩ := T
      dsimp only at *
      have kk := eput1_any N name r B wr (HE.out.cell HC.out)
      clear e1 hT hfr
      by_cases he : N = name
      · have HR := hid (ho.out.trans (HAT.out.trans (if_pos he)))
        have hb : (N.toList == name.toList) = true := beq_iff_eq.2 (by rw [he])
        rw [hb] at kk
        clear he
        go_wp2_with (go_at_call 27; refine kk.mono ?_; rintro e2 w2 ⟨rfl, hx⟩)
        go_ret
        exact ⟨by rw [HR.out]; rfl, HE.out.trans hx⟩
      · have HR := hid (ho.out.trans (HAT.out.trans (if_neg he)))
        have hb : (N.toList == name.toList) = false := beq_eq_false_iff_ne.2 (fun e => he ((list_ba N name).1 e))
        rw [hb] at kk
        clear he
        go_wp2_with (go_at_call 27; refine kk.mono ?_; rintro e2 w2 ⟨rfl, hx⟩)
        go_roundw
        case rel => exact ⟨i + 1, by omega, by go_num, HR, HE.out.trans hx⟩
        case measure => simp only [intOf]; omega
    · have hi' : i = L.length := by omega
      subst hi'
      go_wp2_with fail
      go_ret
      exact ⟨by rw [ho.out, List.drop_length]; rfl, HE.out⟩

set_option maxRecDepth 100000 in
set_option maxHeartbeats 4000000 in
theorem eputp_any (T : List TZ) (e : EZ) (tv r : Value) (A : Option Addr) (l : List UInt8) (c : Nat) (w : World) (hT : TypesAt w tv T) (hv : ValsAt w r e.v) (hsm : TypesSmall T) (hn : e.n.size ≤ 40) (hvo : ValsOk e.v) (hl : Lies w A (bvs l)) (hlen : l.length ≤ 1048576) :
    Calls Tryz.prog 10 #[.slice A l.length c, tv, evv e r] w (Told2 w (putE l T e)) := by
  have kc := fun W (h : Ext w W) => echeckp_any T e tv r W (hT.ext h) (hv.ext h) hsm hn hvo
  have kp := fun W (h : Ext w W) B hc => eindexf_any T tv e.n B W (hT.ext h) hc
  have hkn := @event_known T e
  have hpl := place_same e.n T 0
  have ho : putE l T e = if checkE T e = 0 then (l ++ bytesE T e, 0) else ([], checkE T e) := rfl
  have hby : bytesE T e = zb e.m.toNat ++ (zb e.o.toNat ++ (zb e.q.toNat ++ (zb (placeE e.n T) ++ e.v.flatMap bVal))) := rfl
  have hmf : ∀ (fn : Fn) (first cap : Array Value) (w : World), (Instr.makeFunc fn first cap).run Tryz.prog w = .ok (.func fn first cap) w := fun _ _ _ _ => rfl
  generalize putE l T e = R at *
  generalize bytesE T e = BY at *
  generalize checkE T e = CE at *
  generalize placeE e.n T = PL at *
  obtain ⟨em, eo, eq, en, V⟩ := e
  unfold evv at *
  dsimp only at *
  have HV := hid hv
  obtain ⟨A3, c3, rfl, _, q3, _⟩ := hv
  have hml : (V.length : Int) ≤ 9223372036854775807 := by unfold maxLen at q3; omega
  obtain ⟨A2, c2, rfl, _, _, _⟩ := hT
  have HL := hid hl
  have HX := hid (Ext.alloc w (Obj.cells #[.int .i64 em, .int .i64 eo, .int .i64 eq, .string en, .slice A3 V.length c3] 34 (0, 0)))
  have HB := hid (heap_alloc_new w (Obj.cells #[.int .i64 em, .int .i64 eo, .int .i64 eq, .string en, .slice A3 V.length c3] 34 (0, 0)))
  obtain ⟨⟨b0, b1, b2, b3, b4⟩, _, _⟩ := box5 HB.out
  have HO := hid ho
  have HBY := hid hby
  have HKN := hid hkn
  have HPL := hid hpl
  clear ho hby hkn hl hpl
  go_enter Tryz.func10, Tryz.ntmps10
  go_wp2_with fail
  refine (kc _ HX.out).mono ?_
  rintro e1 w1 ⟨rfl, hx⟩
  replace HB := hid (hx.block HB.out)
  replace HX := hid (HX.out.trans hx)
  clear hx kc b0 b1 b2 b3 b4
  obtain ⟨⟨b0, b1, b2, b3, b4⟩, _, _⟩ := box5 HB.out
  by_cases hz : CE = 0
  · have HR := hid (HO.out.trans (if_pos hz))
    obtain ⟨⟨m0, m1⟩, ⟨o0, o1⟩, ⟨r0, r1⟩, hpl, hT12, hV12, hVok⟩ := HKN.out hz
    subst hz
    have hplz := HPL.out hpl
    rw [Nat.zero_add] at hplz
    rw [hplz] at kp
    obtain ⟨mn, rfl⟩ : ∃ n : Nat, em = (n : Int) := ⟨em.toNat, by omega⟩
    obtain ⟨on, rfl⟩ : ∃ n : Nat, eo = (n : Int) := ⟨eo.toNat, by omega⟩
    obtain ⟨qn, rfl⟩ : ∃ n : Nat, eq = (n : Int) := ⟨eq.toNat, by omega⟩
    rw [Int.toNat_natCast, Int.toNat_natCast, Int.toNat_natCast] at HBY
    have hmn : mn ≤ 1099511627776 := by omega
    have hon : on ≤ 16 := by omega
    have hqn : qn ≤ 1099511627776 := by omega
    have u1 := u64_wrap mn (by omega)
    have u2 := u64_wrap on (by omega)
    have u3 := u64_wrap qn (by omega)
    have u4 := u64_wrap PL (by omega)
    have z1 := zb_ten mn (by omega)
    have z2 := zb_ten on (by omega)
    have z3 := zb_ten qn (by omega)
    have z4 := zb_ten PL (by omega)
    have HZ := hid (And.intro z1 (And.intro z2 (And.intro z3 z4)))
    have hu64 : mn ≤ 18446744073709551615 ∧ on ≤ 18446744073709551615 ∧ qn ≤ 18446744073709551615 ∧ PL ≤ 18446744073709551615 := by omega
    have HU := hid hu64
    clear z1 z2 z3 z4 m0 m1 o0 o1 r0 r1 hplz HPL hu64 hmn hon hqn hT12
    have kp := kp w1 HX.out w.heap.size b3
    go_wp2_with fail
    refine kp.mono ?_
    rintro e2 w2 ⟨rfl, hx⟩
    replace HB := hid (hx.block HB.out)
    replace HX := hid (HX.out.trans hx)
    clear hx kp b0 b1 b2 b3 b4
    obtain ⟨⟨b0, b1, b2, b3, b4⟩, _, _⟩ := box5 HB.out
    go_wp2_with fail
    -- BEGIN
    have HN := hid (heap_alloc_new w2 (Obj.cells #[.int .i64 (mn : Int), .int .i64 (on : Int), .int .i64 (qn : Int), .int .i64 (PL : Int)] 3 (0, 0)))
    have HXN := hid (Ext.alloc w2 (Obj.cells #[.int .i64 (mn : Int), .int .i64 (on : Int), .int .i64 (qn : Int), .int .i64 (PL : Int)] 3 (0, 0)))
    obtain ⟨w3, hw3⟩ : ∃ w3, w3 = w2.alloc (Obj.cells #[.int .i64 (mn : Int), .int .i64 (on : Int), .int .i64 (qn : Int), .int .i64 (PL : Int)] 3 (0, 0)) := ⟨_, rfl⟩
    rw [← hw3] at HN HXN ⊢
    clear hw3 b0 b1 b2 b3 b4
    replace HB := hid (HXN.out.block HB.out)
    replace HX := hid (HX.out.trans HXN.out)
    obtain ⟨gn, hgn⟩ : ∃ gn, gn = w2.heap.size := ⟨_, rfl⟩
    rw [← hgn] at HN ⊢
    clear hgn HXN
    obtain ⟨gb, hgb⟩ : ∃ gb, gb = w.heap.size := ⟨_, rfl⟩
    rw [← hgb] at HB ⊢
    have HGB := hid hgb
    clear hgb
    go_loopw [10, 33] (fun x y wr => ∃ (i : Nat) (LL : List UInt8), i ≤ 4 ∧ y = .int .i64 (i : Int) ∧ Hid (LL = ([mn, on, qn, PL].take i).flatMap zb) ∧ Hid (wr.ownsRow w.heap.size 5 1 x LL.length (bvs LL)) ∧ Ext w3 wr)
      (fun _ y _ => 4 - (intOf y).toNat)
    case atStart => exact ⟨0, [], by omega, rfl, hid rfl, hid (World.ownsRow_nil _ _ _ _), Ext.refl _⟩
    case round =>
      obtain ⟨i, LL, hi, rfl, hLL, hown, hext⟩ := hrel
      have HE := hid hext
      have hsz : w.heap.size ≤ wr.heap.size := Nat.le_trans (Below.size HX.out) (Below.size hext)
      obtain ⟨⟨n0, n1, n2, n3⟩, _, _⟩ := box4 (hext.block HN.out)
      clear hext
      obtain ⟨A7, c7, rfl, h7, hl7⟩ := own_bytes2 hown.out
      have hLLl : LL.length ≤ 40 := by
        have h1 := HZ.out
        rw [hLL.out]
        rcases (show i = 0 ∨ i = 1 ∨ i = 2 ∨ i = 3 ∨ i = 4 by omega) with rfl | rfl | rfl | rfl | rfl <;> simp <;> omega
      rcases (show i = 0 ∨ i = 1 ∨ i = 2 ∨ i = 3 ∨ i = 4 by omega) with hi0 | hi0 | hi0 | hi0 | hi0
      · subst hi0
        have kz := put_any A7 LL c7 mn wr hl7 h7 (by omega) HU.out.1
        obtain ⟨L5, hL5⟩ : ∃ L5, L5 = LL ++ zb mn := ⟨_, rfl⟩
        rw [← hL5] at kz
        have HST := hid (show L5 = ([mn, on, qn, PL].take 1).flatMap zb by rw [hL5, hLL.out]; simp)
        clear hL5
        unfold Told1 at kz
        go_wp2_with (go_at_call 28; refine kz.mono ?_; rintro e8 w8 ⟨r8, rfl, hown8, hx⟩)
        go_roundw
        case rel => exact ⟨1, L5, by omega, by go_num, HST, hid (own_from hown8 hsz), HE.out.trans hx⟩
        case measure => simp only [intOf]; omega
      · subst hi0
        have kz := put_any A7 LL c7 on wr hl7 h7 (by omega) HU.out.2.1
        obtain ⟨L5, hL5⟩ : ∃ L5, L5 = LL ++ zb on := ⟨_, rfl⟩
        rw [← hL5] at kz
        have HST := hid (show L5 = ([mn, on, qn, PL].take 2).flatMap zb by rw [hL5, hLL.out]; simp)
        clear hL5
        unfold Told1 at kz
        go_wp2_with (go_at_call 28; refine kz.mono ?_; rintro e8 w8 ⟨r8, rfl, hown8, hx⟩)
        go_roundw
        case rel => exact ⟨2, L5, by omega, by go_num, HST, hid (own_from hown8 hsz), HE.out.trans hx⟩
        case measure => simp only [intOf]; omega
      · subst hi0
        have kz := put_any A7 LL c7 qn wr hl7 h7 (by omega) HU.out.2.2.1
        obtain ⟨L5, hL5⟩ : ∃ L5, L5 = LL ++ zb qn := ⟨_, rfl⟩
        rw [← hL5] at kz
        have HST := hid (show L5 = ([mn, on, qn, PL].take 3).flatMap zb by rw [hL5, hLL.out]; simp)
        clear hL5
        unfold Told1 at kz
        go_wp2_with (go_at_call 28; refine kz.mono ?_; rintro e8 w8 ⟨r8, rfl, hown8, hx⟩)
        go_roundw
        case rel => exact ⟨3, L5, by omega, by go_num, HST, hid (own_from hown8 hsz), HE.out.trans hx⟩
        case measure => simp only [intOf]; omega
      · subst hi0
        have kz := put_any A7 LL c7 PL wr hl7 h7 (by omega) HU.out.2.2.2
        obtain ⟨L5, hL5⟩ : ∃ L5, L5 = LL ++ zb PL := ⟨_, rfl⟩
        rw [← hL5] at kz
        have HST := hid (show L5 = ([mn, on, qn, PL].take 4).flatMap zb by rw [hL5, hLL.out]; simp)
        clear hL5
        unfold Told1 at kz
        go_wp2_with (go_at_call 28; refine kz.mono ?_; rintro e8 w8 ⟨r8, rfl, hown8, hx⟩)
        go_roundw
        case rel => exact ⟨4, L5, by omega, by go_num, HST, hid (own_from hown8 hsz), HE.out.trans hx⟩
        case measure => simp only [intOf]; omega
      · have h4 : (i : Int) = 4 := by omega
        rw [h4]
        have HL4 := hid (show LL = zb mn ++ (zb on ++ (zb qn ++ zb PL)) by rw [hLL.out, hi0]; simp)
        clear h4 hi0
        replace HB := hid (HE.out.block HB.out)
        replace HX := hid (HX.out.trans HE.out)
        clear n0 n1 n2 n3 hLL HN hl7 h7
        generalize hLV : Value.slice A7 LL.length c7 = lv at *
        clear hLV
        obtain ⟨⟨b0, b1, b2, b3, b4⟩, _, _⟩ := box5 HB.out
        generalize wr = wO at *
        go_wp2_with fail
        go_loopw [10, 45] (fun x y wq => ∃ (i : Nat) (LM : List UInt8), i ≤ V.length ∧ y = .int .i64 (i : Int) ∧ Hid (LM = LL ++ (V.take i).flatMap bVal) ∧ Hid (wq.ownsRow w.heap.size 5 1 x LM.length (bvs LM)) ∧ Ext wO wq)
          (fun _ y _ => V.length - (intOf y).toNat)
        case atStart => exact ⟨0, LL, by omega, rfl, hid (by rw [List.take_zero, List.flatMap_nil, List.append_nil]), hid hown.out, Ext.refl _⟩
        case round =>
          obtain ⟨i, LM, hi, rfl, hLM, hown2, hext⟩ := hrel
          have HE2 := hid hext
          have hsz2 : w.heap.size ≤ wr.heap.size := Nat.le_trans hsz (Below.size hext)
          clear hext b0 b1 b2 b3 b4
          have hLMl : LM.length ≤ 1240 := by
            have h1 := bVals_len (V.take i) (fun x hx => hVok x (List.mem_of_mem_take hx))
            rw [List.length_take] at h1
            rw [hLM.out, List.length_append]
            omega
          obtain ⟨A8, c8, rfl, h8, hl8⟩ := own_bytes2 hown2.out
          by_cases hlt : i < V.length
          · obtain ⟨g, o, c', e1, v0, v1, v2, v3⟩ := ((HV.out.ext HX.out).ext HE2.out).open_ hlt
            obtain ⟨rfl, rfl⟩ : A3 = some ⟨g, o, none⟩ ∧ c3 = c' := by simpa using e1
            have HST := hid (show LL ++ (V.take (i + 1)).flatMap bVal = LM ++ bVal V[i] by rw [hLM.out, List.take_succ_eq_append_getElem hlt, List.flatMap_append, List.flatMap_singleton, List.append_assoc])
            have hvk := hVok _ (List.getElem_mem hlt)
            have hvo2 := hvo _ (List.getElem_mem hlt)
            have kv := fun W (h : Ext wr W) => vput_any A8 LM c8 V[i].k V[i].n V[i].b V[i].t W (hl8.ext h) h8 (by omega) hvo2.1 hvo2.2.1 hvo2.2.2.1 hvo2.2.2.2.1 hvo2.2.2.2.2
            rw [show putV LM V[i].k V[i].n V[i].b V[i].t = (LM ++ bVal V[i], 0) from if_pos hvk] at kv
            unfold Told2 vv at kv
            dsimp only at kv
            obtain ⟨L5, hL5⟩ : ∃ L5, L5 = LM ++ bVal V[i] := ⟨_, rfl⟩
            rw [← hL5] at kv HST
            clear hL5 hvk hvo2 hl8
            generalize hT : V[i] = T5 at *
            obtain ⟨xk, xn, xb, xt⟩ := T5
            dsimp only at *
            have HXV := hid (Ext.alloc wr (Obj.cells #[.int .u8 (xk : Int), .int .i64 xn, .int .u64 (xb : Int), .string xt] 44 (0, 0)))
            have HBV := hid (heap_alloc_new wr (Obj.cells #[.int .u8 (xk : Int), .int .i64 xn, .int .u64 (xb : Int), .string xt] 44 (0, 0)))
            obtain ⟨⟨y0, y1, y2, y3⟩, _, _⟩ := box4 HBV.out
            have kv := kv _ HXV.out
            clear e1 hT
            go_wp2_with (go_at_call 29; refine kv.mono ?_; rintro e8 w8 ⟨r8, rfl, hown8, hx⟩)
            go_roundw
            case rel => exact ⟨i + 1, L5, by omega, by go_num, hid HST.out.symm, hid (own_from hown8 (Nat.le_trans hsz2 (Below.size HXV.out))), HE2.out.trans (HXV.out.trans hx)⟩
            case measure => simp only [intOf]; omega
          · have hi' : i = V.length := by omega
            subst hi'
            have HLLB := hid (show LM = BY by
              rw [hLM.out, List.take_length, HL4.out, HBY.out]
              simp only [List.append_assoc])
            have HXC := hid (Ext.alloc wr (Obj.cells #[.slice A l.length c, .slice A8 LM.length c8] 36 (0, 0)))
            have kq := concat_two wr.heap.size A A8 c c8 l LM _ (heap_alloc_new wr (Obj.cells #[.slice A l.length c, .slice A8 LM.length c8] 36 (0, 0))) (((HL.out.ext HX.out).ext HE2.out).ext HXC.out) (hl8.ext HXC.out) (by omega)
            obtain ⟨L9, hL9⟩ : ∃ L9, L9 = l ++ LM := ⟨_, rfl⟩
            rw [← hL9] at kq
            have HL9 := hid (show L9 = l ++ BY by rw [hL9, HLLB.out])
            clear hL9
            unfold Told1 at kq
            go_wp2_with (go_at_call 30; refine kq.mono ?_; rintro e8 w8 ⟨r8, rfl, hown8, hx⟩)
            go_ret2
            rw [HR.out]
            refine ⟨_, rfl, ?_, ((HX.out.trans HE2.out).trans HXC.out).trans hx⟩
            show w8.ownsRow w.heap.size 5 1 _ (l ++ BY).length (bvs (l ++ BY))
            rw [← HL9.out]
            exact own_from hown8 (Nat.le_trans hsz2 (Below.size HXC.out))
    -- END
  · have HR := hid (HO.out.trans (if_neg hz))
    have hq : (CE != 0) = true := bne_iff_ne.2 hz
    clear hz
    go_wp2_with fail
    go_ret2
    rw [HR.out]
    exact ⟨_, rfl, World.ownsRow_nil _ _ _ _, HX.out⟩
end Go.Proofs.YtnldgmpfinlikaaGreat
