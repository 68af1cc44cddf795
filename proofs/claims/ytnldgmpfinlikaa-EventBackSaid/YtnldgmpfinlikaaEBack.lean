/- telltalelaw07.EventBack answers true. Conditions: none. (Written by tools/mkeback.py.) -/
import Derived.Test.YtnldgmpfinlikaaELaw1
import Derived.Test.YtnldgmpfinlikaaGVSmall
import Derived.Test.YtnldgmpfinlikaaEP6
import Derived.Test.YtnldgmpfinlikaaGEP5
import Derived.Test.YtnldgmpfinlikaaEP8
import Derived.Test.YtnldgmpfinlikaaEP11
import Derived.Test.YtnldgmpfinlikaaEAwk
import Derived.Test.YtnldgmpfinlikaaGSLaw1
import Derived.Test.YtnldgmpfinlikaaGVBackM
import Derived.Deep.RegionLaw
import Derived.Deep.CutRange
namespace Go.Proofs.Ytnldgmpfinlikaa
open Go Go.RowKit

theorem same_self (a : EZ) : sameEv a a = true := (sameEv_iff a a).2 rfl
/-- an event of the program's own making -/
def OwnAt (w : World) (v : Value) (a : EZ) : Prop := ∃ u, v = evv a u ∧ ValsAt w u a.v
theorem OwnAt.ext {w w' : World} {v : Value} {a : EZ} (h : OwnAt w v a) (e : Ext w w') : OwnAt w' v a := by
  obtain ⟨u, h1, h2⟩ := h
  exact ⟨u, h1, h2.ext e⟩
theorem box10 {w : World} {g : Nat} {a b c d e a2 b2 c2 d2 e2 : Value} {t : TypeId} (h : w.heap[g]? = some (.cells #[a, b, c, d, e, a2, b2, c2, d2, e2] t (0, 0))) :
    w.cell? ⟨g, 0, none⟩ = some a ∧ w.cell? ⟨g, 1, none⟩ = some b ∧ w.cell? ⟨g, 2, none⟩ = some c ∧ w.cell? ⟨g, 3, none⟩ = some d ∧ w.cell? ⟨g, 4, none⟩ = some e ∧
    w.cell? ⟨g, 5, none⟩ = some a2 ∧ w.cell? ⟨g, 6, none⟩ = some b2 ∧ w.cell? ⟨g, 7, none⟩ = some c2 ∧ w.cell? ⟨g, 8, none⟩ = some d2 ∧ w.cell? ⟨g, 9, none⟩ = some e2 :=
  ⟨cell_of_row _ _ 0 _ _ _ h, cell_of_row _ _ 1 _ _ _ h, cell_of_row _ _ 2 _ _ _ h, cell_of_row _ _ 3 _ _ _ h, cell_of_row _ _ 4 _ _ _ h, cell_of_row _ _ 5 _ _ _ h, cell_of_row _ _ 6 _ _ _ h, cell_of_row _ _ 7 _ _ _ h, cell_of_row _ _ 8 _ _ _ h, cell_of_row _ _ 9 _ _ _ h⟩
theorem eb_two {w : World} {g : Nat} {a b : EZ} {r q : Value} {t : TypeId} (h : w.heap[g]? = some (.cells #[.int .i64 a.m, .int .i64 a.o, .int .i64 a.q, .string a.n, r, .int .i64 b.m, .int .i64 b.o, .int .i64 b.q, .string b.n, q] t (0, 0))) (ha : ValsAt w r a.v) (hb : ValsAt w q b.v) : EventsAt w (.slice (some ⟨g, 0, none⟩) 2 2) [a, b] := by
  refine ⟨[r, q], _, 2, rfl, Nat.le_refl _, by unfold maxLen; omega, ⟨rfl, fun i h1 h2 => ?_⟩, fun i h1 h2 => ?_⟩
  · match i, h1 with
    | 0, _ => exact ha
    | 1, _ => exact hb
  · match i, h1 with
    | 0, _ => exact ⟨g, 0, rfl, cell_of_row _ _ 0 _ _ _ h, cell_of_row _ _ 1 _ _ _ h, cell_of_row _ _ 2 _ _ _ h, cell_of_row _ _ 3 _ _ _ h, cell_of_row _ _ 4 _ _ _ h⟩
    | 1, _ => exact ⟨g, 0, rfl, cell_of_row _ _ 5 _ _ _ h, cell_of_row _ _ 6 _ _ _ h, cell_of_row _ _ 7 _ _ _ h, cell_of_row _ _ 8 _ _ _ h, cell_of_row _ _ 9 _ _ _ h⟩
theorem eb_name {T : List TZ} {e : EZ} (h : checkE T e = 0) (hsm : TypesSmall T) : e.n.size ≤ 40 := by
  obtain ⟨_, _, h3, _⟩ := checkE_ok h
  obtain ⟨h5, h6, h7⟩ := find_placeE e.n T h3
  have hmem : (findZ e.n T).1 ∈ T := by
    rw [← h6, List.getD_eq_getElem?_getD, List.getElem?_eq_getElem h5]
    exact List.getElem_mem h5
  rw [← h7]
  exact (hsm.2 _ hmem).1
theorem eb_len {T : List TZ} {e : EZ} (h : checkE T e = 0) : (bytesE T e).length ≤ 1240 := by
  obtain ⟨⟨m0, m1⟩, ⟨o0, o1⟩, ⟨r0, r1⟩, hpl, hT12, hV12, hVok⟩ := event_known h
  have z1 := zb_ten e.m.toNat (by omega)
  have z2 := zb_ten e.o.toNat (by omega)
  have z3 := zb_ten e.q.toNat (by omega)
  have z4 := zb_ten (placeE e.n T) (by omega)
  have z5 := bVals_len e.v hVok
  have hb : bytesE T e = zb e.m.toNat ++ (zb e.o.toNat ++ (zb e.q.toNat ++ (zb (placeE e.n T) ++ e.v.flatMap bVal))) := rfl
  rw [hb]
  simp only [List.length_append]
  omega
/-- an event's bytes, or the error -/
theorem eb_put {T : List TZ} {a : EZ} {tv u : Value} {W : World} (hT : TypesAt W tv T) (hv : ValsAt W u a.v) (hsm : TypesSmall T) (hn : a.n.size ≤ 40) (hvo : ValsOk a.v) :
    Calls Try.prog 22 #[.slice none 0 0, tv, evv a u] W (fun e w' => ∃ r, e = .returned (.tuple #[r, .int .i64 (checkE T a)]) ∧ Bytes w' r (if checkE T a = 0 then bytesE T a else []) ∧ Ext W w') := by
  have k := eputp_any T a tv u none [] 0 W hT hv hsm hn hvo (Lies.nil _ _) (by decide)
  refine k.mono ?_
  rintro e w' ⟨r, rfl, hown, hx⟩
  have hb := Bytes.of_own hown
  unfold putE at hb ⊢
  by_cases hc : checkE T a = 0
  · rw [if_pos hc] at hb ⊢
    rw [if_pos hc]
    exact ⟨r, by rw [hc], by simpa using hb, hx⟩
  · rw [if_neg hc] at hb ⊢
    rw [if_neg hc]
    exact ⟨r, rfl, hb, hx⟩

/-- what the slots of the region hold -/
def ebk7G (s : ByteArray) (M gx : Nat) (tv7 r11 rx : Value) (x : EZ) (Tk : List UInt8) : Nat → Value → World → Prop
  | 0, v, _ => v = .int .i64 0
  | 1, v, _ => v = .bool false
  | 2, v, _ => v = .bool false
  | 3, v, _ => v = .int .i64 (M : Int)
  | 4, v, _ => v = .bool false
  | 5, v, _ => v = .bool false
  | 6, v, _ => v = .bool false
  | 7, v, _ => v = .int .i64 (M : Int)
  | 8, v, _ => v = .string s
  | 9, v, _ => v = .int .i64 (s.size : Int)
  | 10, v, _ => v = .bool false
  | 11, v, _ => v = .bool false
  | 12, v, _ => v = .bool false
  | 13, v, _ => v = r11
  | 14, v, _ => v = .string ⟨(Tk).toArray⟩
  | 15, v, _ => v = .string s
  | 16, v, _ => v = .int .i64 (M : Int)
  | 17, v, _ => v = .string (s.extract 0 M)
  | 18, v, _ => v = .bool false
  | 19, v, _ => v = .bool false
  | 20, v, _ => v = .bool false
  | 21, v, _ => v = tv7
  | 22, v, _ => v = evv x rx
  | 23, v, _ => v = .int .i64 0
  | 24, v, _ => v = .bool false
  | 25, v, _ => v = .bool false
  | _, _, _ => True
theorem ebk7G_st (s : ByteArray) (M gx : Nat) (tv7 r11 rx : Value) (x : EZ) (Tk : List UInt8) : ∀ i9 z9 x9 y9, ebk7G s M gx tv7 r11 rx x Tk i9 z9 x9 → Ext x9 y9 → ebk7G s M gx tv7 r11 rx x Tk i9 z9 y9 := by
  intro i9 z9 x9 y9 h e
  unfold ebk7G at *
  split at h <;> first | exact h | trivial

/-- what the slots of the region hold -/
def ebk14G (gy gl : Nat) (a b : EZ) (r q uy : Value) (A13 A15 : Option Addr) (c13 c15 : Nat) (Pa Pb : List UInt8) (Z : Bool) : Nat → Value → World → Prop
  | 0, v, _ => v = .int .i64 0
  | 1, v, _ => v = .bool true
  | 2, v, _ => v = .bool true
  | 3, v, _ => v = evv a uy
  | 4, v, _ => v = .pointer (some ⟨gl, 0, none⟩)
  | 5, v, _ => v = evv a r
  | 6, v, w => OwnAt w v a
  | 7, v, _ => v = .bool true
  | 8, v, _ => v = .bool true
  | 9, v, _ => v = .bool true
  | 10, v, _ => v = .int .i64 (Pa.length : Int)
  | 11, v, _ => v = .slice A13 Pa.length c13
  | 12, v, _ => v = .int .i64 (Pa.length : Int)
  | 13, v, _ => v = .bool true
  | 14, v, _ => v = .bool true
  | 15, v, _ => v = .bool true
  | 16, v, _ => v = .slice A13 Pa.length c13
  | 17, v, _ => v = .string ⟨(Pa).toArray⟩
  | 18, v, _ => v = .slice A15 Pb.length c15
  | 19, v, _ => v = .string ⟨(Pb).toArray⟩
  | 20, v, _ => v = .bool Z
  | 21, v, _ => v = .pointer (some ⟨gl, 0, none⟩)
  | 22, v, _ => v = evv a r
  | 23, v, w => OwnAt w v a
  | 24, v, _ => v = .pointer (some ⟨gl, 5, none⟩)
  | 25, v, _ => v = evv b q
  | 26, v, w => OwnAt w v b
  | 27, v, _ => v = .bool Z
  | 28, v, _ => v = .bool true
  | 29, v, _ => v = .bool true
  | 30, v, _ => v = .bool true
  | 31, v, _ => v = .bool true
  | 32, v, _ => v = .bool true
  | 33, v, _ => v = .bool true
  | _, _, _ => True
theorem ebk14G_st (gy gl : Nat) (a b : EZ) (r q uy : Value) (A13 A15 : Option Addr) (c13 c15 : Nat) (Pa Pb : List UInt8) (Z : Bool) : ∀ i9 z9 x9 y9, ebk14G gy gl a b r q uy A13 A15 c13 c15 Pa Pb Z i9 z9 x9 → Ext x9 y9 → ebk14G gy gl a b r q uy A13 A15 c13 c15 Pa Pb Z i9 z9 y9 := by
  intro i9 z9 x9 y9 h e
  unfold ebk14G at *
  split at h <;> first | exact h | trivial | exact OwnAt.ext h e | exact fun h9 => OwnAt.ext (h h9) e

set_option maxRecDepth 100000 in
set_option maxHeartbeats 16000000 in
theorem eback7_any (T : List TZ) (a b : EZ) (s : ByteArray) (tv r q : Value) (w : World) (hT : TypesAt w tv T) (hok : TypesOk T) (ha : ValsAt w r a.v) (hb : ValsAt w q b.v) (hoa : EventOk a) (hob : EventOk b) (hs : s.size ≤ 9223372036854775807) :
    Calls Try.prog 4 #[tv, .agg #[.int .i64 a.m, .int .i64 a.o, .int .i64 a.q, .string a.n, r, .int .i64 b.m, .int .i64 b.o, .int .i64 b.q, .string b.n, q], .string s] w (Says w (.bool true)) := by
  have HT := hid hT
  have HVA := hid ha
  have HVB := hid hb
  have kov := fun W (h : Ext w W) => over_any T tv W (hT.ext h)
  have koe := fun W v (h : EventsAt W v [a, b]) => eover_any [a, b] v 2 W h (fun x hx => by
    rcases List.mem_cons.1 hx with rfl | hx
    · exact hoa
    · rw [List.mem_singleton.1 hx]; exact hob) (by omega)
  have hin := @in_small T
  have hine := @evts_in [a, b] 2
  have hov : overZ T = if typesIn T then 0 else 1 := rfl
  have hoe : overE [a, b] 2 = if evtsIn [a, b] 2 then 0 else 1 := rfl
  have HB0 := hid (heap_alloc_new w (Obj.cells #[.int .i64 a.m, .int .i64 a.o, .int .i64 a.q, .string a.n, r, .int .i64 b.m, .int .i64 b.o, .int .i64 b.q, .string b.n, q] 46 (0, 0)))
  have HX0 := hid (Ext.alloc w (Obj.cells #[.int .i64 a.m, .int .i64 a.o, .int .i64 a.q, .string a.n, r, .int .i64 b.m, .int .i64 b.o, .int .i64 b.q, .string b.n, q] 46 (0, 0)))
  clear hT ha hb
  generalize typesIn T = IN at *
  generalize overZ T = OV at *
  generalize evtsIn [a, b] 2 = IE at *
  generalize overE [a, b] 2 = OE at *
  cases IN
  · subst hov
    go_enter Try.func4, Try.ntmps4
    go_wp2_with fail
    refine (kov _ HX0.out).mono ?_
    rintro e9 w1 ⟨rfl, hx⟩
    have HX := hid (HX0.out.trans hx)
    clear hx
    go_wp2_with fail
    refine (eawake_any _).mono ?_
    rintro e9 w9 ⟨rfl, hx2⟩
    go_wp2_with fail
    go_ret
    exact ⟨rfl, HX.out.trans hx2⟩
  subst hov
  have HSM := hin rfl hok
  cases IE
  · subst hoe
    go_enter Try.func4, Try.ntmps4
    go_wp2_with fail
    refine (kov _ HX0.out).mono ?_
    rintro e9 w1 ⟨rfl, hx⟩
    have HX := hid (HX0.out.trans hx)
    have HBL := hid (hx.block HB0.out)
    clear hx
    go_wp2_with fail
    refine (koe _ _ (eb_two HBL.out (HVA.out.ext HX.out) (HVB.out.ext HX.out))).mono ?_
    rintro e9 w2 ⟨rfl, hx⟩
    replace HX := hid (HX.out.trans hx)
    clear hx
    go_wp2_with fail
    refine (eawake_any _).mono ?_
    rintro e9 w9 ⟨rfl, hx2⟩
    go_wp2_with fail
    go_ret
    exact ⟨rfl, HX.out.trans hx2⟩
  subst hoe
  obtain ⟨_, hse⟩ := hine rfl
  have hna : a.n.size ≤ 40 := (hse a (by simp)).1
  have hnb : b.n.size ≤ 40 := (hse b (by simp)).1
  have hla : a.v.length ≤ 12 := (hse a (by simp)).2.1
  have hlb : b.v.length ≤ 12 := (hse b (by simp)).2.1
  clear hse hine hin
  by_cases h100 : 100 < s.size
  · have h100' : 100 < (s.size : Int) := by omega
    go_enter Try.func4, Try.ntmps4
    go_wp2_with fail
    refine (kov _ HX0.out).mono ?_
    rintro e9 w1 ⟨rfl, hx⟩
    have HX := hid (HX0.out.trans hx)
    have HBL := hid (hx.block HB0.out)
    clear hx
    go_wp2_with fail
    refine (koe _ _ (eb_two HBL.out (HVA.out.ext HX.out) (HVB.out.ext HX.out))).mono ?_
    rintro e9 w2 ⟨rfl, hx⟩
    replace HX := hid (HX.out.trans hx)
    clear hx
    go_wp2_with fail
    refine (eawake_any _).mono ?_
    rintro e9 w9 ⟨rfl, hx2⟩
    go_wp2_with fail
    go_ret
    exact ⟨rfl, HX.out.trans hx2⟩
  have h100' : ¬ 100 < (s.size : Int) := by omega
  replace h100 : s.size ≤ 100 := by omega
  have HOA := hid hoa.2.2.2.2
  have HOB := hid hob.2.2.2.2
  go_enter Try.func4, Try.ntmps4
  go_wp2_with fail
  refine (kov _ HX0.out).mono ?_
  rintro e9 w1 ⟨rfl, hx⟩
  have HX := hid (HX0.out.trans hx)
  have HBL := hid (hx.block HB0.out)
  clear hx
  go_wp2_with fail
  refine (koe _ _ (eb_two HBL.out (HVA.out.ext HX.out) (HVB.out.ext HX.out))).mono ?_
  rintro e9 w2 ⟨rfl, hx⟩
  replace HX := hid (HX.out.trans hx)
  replace HBL := hid (hx.block HBL.out)
  obtain ⟨gl, hgl⟩ : ∃ g, g = w.heap.size := ⟨_, rfl⟩
  rw [← hgl] at HBL ⊢
  clear hx hgl HB0 HX0 kov koe hoa hob hs
  go_wp2_with fail
  refine (own6_any T tv _ (HT.out.ext HX.out) HSM).mono ?_
  rintro e9 w3 ⟨tv7, rfl, hu, hx⟩
  have HTU := hid hu
  replace HX := hid (HX.out.trans hx)
  replace HBL := hid (hx.block HBL.out)
  obtain ⟨A7, c7, rfl, _, _, _⟩ := hu
  clear hx
  have kt := etakep_any T _ s 0 w3 HTU.out HSM (by omega)
  have heb := event_bytes T s
  generalize takeEv T s 0 = R at *
  obtain ⟨x, N, E⟩ := R
  unfold SaysE at kt
  dsimp only at kt
  go_wp2_with fail
  refine kt.mono ?_
  rintro e9 w4 ⟨vx, rfl, ⟨rx, rfl, hvx⟩, hx⟩
  obtain ⟨A8, c8, hrx, _, _, _⟩ := id hvx
  have hxa := Ext.alloc w4 (Obj.cells #[.int .i64 x.m, .int .i64 x.o, .int .i64 x.q, .string x.n, rx] 37 (0, 0))
  have HBX := hid (heap_alloc_new w4 (Obj.cells #[.int .i64 x.m, .int .i64 x.o, .int .i64 x.q, .string x.n, rx] 37 (0, 0)))
  have HVX := hid (hvx.ext hxa)
  replace HX := hid ((HX.out.trans hx).trans hxa)
  replace HBL := hid (hxa.block (hx.block HBL.out))
  replace HTU := hid ((HTU.out.ext hx).ext hxa)
  subst hrx
  go_upto_if 44 with fail
  obtain ⟨gx, hgx⟩ : ∃ g, g = w4.heap.size := ⟨_, rfl⟩
  rw [← hgx] at HBX ⊢
  obtain ⟨w5, hw5⟩ : ∃ w5, w5 = w4.alloc (Obj.cells #[.int .i64 x.m, .int .i64 x.o, .int .i64 x.q, .string x.n, .slice A8 x.v.length c8] 37 (0, 0)) := ⟨_, rfl⟩
  rw [← hw5] at HBX HVX HX HBL HTU ⊢
  have HEB := hid heb
  clear hx hxa hvx hgx hw5 kt heb
  go_cut [11, 12] from 45 to 76 (fun _ _ wx => Ext w5 wx)
  case first =>
    by_cases hE : E = 0
    · subst hE
      obtain ⟨M, hNM, hM, hcx, hbx, hIn⟩ := HEB.out x N rfl
      subst hNM
      have hnx := eb_name hcx HSM
      have hvx : ValsOk x.v := fun y hy => by
        obtain ⟨q1, q2, q3, q4, q5⟩ := hIn y hy
        exact ⟨q1, q2, q3, q4, by omega⟩
      have kp := eb_put (a := x) HTU.out HVX.out HSM hnx hvx
      rw [hcx, if_pos rfl, hbx] at kp
      have hTk : (⟨(s.data.toList.take M).toArray⟩ : ByteArray) = s.extract 0 M := by
        refine ba_eq ?_
        rw [ByteArray.data_extract, Array.toList_extract, List.extract_eq_take_drop, List.drop_zero, Nat.sub_zero]
      obtain ⟨Tk, hTke⟩ : ∃ Tk, Tk = s.data.toList.take M := ⟨_, rfl⟩
      rw [← hTke] at hTk kp
      have HTK := hid hTk
      have hM0 : ¬ (M : Int) < 0 := by omega
      have hMs : ¬ (s.size : Int) < (M : Int) := by omega
      have hMn : M ≤ s.size := hM
      have kx := fun W (h : Ext w5 W) => echeckp_any T x (.slice A7 T.length c7) (.slice A8 x.v.length c8) W (HTU.out.ext h) (HVX.out.ext h) HSM hnx hvx
      rw [hcx] at kx
      have HKX5 := hid kx
      clear hTk hTke hcx hbx hIn hnx hvx hM kx
      unfold evv at kp
      obtain ⟨⟨x0, x1, x2, x3, x4⟩, _, _⟩ := box5 HBX.out
      go_wp2_with fail
      refine kp.mono ?_
      rintro e9 w6 ⟨r11, rfl, hb, hx⟩
      have H11 := hid hb
      have HX6 := hid hx
      have HKX := hid (fun W (h : Ext w6 W) => HKX5.out W (HX6.out.trans h))
      replace HBX := hid (hx.block HBX.out)
      clear hb hx kp HKX5 x0 x1 x2 x3 x4
      go_wp2_with fail
      refine wp_region_slots Ext (ebk7G s M gx (.slice A7 T.length c7) r11 (.slice A8 x.v.length c8) x Tk) (by kernel_rfl) Ext.trans Ext.refl (Ext.drew _) (ebk7G_st _ _ _ _ _ _ _ _) (by kernel_rfl) ?_ ?_
      · intro tmps wr hle hfr j o9 ho hty
        have h2 : tmps[2]?.getD undef = .string s := hfr 2 (by kernel_rfl)
        have h7 : tmps[7]?.getD undef = (.slice A7 T.length c7) := hfr 7 (by kernel_rfl)
        have h8 : tmps[8]?.getD undef = .pointer (some ⟨gx, 0, none⟩) := hfr 8 (by kernel_rfl)
        have h9 : tmps[9]?.getD undef = .int .i64 (M : Int) := hfr 9 (by kernel_rfl)
        have h11 : tmps[11]?.getD undef = r11 := hfr 11 (by kernel_rfl)
        have h12 : tmps[12]?.getD undef = .int .i64 0 := hfr 12 (by kernel_rfl)
        obtain ⟨⟨x0, x1, x2, x3, x4⟩, _, _⟩ := box5 (hle.block HBX.out)
        clear hfr
        match j, ho with
        | 0, ho =>
          obtain rfl := (Option.some.inj ho)
          clear hty ho
          refine step_pure (.int .i64 0) (wanted_free rfl) ?_ (Ext.refl _) rfl
          simp [execOp, Act.eval, h12, go_sem]
        | 1, ho =>
          have h51 : tmps[51]?.getD undef = .int .i64 0 := hty 0 51 rfl (by obtain rfl := (Option.some.inj ho); rfl)
          obtain rfl := (Option.some.inj ho)
          clear hty ho
          refine step_pure (.bool false) (wanted_free rfl) ?_ (Ext.refl _) rfl
          simp [execOp, Act.eval, h51, go_sem]
        | 2, ho =>
          have h52 : tmps[52]?.getD undef = .bool false := hty 1 52 rfl (by obtain rfl := (Option.some.inj ho); rfl)
          obtain rfl := (Option.some.inj ho)
          clear hty ho
          refine step_pure (.bool false) (wanted_free rfl) ?_ (Ext.refl _) rfl
          simp [execOp, Act.eval, h52, go_sem]
        | 3, ho =>
          have h53 : tmps[53]?.getD undef = .bool false := hty 2 53 rfl (by obtain rfl := (Option.some.inj ho); rfl)
          obtain rfl := (Option.some.inj ho)
          clear hty ho
          refine step_pure (.int .i64 (M : Int)) (wanted_guard rfl rfl h53) ?_ (Ext.refl _) rfl
          simp [execOp, Act.eval, h9, go_sem]
        | 4, ho =>
          have h54 : tmps[54]?.getD undef = .int .i64 (M : Int) := hty 3 54 rfl (by obtain rfl := (Option.some.inj ho); rfl)
          have h53 : tmps[53]?.getD undef = .bool false := hty 2 53 rfl (by obtain rfl := (Option.some.inj ho); rfl)
          obtain rfl := (Option.some.inj ho)
          clear hty ho
          refine step_pure (.bool false) (wanted_guard rfl rfl h53) ?_ (Ext.refl _) rfl
          simp [execOp, Act.eval, h54, hM0, go_sem]
        | 5, ho =>
          have h53 : tmps[53]?.getD undef = .bool false := hty 2 53 rfl (by obtain rfl := (Option.some.inj ho); rfl)
          have h55 : tmps[55]?.getD undef = .bool false := hty 4 55 rfl (by obtain rfl := (Option.some.inj ho); rfl)
          obtain rfl := (Option.some.inj ho)
          clear hty ho
          refine step_pure (.bool false) (wanted_free rfl) ?_ (Ext.refl _) rfl
          simp [execOp, Act.eval, h53, h55, go_sem]
        | 6, ho =>
          have h56 : tmps[56]?.getD undef = .bool false := hty 5 56 rfl (by obtain rfl := (Option.some.inj ho); rfl)
          obtain rfl := (Option.some.inj ho)
          clear hty ho
          refine step_pure (.bool false) (wanted_free rfl) ?_ (Ext.refl _) rfl
          simp [execOp, Act.eval, h56, go_sem]
        | 7, ho =>
          have h57 : tmps[57]?.getD undef = .bool false := hty 6 57 rfl (by obtain rfl := (Option.some.inj ho); rfl)
          obtain rfl := (Option.some.inj ho)
          clear hty ho
          refine step_pure (.int .i64 (M : Int)) (wanted_guard rfl rfl h57) ?_ (Ext.refl _) rfl
          simp [execOp, Act.eval, h9, go_sem]
        | 8, ho =>
          have h57 : tmps[57]?.getD undef = .bool false := hty 6 57 rfl (by obtain rfl := (Option.some.inj ho); rfl)
          obtain rfl := (Option.some.inj ho)
          clear hty ho
          refine step_pure (.string s) (wanted_guard rfl rfl h57) ?_ (Ext.refl _) rfl
          simp [execOp, Act.eval, h2, go_sem]
        | 9, ho =>
          have h59 : tmps[59]?.getD undef = .string s := hty 8 59 rfl (by obtain rfl := (Option.some.inj ho); rfl)
          have h57 : tmps[57]?.getD undef = .bool false := hty 6 57 rfl (by obtain rfl := (Option.some.inj ho); rfl)
          obtain rfl := (Option.some.inj ho)
          clear hty ho
          refine step_pure (.int .i64 (s.size : Int)) (wanted_guard rfl rfl h57) ?_ (Ext.refl _) rfl
          simp [execOp, Act.eval, h59, go_sem]
        | 10, ho =>
          have h58 : tmps[58]?.getD undef = .int .i64 (M : Int) := hty 7 58 rfl (by obtain rfl := (Option.some.inj ho); rfl)
          have h60 : tmps[60]?.getD undef = .int .i64 (s.size : Int) := hty 9 60 rfl (by obtain rfl := (Option.some.inj ho); rfl)
          have h57 : tmps[57]?.getD undef = .bool false := hty 6 57 rfl (by obtain rfl := (Option.some.inj ho); rfl)
          obtain rfl := (Option.some.inj ho)
          clear hty ho
          refine step_pure (.bool false) (wanted_guard rfl rfl h57) ?_ (Ext.refl _) rfl
          simp [execOp, Act.eval, h58, h60, hMn, go_sem]
        | 11, ho =>
          have h57 : tmps[57]?.getD undef = .bool false := hty 6 57 rfl (by obtain rfl := (Option.some.inj ho); rfl)
          have h61 : tmps[61]?.getD undef = .bool false := hty 10 61 rfl (by obtain rfl := (Option.some.inj ho); rfl)
          obtain rfl := (Option.some.inj ho)
          clear hty ho
          refine step_pure (.bool false) (wanted_free rfl) ?_ (Ext.refl _) rfl
          simp [execOp, Act.eval, h57, h61, go_sem]
        | 12, ho =>
          have h62 : tmps[62]?.getD undef = .bool false := hty 11 62 rfl (by obtain rfl := (Option.some.inj ho); rfl)
          obtain rfl := (Option.some.inj ho)
          clear hty ho
          refine step_pure (.bool false) (wanted_free rfl) ?_ (Ext.refl _) rfl
          simp [execOp, Act.eval, h62, go_sem]
        | 13, ho =>
          have h63 : tmps[63]?.getD undef = .bool false := hty 12 63 rfl (by obtain rfl := (Option.some.inj ho); rfl)
          obtain rfl := (Option.some.inj ho)
          clear hty ho
          refine step_pure (r11) (wanted_guard rfl rfl h63) ?_ (Ext.refl _) rfl
          simp [execOp, Act.eval, h11, go_sem]
        | 14, ho =>
          have h64 : tmps[64]?.getD undef = r11 := hty 13 64 rfl (by obtain rfl := (Option.some.inj ho); rfl)
          have h63 : tmps[63]?.getD undef = .bool false := hty 12 63 rfl (by obtain rfl := (Option.some.inj ho); rfl)
          obtain rfl := (Option.some.inj ho)
          clear hty ho
          refine step_pure (.string ⟨(Tk).toArray⟩) (wanted_guard rfl rfl h63) ?_ (Ext.refl _) rfl
          have hcv := run_string_bytes Try.underlying53 Try.underlying5 Try.underlying9 (H11.out.ext hle)
          simp [execOp, Act.eval, h64, hcv, go_sem]
        | 15, ho =>
          have h63 : tmps[63]?.getD undef = .bool false := hty 12 63 rfl (by obtain rfl := (Option.some.inj ho); rfl)
          obtain rfl := (Option.some.inj ho)
          clear hty ho
          refine step_pure (.string s) (wanted_guard rfl rfl h63) ?_ (Ext.refl _) rfl
          simp [execOp, Act.eval, h2, go_sem]
        | 16, ho =>
          have h63 : tmps[63]?.getD undef = .bool false := hty 12 63 rfl (by obtain rfl := (Option.some.inj ho); rfl)
          obtain rfl := (Option.some.inj ho)
          clear hty ho
          refine step_pure (.int .i64 (M : Int)) (wanted_guard rfl rfl h63) ?_ (Ext.refl _) rfl
          simp [execOp, Act.eval, h9, go_sem]
        | 17, ho =>
          have h66 : tmps[66]?.getD undef = .string s := hty 15 66 rfl (by obtain rfl := (Option.some.inj ho); rfl)
          have h67 : tmps[67]?.getD undef = .int .i64 (M : Int) := hty 16 67 rfl (by obtain rfl := (Option.some.inj ho); rfl)
          have h63 : tmps[63]?.getD undef = .bool false := hty 12 63 rfl (by obtain rfl := (Option.some.inj ho); rfl)
          obtain rfl := (Option.some.inj ho)
          clear hty ho
          refine step_pure (.string (s.extract 0 M)) (wanted_guard rfl rfl h63) ?_ (Ext.refl _) rfl
          simp [execOp, Act.eval, h66, h67, hMs, hM0, go_sem]
        | 18, ho =>
          have h65 : tmps[65]?.getD undef = .string ⟨(Tk).toArray⟩ := hty 14 65 rfl (by obtain rfl := (Option.some.inj ho); rfl)
          have h68 : tmps[68]?.getD undef = .string (s.extract 0 M) := hty 17 68 rfl (by obtain rfl := (Option.some.inj ho); rfl)
          have h63 : tmps[63]?.getD undef = .bool false := hty 12 63 rfl (by obtain rfl := (Option.some.inj ho); rfl)
          obtain rfl := (Option.some.inj ho)
          clear hty ho
          refine step_pure (.bool false) (wanted_guard rfl rfl h63) ?_ (Ext.refl _) rfl
          simp [execOp, Act.eval, h65, h68, HTK.out, go_sem]
        | 19, ho =>
          have h63 : tmps[63]?.getD undef = .bool false := hty 12 63 rfl (by obtain rfl := (Option.some.inj ho); rfl)
          have h69 : tmps[69]?.getD undef = .bool false := hty 18 69 rfl (by obtain rfl := (Option.some.inj ho); rfl)
          obtain rfl := (Option.some.inj ho)
          clear hty ho
          refine step_pure (.bool false) (wanted_free rfl) ?_ (Ext.refl _) rfl
          simp [execOp, Act.eval, h63, h69, go_sem]
        | 20, ho =>
          have h70 : tmps[70]?.getD undef = .bool false := hty 19 70 rfl (by obtain rfl := (Option.some.inj ho); rfl)
          obtain rfl := (Option.some.inj ho)
          clear hty ho
          refine step_pure (.bool false) (wanted_free rfl) ?_ (Ext.refl _) rfl
          simp [execOp, Act.eval, h70, go_sem]
        | 21, ho =>
          have h71 : tmps[71]?.getD undef = .bool false := hty 20 71 rfl (by obtain rfl := (Option.some.inj ho); rfl)
          obtain rfl := (Option.some.inj ho)
          clear hty ho
          refine step_pure ((.slice A7 T.length c7)) (wanted_guard rfl rfl h71) ?_ (Ext.refl _) rfl
          simp [execOp, Act.eval, h7, go_sem]
        | 22, ho =>
          have h71 : tmps[71]?.getD undef = .bool false := hty 20 71 rfl (by obtain rfl := (Option.some.inj ho); rfl)
          obtain rfl := (Option.some.inj ho)
          clear hty ho
          refine step_pure (evv x (.slice A8 x.v.length c8)) (wanted_guard rfl rfl h71) ?_ (Ext.refl _) rfl
          simp [execOp, Act.eval, h8, evv, x0, x1, x2, x3, x4, go_sem]
        | 23, ho =>
          have h72 : tmps[72]?.getD undef = (.slice A7 T.length c7) := hty 21 72 rfl (by obtain rfl := (Option.some.inj ho); rfl)
          have h73 : tmps[73]?.getD undef = evv x (.slice A8 x.v.length c8) := hty 22 73 rfl (by obtain rfl := (Option.some.inj ho); rfl)
          have h71 : tmps[71]?.getD undef = .bool false := hty 20 71 rfl (by obtain rfl := (Option.some.inj ho); rfl)
          obtain rfl := (Option.some.inj ho)
          clear hty ho
          refine step_call 23 #[(.slice A7 T.length c7), evv x (.slice A8 x.v.length c8)] (wanted_guard rfl rfl h71) ?_ ?_
          · simp [execOp, Act.eval, h72, h73, go_sem]
          · exact (HKX.out _ hle).mono fun e w' ⟨h1, h2⟩ => ⟨_, h1, h2, rfl⟩
        | 24, ho =>
          have h74 : tmps[74]?.getD undef = .int .i64 0 := hty 23 74 rfl (by obtain rfl := (Option.some.inj ho); rfl)
          have h71 : tmps[71]?.getD undef = .bool false := hty 20 71 rfl (by obtain rfl := (Option.some.inj ho); rfl)
          obtain rfl := (Option.some.inj ho)
          clear hty ho
          refine step_pure (.bool false) (wanted_guard rfl rfl h71) ?_ (Ext.refl _) rfl
          simp [execOp, Act.eval, h74, go_sem]
        | 25, ho =>
          have h71 : tmps[71]?.getD undef = .bool false := hty 20 71 rfl (by obtain rfl := (Option.some.inj ho); rfl)
          have h75 : tmps[75]?.getD undef = .bool false := hty 24 75 rfl (by obtain rfl := (Option.some.inj ho); rfl)
          obtain rfl := (Option.some.inj ho)
          clear hty ho
          refine step_pure (.bool false) (wanted_free rfl) ?_ (Ext.refl _) rfl
          simp [execOp, Act.eval, h71, h75, go_sem]
        | (j + 26), ho => exact absurd ho (by simp)
      · intro tmps w7 hle hs hfr hty
        have h76 : tmps[76]?.getD undef = .bool false := hty 25 76 rfl
        have hfe := frame_eq [51, 52, 53, 54, 55, 56, 57, 58, 59, 60, 61, 62, 63, 64, 65, 66, 67, 68, 69, 70, 71, 72, 73, 74, 75, 76] hs hfr (by kernel_rfl)
        rw [hfe]
        clear hfe hfr hs hty
        simp only [List.foldl_cons, List.foldl_nil]
        rw [h76]
        clear h76
        generalize tmps[51]?.getD undef = x51
        generalize tmps[52]?.getD undef = x52
        generalize tmps[53]?.getD undef = x53
        generalize tmps[54]?.getD undef = x54
        generalize tmps[55]?.getD undef = x55
        generalize tmps[56]?.getD undef = x56
        generalize tmps[57]?.getD undef = x57
        generalize tmps[58]?.getD undef = x58
        generalize tmps[59]?.getD undef = x59
        generalize tmps[60]?.getD undef = x60
        generalize tmps[61]?.getD undef = x61
        generalize tmps[62]?.getD undef = x62
        generalize tmps[63]?.getD undef = x63
        generalize tmps[64]?.getD undef = x64
        generalize tmps[65]?.getD undef = x65
        generalize tmps[66]?.getD undef = x66
        generalize tmps[67]?.getD undef = x67
        generalize tmps[68]?.getD undef = x68
        generalize tmps[69]?.getD undef = x69
        generalize tmps[70]?.getD undef = x70
        generalize tmps[71]?.getD undef = x71
        generalize tmps[72]?.getD undef = x72
        generalize tmps[73]?.getD undef = x73
        generalize tmps[74]?.getD undef = x74
        generalize tmps[75]?.getD undef = x75
        simp only [List.setIfInBounds_toArray, List.set_cons_succ, List.set_cons_zero]
        go_wp2_with fail
        go_meet
        case rel => exact HX6.out.trans hle
    · have hE' : (E == 0) = false := beq_eq_false_iff_ne.2 hE
      go_wp2_with fail
      go_meet
      case rel => exact Ext.refl _
  case rest =>
    have HC := hid hcut
    replace HX := hid (HX.out.trans hcut)
    replace HBL := hid (hcut.block HBL.out)
    replace HTU := hid (HTU.out.ext hcut)
    clear hcut HBX HVX HEB HC
    have ka := eown_any a r wc (HVA.out.ext HX.out) hla
    obtain ⟨l0, l1, l2, l3, l4, l5, l6, l7, l8, l9⟩ := box10 HBL.out
    unfold evv at ka
    go_wp2_with fail
    refine ka.mono ?_
    rintro e9 w6 ⟨ua, rfl, hown, hx⟩
    have hua := ValsAt.of_own hown
    replace HX := hid (HX.out.trans hx)
    replace HBL := hid (hx.block HBL.out)
    replace HTU := hid (HTU.out.ext hx)
    have kpa := eb_put (a := a) HTU.out hua HSM hna HOA.out
    unfold evv at kpa
    clear hx hown hua ka l0 l1 l2 l3 l4 l5 l6 l7 l8 l9
    obtain ⟨Pa, hPa⟩ : ∃ P, P = if checkE T a = 0 then bytesE T a else [] := ⟨_, rfl⟩
    rw [← hPa] at kpa
    obtain ⟨Ea, hEa⟩ : ∃ E, E = checkE T a := ⟨_, rfl⟩
    rw [← hEa] at kpa hPa
    have HPA := hid hPa
    have HEA := hid hEa
    clear hPa hEa
    go_wp2_with fail
    refine kpa.mono ?_
    rintro e9 w7 ⟨r13, rfl, hb13, hx⟩
    have H13 := hid hb13
    obtain ⟨A13, c13, hr13, _, _, _⟩ := hb13
    subst hr13
    replace HX := hid (HX.out.trans hx)
    replace HBL := hid (hx.block HBL.out)
    replace HTU := hid (HTU.out.ext hx)
    clear hx kpa
    have kb := eown_any b q w7 (HVB.out.ext HX.out) hlb
    obtain ⟨l0, l1, l2, l3, l4, l5, l6, l7, l8, l9⟩ := box10 HBL.out
    unfold evv at kb
    go_wp2_with fail
    refine kb.mono ?_
    rintro e9 w8 ⟨ub, rfl, hown, hx⟩
    have hub := ValsAt.of_own hown
    replace HX := hid (HX.out.trans hx)
    replace HBL := hid (hx.block HBL.out)
    replace HTU := hid (HTU.out.ext hx)
    replace H13 := hid (H13.out.ext hx)
    have kpb := eb_put (a := b) HTU.out hub HSM hnb HOB.out
    unfold evv at kpb
    clear hx hown hub kb l0 l1 l2 l3 l4 l5 l6 l7 l8 l9
    obtain ⟨Pb, hPb⟩ : ∃ P, P = if checkE T b = 0 then bytesE T b else [] := ⟨_, rfl⟩
    rw [← hPb] at kpb
    obtain ⟨Eb, hEb⟩ : ∃ E, E = checkE T b := ⟨_, rfl⟩
    rw [← hEb] at kpb hPb
    have HPB := hid hPb
    have HEB := hid hEb
    clear hPb hEb
    go_wp2_with fail
    refine kpb.mono ?_
    rintro e9 w9 ⟨r15, rfl, hb15, hx⟩
    have H15 := hid hb15
    obtain ⟨A15, c15, hr15, _, _, _⟩ := hb15
    subst hr15
    replace HX := hid (HX.out.trans hx)
    replace HBL := hid (hx.block HBL.out)
    replace HTU := hid (HTU.out.ext hx)
    replace H13 := hid (H13.out.ext hx)
    clear hx kpb
    by_cases hA : Ea = 0
    · by_cases hB : Eb = 0
      · subst hA
        subst hB
        have hca : checkE T a = 0 := HEA.out.symm
        have hcb : checkE T b = 0 := HEB.out.symm
        have hPa : Pa = bytesE T a := by rw [HPA.out, if_pos rfl]
        have hPb : Pb = bytesE T b := by rw [HPB.out, if_pos rfl]
        have hba : ∀ v ∈ a.v, v.b ≤ 18446744073709551615 := fun v hv => (HOA.out v hv).2.2.2.1
        have hbb : ∀ v ∈ b.v, v.b ≤ 18446744073709551615 := fun v hv => (HOB.out v hv).2.2.2.1
        have hTl : T.length ≤ 18446744073709551615 := by have := HSM.1; omega
        have hlen : Pa.length ≤ 1240 := by rw [hPa]; exact eb_len hca
        have hsz : (Pa.length : Int) ≤ 1240 := by omega
        have hsz2 : (s.size : Int) ≤ 100 := by omega
        have kt2 := etakep_any T (.slice A7 T.length c7) (⟨Pa.toArray⟩ ++ s) 0 w9 HTU.out HSM (by rw [ByteArray.size_append]; show Pa.toArray.size + s.size ≤ _; simp; omega)
        rw [event_back T a hca hba hTl (⟨Pa.toArray⟩ ++ s) s.data.toList (by rw [ByteArray.data_append, Array.toList_append, hPa])] at kt2
        rw [← hPa] at kt2
        have HPZ := hid (show (Pa == Pb) = sameEv a b by
          rw [Bool.eq_iff_iff, beq_iff_eq, sameEv_iff, hPa, hPb]
          exact ⟨event_same T a b hca hcb hba hbb hTl, fun h => by rw [h]⟩)
        obtain ⟨Z, hZ⟩ : ∃ Z, Z = sameEv a b := ⟨_, rfl⟩
        rw [← hZ] at HPZ
        have HSZ := hid hZ.symm
        have hcv : (convert 53 9 (.slice A13 Pa.length c13)).run Try.prog w9 = .ok (.string ⟨Pa.toArray⟩) w9 := run_string_bytes Try.underlying53 Try.underlying5 Try.underlying9 H13.out
        unfold SaysE at kt2
        dsimp only at kt2
        clear hPa hPb hba hbb hTl hlen hca hcb hZ HPA HPB HEA HEB
        go_wp2_with fail
        refine kt2.mono ?_
        rintro e9 w10 ⟨vy, rfl, ⟨uy, rfl, huy⟩, hx⟩
        obtain ⟨A16, c16, hr16, _, _, _⟩ := id huy
        have hxa := Ext.alloc w10 (Obj.cells #[.int .i64 a.m, .int .i64 a.o, .int .i64 a.q, .string a.n, uy] 37 (0, 0))
        have HBY := hid (heap_alloc_new w10 (Obj.cells #[.int .i64 a.m, .int .i64 a.o, .int .i64 a.q, .string a.n, uy] 37 (0, 0)))
        have HUY := hid (huy.ext hxa)
        replace HX := hid ((HX.out.trans hx).trans hxa)
        replace HBL := hid (hxa.block (hx.block HBL.out))
        replace H13 := hid ((H13.out.ext hx).ext hxa)
        replace H15 := hid ((H15.out.ext hx).ext hxa)
        subst hr16
        clear hcv
        go_wp2_with fail
        obtain ⟨gy, hgy⟩ : ∃ g, g = w10.heap.size := ⟨_, rfl⟩
        rw [← hgy] at HBY ⊢
        obtain ⟨w11, hw11⟩ : ∃ w11, w11 = w10.alloc (Obj.cells #[.int .i64 a.m, .int .i64 a.o, .int .i64 a.q, .string a.n, .slice A16 a.v.length c16] 37 (0, 0)) := ⟨_, rfl⟩
        rw [← hw11] at HBY HUY HX HBL H13 H15 ⊢
        clear hx hxa huy hgy hw11 kt2
        replace HVA := hid (HVA.out.ext HX.out)
        replace HVB := hid (HVB.out.ext HX.out)
        refine wp_region_slots Ext (ebk14G gy gl a b r q (.slice A16 a.v.length c16) A13 A15 c13 c15 Pa Pb Z) (by kernel_rfl) Ext.trans Ext.refl (Ext.drew _) (ebk14G_st _ _ _ _ _ _ _ _ _ _ _ _ _ _) (by kernel_rfl) ?_ ?_
        · intro tmps wr hle hfr j o9 ho hty
          have h4 : tmps[4]?.getD undef = .pointer (some ⟨gl, 0, none⟩) := hfr 4 (by kernel_rfl)
          have h13 : tmps[13]?.getD undef = .slice A13 Pa.length c13 := hfr 13 (by kernel_rfl)
          have h15 : tmps[15]?.getD undef = .slice A15 Pb.length c15 := hfr 15 (by kernel_rfl)
          have h17 : tmps[17]?.getD undef = .pointer (some ⟨gy, 0, none⟩) := hfr 17 (by kernel_rfl)
          have h18 : tmps[18]?.getD undef = .int .i64 (Pa.length : Int) := hfr 18 (by kernel_rfl)
          have h19 : tmps[19]?.getD undef = .int .i64 0 := hfr 19 (by kernel_rfl)
          obtain ⟨⟨y0, y1, y2, y3, y4⟩, _, _⟩ := box5 (hle.block HBY.out)
          obtain ⟨l0, l1, l2, l3, l4, l5, l6, l7, l8, l9⟩ := box10 (hle.block HBL.out)
          clear hfr
          match j, ho with
          | 0, ho =>
            obtain rfl := (Option.some.inj ho)
            clear hty ho
            refine step_pure (.int .i64 0) (wanted_free rfl) ?_ (Ext.refl _) rfl
            simp [execOp, Act.eval, h19, go_sem]
          | 1, ho =>
            have h110 : tmps[110]?.getD undef = .int .i64 0 := hty 0 110 rfl (by obtain rfl := (Option.some.inj ho); rfl)
            obtain rfl := (Option.some.inj ho)
            clear hty ho
            refine step_pure (.bool true) (wanted_free rfl) ?_ (Ext.refl _) rfl
            simp [execOp, Act.eval, h110, go_sem]
          | 2, ho =>
            have h111 : tmps[111]?.getD undef = .bool true := hty 1 111 rfl (by obtain rfl := (Option.some.inj ho); rfl)
            obtain rfl := (Option.some.inj ho)
            clear hty ho
            refine step_pure (.bool true) (wanted_free rfl) ?_ (Ext.refl _) rfl
            simp [execOp, Act.eval, h111, go_sem]
          | 3, ho =>
            have h112 : tmps[112]?.getD undef = .bool true := hty 2 112 rfl (by obtain rfl := (Option.some.inj ho); rfl)
            obtain rfl := (Option.some.inj ho)
            clear hty ho
            refine step_pure (evv a (.slice A16 a.v.length c16)) (wanted_guard rfl rfl h112) ?_ (Ext.refl _) rfl
            simp [execOp, Act.eval, h17, evv, y0, y1, y2, y3, y4, go_sem]
          | 4, ho =>
            have h112 : tmps[112]?.getD undef = .bool true := hty 2 112 rfl (by obtain rfl := (Option.some.inj ho); rfl)
            obtain rfl := (Option.some.inj ho)
            clear hty ho
            refine step_pure (.pointer (some ⟨gl, 0, none⟩)) (wanted_guard rfl rfl h112) ?_ (Ext.refl _) rfl
            simp [execOp, Act.eval, h4, go_sem]
          | 5, ho =>
            have h114 : tmps[114]?.getD undef = .pointer (some ⟨gl, 0, none⟩) := hty 4 114 rfl (by obtain rfl := (Option.some.inj ho); rfl)
            have h112 : tmps[112]?.getD undef = .bool true := hty 2 112 rfl (by obtain rfl := (Option.some.inj ho); rfl)
            obtain rfl := (Option.some.inj ho)
            clear hty ho
            refine step_pure (evv a r) (wanted_guard rfl rfl h112) ?_ (Ext.refl _) rfl
            simp [execOp, Act.eval, h114, evv, l0, l1, l2, l3, l4, go_sem]
          | 6, ho =>
            have h115 : tmps[115]?.getD undef = evv a r := hty 5 115 rfl (by obtain rfl := (Option.some.inj ho); rfl)
            have h112 : tmps[112]?.getD undef = .bool true := hty 2 112 rfl (by obtain rfl := (Option.some.inj ho); rfl)
            obtain rfl := (Option.some.inj ho)
            clear hty ho
            refine step_call 24 #[evv a r] (wanted_guard rfl rfl h112) ?_ ?_
            · simp [execOp, Act.eval, h115, go_sem]
            · exact (eown_any a r _ (HVA.out.ext hle) hla).mono fun e w' ⟨u, h1, h2, h3⟩ => ⟨_, h1, h3, ⟨u, rfl, ValsAt.of_own h2⟩⟩
          | 7, ho =>
            have h113 : tmps[113]?.getD undef = evv a (.slice A16 a.v.length c16) := hty 3 113 rfl (by obtain rfl := (Option.some.inj ho); rfl)
            have h116 : OwnAt wr (tmps[116]?.getD undef) a := hty 6 116 rfl (by obtain rfl := (Option.some.inj ho); rfl)
            have h112 : tmps[112]?.getD undef = .bool true := hty 2 112 rfl (by obtain rfl := (Option.some.inj ho); rfl)
            obtain rfl := (Option.some.inj ho)
            clear hty ho
            obtain ⟨u9, e9, hu9⟩ := h116
            refine step_call 17 #[evv a (.slice A16 a.v.length c16), evv a u9] (wanted_guard rfl rfl h112) ?_ ?_
            · simp [execOp, Act.eval, h113, e9, go_sem]
            · exact (esame_any a a (.slice A16 a.v.length c16) u9 _ (HUY.out.ext hle) hu9).mono fun e w' ⟨h1, h2⟩ => ⟨_, h1, h2, show Value.bool (sameEv a a) = .bool true by rw [same_self]⟩
          | 8, ho =>
            have h112 : tmps[112]?.getD undef = .bool true := hty 2 112 rfl (by obtain rfl := (Option.some.inj ho); rfl)
            have h117 : tmps[117]?.getD undef = .bool true := hty 7 117 rfl (by obtain rfl := (Option.some.inj ho); rfl)
            obtain rfl := (Option.some.inj ho)
            clear hty ho
            refine step_pure (.bool true) (wanted_free rfl) ?_ (Ext.refl _) rfl
            simp [execOp, Act.eval, h112, h117, go_sem]
          | 9, ho =>
            have h118 : tmps[118]?.getD undef = .bool true := hty 8 118 rfl (by obtain rfl := (Option.some.inj ho); rfl)
            obtain rfl := (Option.some.inj ho)
            clear hty ho
            refine step_pure (.bool true) (wanted_free rfl) ?_ (Ext.refl _) rfl
            simp [execOp, Act.eval, h118, go_sem]
          | 10, ho =>
            have h119 : tmps[119]?.getD undef = .bool true := hty 9 119 rfl (by obtain rfl := (Option.some.inj ho); rfl)
            obtain rfl := (Option.some.inj ho)
            clear hty ho
            refine step_pure (.int .i64 (Pa.length : Int)) (wanted_guard rfl rfl h119) ?_ (Ext.refl _) rfl
            simp [execOp, Act.eval, h18, go_sem]
          | 11, ho =>
            have h119 : tmps[119]?.getD undef = .bool true := hty 9 119 rfl (by obtain rfl := (Option.some.inj ho); rfl)
            obtain rfl := (Option.some.inj ho)
            clear hty ho
            refine step_pure (.slice A13 Pa.length c13) (wanted_guard rfl rfl h119) ?_ (Ext.refl _) rfl
            simp [execOp, Act.eval, h13, go_sem]
          | 12, ho =>
            have h121 : tmps[121]?.getD undef = .slice A13 Pa.length c13 := hty 11 121 rfl (by obtain rfl := (Option.some.inj ho); rfl)
            have h119 : tmps[119]?.getD undef = .bool true := hty 9 119 rfl (by obtain rfl := (Option.some.inj ho); rfl)
            obtain rfl := (Option.some.inj ho)
            clear hty ho
            refine step_pure (.int .i64 (Pa.length : Int)) (wanted_guard rfl rfl h119) ?_ (Ext.refl _) rfl
            simp [execOp, Act.eval, h121, go_sem]
          | 13, ho =>
            have h120 : tmps[120]?.getD undef = .int .i64 (Pa.length : Int) := hty 10 120 rfl (by obtain rfl := (Option.some.inj ho); rfl)
            have h122 : tmps[122]?.getD undef = .int .i64 (Pa.length : Int) := hty 12 122 rfl (by obtain rfl := (Option.some.inj ho); rfl)
            have h119 : tmps[119]?.getD undef = .bool true := hty 9 119 rfl (by obtain rfl := (Option.some.inj ho); rfl)
            obtain rfl := (Option.some.inj ho)
            clear hty ho
            refine step_pure (.bool true) (wanted_guard rfl rfl h119) ?_ (Ext.refl _) rfl
            simp [execOp, Act.eval, h120, h122, go_sem]
          | 14, ho =>
            have h119 : tmps[119]?.getD undef = .bool true := hty 9 119 rfl (by obtain rfl := (Option.some.inj ho); rfl)
            have h123 : tmps[123]?.getD undef = .bool true := hty 13 123 rfl (by obtain rfl := (Option.some.inj ho); rfl)
            obtain rfl := (Option.some.inj ho)
            clear hty ho
            refine step_pure (.bool true) (wanted_free rfl) ?_ (Ext.refl _) rfl
            simp [execOp, Act.eval, h119, h123, go_sem]
          | 15, ho =>
            have h124 : tmps[124]?.getD undef = .bool true := hty 14 124 rfl (by obtain rfl := (Option.some.inj ho); rfl)
            obtain rfl := (Option.some.inj ho)
            clear hty ho
            refine step_pure (.bool true) (wanted_free rfl) ?_ (Ext.refl _) rfl
            simp [execOp, Act.eval, h124, go_sem]
          | 16, ho =>
            have h125 : tmps[125]?.getD undef = .bool true := hty 15 125 rfl (by obtain rfl := (Option.some.inj ho); rfl)
            obtain rfl := (Option.some.inj ho)
            clear hty ho
            refine step_pure (.slice A13 Pa.length c13) (wanted_guard rfl rfl h125) ?_ (Ext.refl _) rfl
            simp [execOp, Act.eval, h13, go_sem]
          | 17, ho =>
            have h126 : tmps[126]?.getD undef = .slice A13 Pa.length c13 := hty 16 126 rfl (by obtain rfl := (Option.some.inj ho); rfl)
            have h125 : tmps[125]?.getD undef = .bool true := hty 15 125 rfl (by obtain rfl := (Option.some.inj ho); rfl)
            obtain rfl := (Option.some.inj ho)
            clear hty ho
            refine step_pure (.string ⟨(Pa).toArray⟩) (wanted_guard rfl rfl h125) ?_ (Ext.refl _) rfl
            have hcv := run_string_bytes Try.underlying53 Try.underlying5 Try.underlying9 (H13.out.ext hle)
            simp [execOp, Act.eval, h126, hcv, go_sem]
          | 18, ho =>
            have h125 : tmps[125]?.getD undef = .bool true := hty 15 125 rfl (by obtain rfl := (Option.some.inj ho); rfl)
            obtain rfl := (Option.some.inj ho)
            clear hty ho
            refine step_pure (.slice A15 Pb.length c15) (wanted_guard rfl rfl h125) ?_ (Ext.refl _) rfl
            simp [execOp, Act.eval, h15, go_sem]
          | 19, ho =>
            have h128 : tmps[128]?.getD undef = .slice A15 Pb.length c15 := hty 18 128 rfl (by obtain rfl := (Option.some.inj ho); rfl)
            have h125 : tmps[125]?.getD undef = .bool true := hty 15 125 rfl (by obtain rfl := (Option.some.inj ho); rfl)
            obtain rfl := (Option.some.inj ho)
            clear hty ho
            refine step_pure (.string ⟨(Pb).toArray⟩) (wanted_guard rfl rfl h125) ?_ (Ext.refl _) rfl
            have hcv := run_string_bytes Try.underlying53 Try.underlying5 Try.underlying9 (H15.out.ext hle)
            simp [execOp, Act.eval, h128, hcv, go_sem]
          | 20, ho =>
            have h127 : tmps[127]?.getD undef = .string ⟨(Pa).toArray⟩ := hty 17 127 rfl (by obtain rfl := (Option.some.inj ho); rfl)
            have h129 : tmps[129]?.getD undef = .string ⟨(Pb).toArray⟩ := hty 19 129 rfl (by obtain rfl := (Option.some.inj ho); rfl)
            have h125 : tmps[125]?.getD undef = .bool true := hty 15 125 rfl (by obtain rfl := (Option.some.inj ho); rfl)
            obtain rfl := (Option.some.inj ho)
            clear hty ho
            refine step_pure (.bool Z) (wanted_guard rfl rfl h125) ?_ (Ext.refl _) rfl
            simp [execOp, Act.eval, h127, h129, HPZ.out, go_sem]
          | 21, ho =>
            have h125 : tmps[125]?.getD undef = .bool true := hty 15 125 rfl (by obtain rfl := (Option.some.inj ho); rfl)
            obtain rfl := (Option.some.inj ho)
            clear hty ho
            refine step_pure (.pointer (some ⟨gl, 0, none⟩)) (wanted_guard rfl rfl h125) ?_ (Ext.refl _) rfl
            simp [execOp, Act.eval, h4, go_sem]
          | 22, ho =>
            have h131 : tmps[131]?.getD undef = .pointer (some ⟨gl, 0, none⟩) := hty 21 131 rfl (by obtain rfl := (Option.some.inj ho); rfl)
            have h125 : tmps[125]?.getD undef = .bool true := hty 15 125 rfl (by obtain rfl := (Option.some.inj ho); rfl)
            obtain rfl := (Option.some.inj ho)
            clear hty ho
            refine step_pure (evv a r) (wanted_guard rfl rfl h125) ?_ (Ext.refl _) rfl
            simp [execOp, Act.eval, h131, evv, l0, l1, l2, l3, l4, go_sem]
          | 23, ho =>
            have h132 : tmps[132]?.getD undef = evv a r := hty 22 132 rfl (by obtain rfl := (Option.some.inj ho); rfl)
            have h125 : tmps[125]?.getD undef = .bool true := hty 15 125 rfl (by obtain rfl := (Option.some.inj ho); rfl)
            obtain rfl := (Option.some.inj ho)
            clear hty ho
            refine step_call 24 #[evv a r] (wanted_guard rfl rfl h125) ?_ ?_
            · simp [execOp, Act.eval, h132, go_sem]
            · exact (eown_any a r _ (HVA.out.ext hle) hla).mono fun e w' ⟨u, h1, h2, h3⟩ => ⟨_, h1, h3, ⟨u, rfl, ValsAt.of_own h2⟩⟩
          | 24, ho =>
            have h125 : tmps[125]?.getD undef = .bool true := hty 15 125 rfl (by obtain rfl := (Option.some.inj ho); rfl)
            obtain rfl := (Option.some.inj ho)
            clear hty ho
            refine step_pure (.pointer (some ⟨gl, 5, none⟩)) (wanted_guard rfl rfl h125) ?_ (Ext.refl _) rfl
            simp [execOp, Act.eval, h4, go_sem]
          | 25, ho =>
            have h134 : tmps[134]?.getD undef = .pointer (some ⟨gl, 5, none⟩) := hty 24 134 rfl (by obtain rfl := (Option.some.inj ho); rfl)
            have h125 : tmps[125]?.getD undef = .bool true := hty 15 125 rfl (by obtain rfl := (Option.some.inj ho); rfl)
            obtain rfl := (Option.some.inj ho)
            clear hty ho
            refine step_pure (evv b q) (wanted_guard rfl rfl h125) ?_ (Ext.refl _) rfl
            simp [execOp, Act.eval, h134, evv, l5, l6, l7, l8, l9, go_sem]
          | 26, ho =>
            have h135 : tmps[135]?.getD undef = evv b q := hty 25 135 rfl (by obtain rfl := (Option.some.inj ho); rfl)
            have h125 : tmps[125]?.getD undef = .bool true := hty 15 125 rfl (by obtain rfl := (Option.some.inj ho); rfl)
            obtain rfl := (Option.some.inj ho)
            clear hty ho
            refine step_call 24 #[evv b q] (wanted_guard rfl rfl h125) ?_ ?_
            · simp [execOp, Act.eval, h135, go_sem]
            · exact (eown_any b q _ (HVB.out.ext hle) hlb).mono fun e w' ⟨u, h1, h2, h3⟩ => ⟨_, h1, h3, ⟨u, rfl, ValsAt.of_own h2⟩⟩
          | 27, ho =>
            have h133 : OwnAt wr (tmps[133]?.getD undef) a := hty 23 133 rfl (by obtain rfl := (Option.some.inj ho); rfl)
            have h136 : OwnAt wr (tmps[136]?.getD undef) b := hty 26 136 rfl (by obtain rfl := (Option.some.inj ho); rfl)
            have h125 : tmps[125]?.getD undef = .bool true := hty 15 125 rfl (by obtain rfl := (Option.some.inj ho); rfl)
            obtain rfl := (Option.some.inj ho)
            clear hty ho
            obtain ⟨u9, e9, hu9⟩ := h133
            obtain ⟨u8, e8, hu8⟩ := h136
            refine step_call 17 #[evv a u9, evv b u8] (wanted_guard rfl rfl h125) ?_ ?_
            · simp [execOp, Act.eval, e9, e8, go_sem]
            · exact (esame_any a b u9 u8 _ hu9 hu8).mono fun e w' ⟨h1, h2⟩ => ⟨_, h1, h2, show Value.bool (sameEv a b) = .bool Z by rw [HSZ.out]⟩
          | 28, ho =>
            have h130 : tmps[130]?.getD undef = .bool Z := hty 20 130 rfl (by obtain rfl := (Option.some.inj ho); rfl)
            have h137 : tmps[137]?.getD undef = .bool Z := hty 27 137 rfl (by obtain rfl := (Option.some.inj ho); rfl)
            have h125 : tmps[125]?.getD undef = .bool true := hty 15 125 rfl (by obtain rfl := (Option.some.inj ho); rfl)
            obtain rfl := (Option.some.inj ho)
            clear hty ho
            refine step_pure (.bool true) (wanted_guard rfl rfl h125) ?_ (Ext.refl _) rfl
            cases Z <;> simp [execOp, Act.eval, h130, h137, go_sem]
          | 29, ho =>
            have h125 : tmps[125]?.getD undef = .bool true := hty 15 125 rfl (by obtain rfl := (Option.some.inj ho); rfl)
            have h138 : tmps[138]?.getD undef = .bool true := hty 28 138 rfl (by obtain rfl := (Option.some.inj ho); rfl)
            obtain rfl := (Option.some.inj ho)
            clear hty ho
            refine step_pure (.bool true) (wanted_free rfl) ?_ (Ext.refl _) rfl
            simp [execOp, Act.eval, h125, h138, go_sem]
          | 30, ho =>
            have h139 : tmps[139]?.getD undef = .bool true := hty 29 139 rfl (by obtain rfl := (Option.some.inj ho); rfl)
            obtain rfl := (Option.some.inj ho)
            clear hty ho
            refine step_pure (.bool true) (wanted_free rfl) ?_ (Ext.refl _) rfl
            simp [execOp, Act.eval, h139, go_sem]
          | 31, ho =>
            have h140 : tmps[140]?.getD undef = .bool true := hty 30 140 rfl (by obtain rfl := (Option.some.inj ho); rfl)
            obtain rfl := (Option.some.inj ho)
            clear hty ho
            refine step_call 6 #[] (wanted_guard rfl rfl h140) ?_ ?_
            · simp [execOp, Act.eval, go_sem]
            · exact (eawake_any _).mono fun e w' ⟨h1, h2⟩ => ⟨_, h1, h2, rfl⟩
          | 32, ho =>
            have h140 : tmps[140]?.getD undef = .bool true := hty 30 140 rfl (by obtain rfl := (Option.some.inj ho); rfl)
            have h141 : tmps[141]?.getD undef = .bool true := hty 31 141 rfl (by obtain rfl := (Option.some.inj ho); rfl)
            obtain rfl := (Option.some.inj ho)
            clear hty ho
            refine step_pure (.bool true) (wanted_free rfl) ?_ (Ext.refl _) rfl
            simp [execOp, Act.eval, h140, h141, go_sem]
          | 33, ho =>
            have h142 : tmps[142]?.getD undef = .bool true := hty 32 142 rfl (by obtain rfl := (Option.some.inj ho); rfl)
            obtain rfl := (Option.some.inj ho)
            clear hty ho
            refine step_pure (.bool true) (wanted_free rfl) ?_ (Ext.refl _) rfl
            simp [execOp, Act.eval, h142, go_sem]
          | (j + 34), ho => exact absurd ho (by simp)
        · intro tmps wz hle hs hfr hty
          have h6 : tmps[6]?.getD undef = .bool true := hty 33 6 rfl
          have hfe := frame_eq [6, 110, 111, 112, 113, 114, 115, 116, 117, 118, 119, 120, 121, 122, 123, 124, 125, 126, 127, 128, 129, 130, 131, 132, 133, 134, 135, 136, 137, 138, 139, 140, 141, 142] hs hfr (by kernel_rfl)
          rw [hfe]
          clear hfe hfr hs hty
          simp only [List.foldl_cons, List.foldl_nil]
          rw [h6]
          clear h6
          simp only [List.setIfInBounds_toArray, List.set_cons_succ, List.set_cons_zero]
          go_wp2_with fail
          go_ret
          exact ⟨rfl, HX.out.trans hle⟩
      · have hB' : (Eb != 0) = true := bne_iff_ne.2 hB
        subst hA
        clear hB
        go_wp2_with fail
        refine (eawake_any _).mono ?_
        rintro e9 w10 ⟨rfl, hx⟩
        go_wp2_with fail
        go_ret
        exact ⟨rfl, HX.out.trans hx⟩
    · have hA' : (Ea != 0) = true := bne_iff_ne.2 hA
      clear hA
      go_wp2_with fail
      refine (eawake_any _).mono ?_
      rintro e9 w10 ⟨rfl, hx⟩
      go_wp2_with fail
      go_ret
      exact ⟨rfl, HX.out.trans hx⟩
end Go.Proofs.Ytnldgmpfinlikaa
