/- telltalelaw07.EventChecks answers true. Conditions: none. -/
import Derived.Test.YtnldgmpfinlikaaGreatGEP11
import Derived.Test.YtnldgmpfinlikaaGreatEAwk
import Derived.Test.YtnldgmpfinlikaaGreatGSLaw1
import Derived.Test.YtnldgmpfinlikaaGreatGEFar
import Derived.Lib.SmallJoins
namespace Go.Proofs.YtnldgmpfinlikaaGreat
open Go Go.RowKit

theorem run_eq_same (k : Nat) (n : Int) (b : Nat) (t : ByteArray) (w : World) : (binOp .eql 47 (.agg #[.int .u8 (k : Int), .int .i64 n, .int .u64 (b : Int), .string t]) (.agg #[.int .u8 (k : Int), .int .i64 n, .int .u64 (b : Int), .string t])).run Tryz.prog w = .ok (.bool true) w := by
  simp [go_sem]
theorem lies_p {w : World} {g : Nat} {t : TypeId} {fr : Nat × Nat} (h : w.heap[g]? = some (.cells #[.int .u8 112] t fr)) : Lies w (some ⟨g, 0, none⟩) (bvs [112]) := by
  have h2 := Lies.of_row h 0 1
  simpa [bvs, bv] using h2
/-- what the slots of region 3 hold -/
def echk3G (S : Nat) (T : List TZ) (e : EZ) (tv : Value) (r : Value) : Nat → Value → World → Prop
  | 0, v, _ => v = tv
  | 1, v, w => ∃ b, Built w b 68 v T
  | 2, v, _ => v = .agg #[.int .i64 e.m, .int .i64 e.o, .int .i64 e.q, .string e.n, r]
  | 3, v, w => ∃ u b, v = .agg #[.int .i64 e.m, .int .i64 e.o, .int .i64 e.q, .string e.n, u] ∧ w.ownsRow b 44 4 u e.v.length (vcells e.v)
  | 4, v, w => ∃ g, v = .pointer (some ⟨g, 0, none⟩) ∧ S ≤ g ∧ w.heap[g]? = some (.cells #[.int .i64 0, .int .i64 0, .int .i64 0, .string ⟨#[]⟩, .slice none 0 0] 34 (0, 0))
  | _, _, _ => True
theorem echk3G_st (S : Nat) (T : List TZ) (e : EZ) (tv r : Value) : ∀ i9 z9 x9 y9, echk3G S T e tv r i9 z9 x9 → Ext x9 y9 → echk3G S T e tv r i9 z9 y9 := by
  intro i9 z9 x9 y9 h e9
  unfold echk3G at *
  split at h
  · exact h
  · obtain ⟨b, h⟩ := h; exact ⟨b, h.ext e9⟩
  · exact h
  · obtain ⟨u, b, h1, h2⟩ := h; exact ⟨u, b, h1, own_later h2 e9⟩
  · obtain ⟨g, h1, h2, h3⟩ := h; exact ⟨g, h1, h2, e9.block h3⟩
  · trivial

/-- what the slots of the region hold -/
def echk8G (em eo eq : Int) (en : ByteArray) (V : List VZ) (A A8 : Option Addr) (c c8 : Nat) (tv y7 r9 r11 : Value) (vk : Nat) (vn : Int) (vb : Nat) (vt : ByteArray) (vi : Bool) (CE PE : Int) (PL : List UInt8) : Nat → Value → World → Prop
  | 0, v, _ => v = y7
  | 1, v, _ => v = .agg #[.int .i64 em, .int .i64 eo, .int .i64 eq, .string en, .slice A8 V.length c8]
  | 2, v, _ => v = .int .i64 CE
  | 3, v, _ => v = tv
  | 4, v, _ => v = .agg #[.int .i64 em, .int .i64 eo, .int .i64 eq, .string en, .slice A V.length c]
  | 5, v, _ => v = .int .i64 CE
  | 6, v, _ => v = .bool true
  | 7, v, _ => v = .bool true
  | 8, v, _ => v = r9
  | 9, v, _ => v = .string ⟨(PL).toArray⟩
  | 10, v, _ => v = r11
  | 11, v, _ => v = .string ⟨(PL).toArray⟩
  | 12, v, _ => v = .bool true
  | 13, v, _ => v = .bool true
  | 14, v, _ => v = .bool true
  | 15, v, _ => v = .int .i64 PE
  | 16, v, _ => v = .int .i64 PE
  | 17, v, _ => v = .bool true
  | 18, v, _ => v = .bool true
  | 19, v, _ => v = .bool true
  | 20, v, _ => v = .agg #[.int .u8 (vk : Int), .int .i64 vn, .int .u64 (vb : Int), .string vt]
  | 21, v, _ => v = .agg #[.int .u8 (vk : Int), .int .i64 vn, .int .u64 (vb : Int), .string vt]
  | 22, v, _ => v = .bool true
  | 23, v, _ => v = .bool true
  | 24, v, _ => v = .bool true
  | 25, v, _ => v = .bool vi
  | 26, v, _ => v = .bool vi
  | 27, v, _ => v = .bool true
  | 28, v, _ => v = .bool true
  | 29, v, _ => v = .bool true
  | 30, v, _ => v = .bool true
  | 31, v, _ => v = .bool true
  | 32, v, _ => v = .bool true
  | _, _, _ => True
theorem echk8G_st (em eo eq : Int) (en : ByteArray) (V : List VZ) (A A8 : Option Addr) (c c8 : Nat) (tv y7 r9 r11 : Value) (vk : Nat) (vn : Int) (vb : Nat) (vt : ByteArray) (vi : Bool) (CE PE : Int) (PL : List UInt8) : ∀ i9 z9 x9 y9, echk8G em eo eq en V A A8 c c8 tv y7 r9 r11 vk vn vb vt vi CE PE PL i9 z9 x9 → Ext x9 y9 → echk8G em eo eq en V A A8 c c8 tv y7 r9 r11 vk vn vb vt vi CE PE PL i9 z9 y9 := by
  intro i9 z9 x9 y9 h e
  unfold echk8G at *
  split at h <;> first | exact h | trivial

set_option maxRecDepth 100000 in
set_option maxHeartbeats 4000000 in
theorem echecks7_any (T : List TZ) (e : EZ) (field : ByteArray) (tv r : Value) (w : World) (hT : TypesAt w tv T) (hok : TypesOk T) (hv : ValsAt w r e.v) (heo : EventOk e) (hfs : field.size ≤ 9223372036854775807) :
    Calls Tryz.prog 3 #[tv, evv e r, .string field] w (Says w (.bool true)) := by
  have HT := hid hT
  have kov := fun W (h : Ext w W) => over_any T tv W (hT.ext h)
  have koe := fun W v (h : EventsAt W v [e]) => eover_any [e] v 1 W h (fun x hx => by rw [List.mem_singleton.1 hx]; exact heo) (by omega)
  have hin := @in_small T
  have hine := @evts_in [e] 1
  have hov : overZ T = if typesIn T then 0 else 1 := rfl
  have hoe : overE [e] 1 = if evtsIn [e] 1 then 0 else 1 := rfl
  clear hT
  generalize typesIn T = IN at *
  generalize overZ T = OV at *
  generalize evtsIn [e] 1 = IE at *
  generalize overE [e] 1 = OE at *
  obtain ⟨em, eo, eq, en, V⟩ := e
  unfold evv
  dsimp only at *
  have HV := hid hv
  obtain ⟨A, c, rfl, _, _, _⟩ := hv
  cases IN
  · subst hov
    go_enter Tryz.func3, Tryz.ntmps3
    go_wp2_with fail
    refine (kov _ (Ext.alloc _ _)).mono ?_
    rintro e9 w1 ⟨rfl, hx⟩
    have HX := hid ((Ext.alloc w _).trans hx)
    have HB := hid (hx.block (heap_alloc_new w _))
    obtain ⟨⟨b0, b1, b2, b3, b4⟩, _, _⟩ := box5 HB.out
    clear hx
    go_wp2_with fail
    refine (eawake_any _).mono ?_
    rintro e9 w9 ⟨rfl, hx2⟩
    go_wp2_with fail
    go_ret
    exact ⟨rfl, HX.out.trans hx2⟩
  · subst hov
    have HSM := hin rfl hok
    cases IE
    · subst hoe
      go_enter Tryz.func3, Tryz.ntmps3
      go_wp2_with fail
      refine (kov _ (Ext.alloc _ _)).mono ?_
      rintro e9 w1 ⟨rfl, hx⟩
      have HX := hid ((Ext.alloc w _).trans hx)
      have HB := hid (hx.block (heap_alloc_new w _))
      obtain ⟨⟨b0, b1, b2, b3, b4⟩, _, _⟩ := box5 HB.out
      clear hx
      go_wp2_with fail
      refine (koe _ _ (EventsAt.of_block (e := ⟨em, eo, eq, en, V⟩) (heap_alloc_new w1 _) (HV.out.ext (HX.out.trans (Ext.alloc w1 _))))).mono ?_
      rintro e9 w2 ⟨rfl, hx⟩
      replace HX := hid (HX.out.trans ((Ext.alloc w1 _).trans hx))
      replace HB := hid (hx.block ((Ext.alloc w1 _).block HB.out))
      clear hx b0 b1 b2 b3 b4
      obtain ⟨⟨b0, b1, b2, b3, b4⟩, _, _⟩ := box5 HB.out
      go_wp2_with fail
      refine (eawake_any _).mono ?_
      rintro e9 w9 ⟨rfl, hx2⟩
      go_wp2_with fail
      go_ret
      exact ⟨rfl, HX.out.trans hx2⟩
    · subst hoe
      obtain ⟨_, hse⟩ := hine rfl
      have hes : EvSmall ⟨em, eo, eq, en, V⟩ := by
        obtain ⟨h1, h2, h3⟩ := hse _ (List.mem_singleton.2 rfl)
        exact ⟨h1, h2, fun v hv => by have := h3 v hv; omega⟩
      clear hse hine hin
      by_cases h40 : 40 < field.size
      · have h40' : 40 < (field.size : Int) := by omega
        go_enter Tryz.func3, Tryz.ntmps3
        go_wp2_with fail
        refine (kov _ (Ext.alloc _ _)).mono ?_
        rintro e9 w1 ⟨rfl, hx⟩
        have HX := hid ((Ext.alloc w _).trans hx)
        have HB := hid (hx.block (heap_alloc_new w _))
        obtain ⟨⟨b0, b1, b2, b3, b4⟩, _, _⟩ := box5 HB.out
        clear hx
        go_wp2_with fail
        refine (koe _ _ (EventsAt.of_block (e := ⟨em, eo, eq, en, V⟩) (heap_alloc_new w1 _) (HV.out.ext (HX.out.trans (Ext.alloc w1 _))))).mono ?_
        rintro e9 w2 ⟨rfl, hx⟩
        replace HX := hid (HX.out.trans ((Ext.alloc w1 _).trans hx))
        replace HB := hid (hx.block ((Ext.alloc w1 _).block HB.out))
        clear hx b0 b1 b2 b3 b4
        obtain ⟨⟨b0, b1, b2, b3, b4⟩, _, _⟩ := box5 HB.out
        go_wp2_with fail
        refine (eawake_any _).mono ?_
        rintro e9 w9 ⟨rfl, hx2⟩
        go_wp2_with fail
        go_ret
        exact ⟨rfl, HX.out.trans hx2⟩
      · have h40' : ¬ 40 < (field.size : Int) := by omega
        replace h40 : field.size ≤ 40 := by omega
        go_enter Tryz.func3, Tryz.ntmps3
        go_wp2_with fail
        refine (kov _ (Ext.alloc _ _)).mono ?_
        rintro e9 w1 ⟨rfl, hx⟩
        have HX := hid ((Ext.alloc w _).trans hx)
        have HB := hid (hx.block (heap_alloc_new w _))
        obtain ⟨⟨b0, b1, b2, b3, b4⟩, _, _⟩ := box5 HB.out
        clear hx
        go_wp2_with fail
        refine (koe _ _ (EventsAt.of_block (e := ⟨em, eo, eq, en, V⟩) (heap_alloc_new w1 _) (HV.out.ext (HX.out.trans (Ext.alloc w1 _))))).mono ?_
        rintro e9 w2 ⟨rfl, hx⟩
        replace HX := hid (HX.out.trans ((Ext.alloc w1 _).trans hx))
        replace HB := hid (hx.block ((Ext.alloc w1 _).block HB.out))
        clear hx b0 b1 b2 b3 b4
        obtain ⟨⟨b0, b1, b2, b3, b4⟩, _, _⟩ := box5 HB.out
        go_upto_region 3 with fail
        clear kov koe
        obtain ⟨S, hS⟩ : ∃ S, S = w.heap.size := ⟨_, rfl⟩
        rw [← hS] at HB b0 b1 b2 b3 b4 ⊢
        clear hS
        have hSlt : S < w2.heap.size := World.block_lt_of_cell? _ _ b0
        have HT2 := hid (HT.out.ext HX.out)
        have HV2 := hid (HV.out.ext HX.out)
        go_cut [7, 8] from 32 to 97 (fun x y wx => ∃ g u b3, y = .pointer (some ⟨g, 0, none⟩) ∧ w2.heap.size ≤ g ∧ Hid (wx.heap[g]? = some (.cells #[.int .i64 em, .int .i64 eo, .int .i64 eq, .string en, u] 34 (0, 0))) ∧ Hid (ValsAt wx u V) ∧ Hid (Built wx b3 68 x T) ∧ Ext w2 wx)
        case first =>
          refine wp_region_tail 5 Ext (echk3G (w2.heap.size) T ⟨em, eo, eq, en, V⟩ tv (.slice A V.length c)) (by kernel_rfl) Ext.trans Ext.refl (Ext.drew _) (echk3G_st _ _ _ _ _) (by kernel_rfl) (by kernel_rfl) ?_ ?_
          · intro tmps df wq hle hfr jj oo hjj hoo hty
            have h0 : tmps[0]?.getD undef = tv := hfr 0 (by kernel_rfl)
            have h4 : tmps[4]?.getD undef = .pointer (some ⟨S, 0, none⟩) := hfr 4 (by kernel_rfl)
            have b0 := hle.cell b0
            have b1 := hle.cell b1
            have b2 := hle.cell b2
            have b3 := hle.cell b3
            have b4 := hle.cell b4
            clear hfr
            match jj, hoo, hjj with
            | 0, hoo, _ =>
              obtain rfl := (Option.some.inj hoo)
              clear hty hoo
              refine step_pure tv (wanted_free rfl) ?_ (Ext.refl _) rfl
              simp [execOp, Act.eval, h0, go_sem]
            | 1, hoo, _ =>
              have h32 : tmps[32]?.getD undef = tv := hty 0 32 (by kernel_rfl) (by obtain rfl := (Option.some.inj hoo); rfl)
              obtain rfl := (Option.some.inj hoo)
              clear hty hoo
              refine step_call 8 #[tv] (wanted_free rfl) ?_ ?_
              · simp [execOp, Act.eval, h32, go_sem]
              · exact (own6_built T tv wq (HT2.out.ext hle) HSM).mono (fun e9 w9 ⟨u9, h1, h2, h3⟩ => ⟨u9, h1, h3, ⟨_, h2⟩⟩)
            | 2, hoo, _ =>
              obtain rfl := (Option.some.inj hoo)
              clear hty hoo
              refine step_pure (.agg #[.int .i64 em, .int .i64 eo, .int .i64 eq, .string en, .slice A V.length c]) (wanted_free rfl) ?_ (Ext.refl _) rfl
              simp [execOp, Act.eval, h4, b0, b1, b2, b3, b4, go_sem]
            | 3, hoo, _ =>
              have h34 : tmps[34]?.getD undef = .agg #[.int .i64 em, .int .i64 eo, .int .i64 eq, .string en, .slice A V.length c] := hty 2 34 (by kernel_rfl) (by obtain rfl := (Option.some.inj hoo); rfl)
              obtain rfl := (Option.some.inj hoo)
              clear hty hoo
              refine step_call 9 #[.agg #[.int .i64 em, .int .i64 eo, .int .i64 eq, .string en, .slice A V.length c]] (wanted_free rfl) ?_ ?_
              · simp [execOp, Act.eval, h34, go_sem]
              · exact (eown_any ⟨em, eo, eq, en, V⟩ (.slice A V.length c) wq (HV2.out.ext hle) hes.2.1).mono (fun e9 w9 ⟨u9, h1, h2, h3⟩ => ⟨_, h1, h3, ⟨u9, _, rfl, h2⟩⟩)
            | 4, hoo, _ =>
              obtain rfl := (Option.some.inj hoo)
              clear hty hoo
              refine step_make (.pointer (some ⟨wq.heap.size, 0, none⟩)) (wq.alloc (Obj.cells #[.int .i64 0, .int .i64 0, .int .i64 0, .string ⟨#[]⟩, .slice none 0 0] 34 (0, 0))) (wanted_free rfl) ?_ (Ext.alloc _ _) ?_
              · simp [execOp, go_sem]
              · exact ⟨_, rfl, hle.size, heap_alloc_new wq _⟩
            | (jj + 5), _, hjj => omega
          · intro tmps w7 hle hs hfr hty
            have h33 : ∃ b, Built w7 b 68 (tmps[33]?.getD undef) T := hty 1 33 (by kernel_rfl)
            have h35 : ∃ u b, (tmps[35]?.getD undef) = .agg #[.int .i64 em, .int .i64 eo, .int .i64 eq, .string en, u] ∧ w7.ownsRow b 44 4 u V.length (vcells V) := hty 3 35 (by kernel_rfl)
            have h8 : ∃ g, (tmps[8]?.getD undef) = .pointer (some ⟨g, 0, none⟩) ∧ w2.heap.size ≤ g ∧ w7.heap[g]? = some (.cells #[.int .i64 0, .int .i64 0, .int .i64 0, .string ⟨#[]⟩, .slice none 0 0] 34 (0, 0)) := hty 4 8 (by kernel_rfl)
            have hfe := nframe_eq [8, 32, 33, 34, 35] hs hfr (by kernel_rfl)
            rw [hfe]
            clear hfe hfr hs hty
            simp only [List.foldl_cons, List.foldl_nil]
            obtain ⟨G8, e8, hG8, hblk⟩ := h8
            obtain ⟨u5, B5, e5, how⟩ := h35
            obtain ⟨B3, hbu⟩ := h33
            rw [e8, e5]
            generalize tmps[32]?.getD undef = x32
            generalize tmps[33]?.getD undef = x33 at *
            generalize tmps[34]?.getD undef = x34
            clear e8 e5
            simp only [List.drop_succ_cons, List.drop_zero, List.setIfInBounds_toArray, List.set_cons_succ, List.set_cons_zero]
            have HLE := hid hle
            have HB7 := hid (hle.block HB.out)
            have HBL := hid hblk
            have HBU := hid hbu
            have HOW := hid how
            obtain ⟨A5, c5, rfl, _, _, _⟩ := own_form how
            clear hle hblk hbu how b0 b1 b2 b3 b4
            obtain ⟨⟨b0, b1, b2, b3, b4⟩, _, _⟩ := box5 HB7.out
            obtain ⟨⟨p0, p1, p2, p3, p4⟩, ⟨m0, m1, m2, m3, m4⟩, _⟩ := box5 HBL.out
            go_wp2_with fail
            go_meet
            case rel =>
              refine ⟨G8, _, B3, rfl, hG8, hid (set5 HBL.out), hid (ValsAt.of_owned (own_kept HOW.out HBL.out (by decide) ?_)), hid (Built.kept HBU.out HBL.out (noByte_event _ _ _ _ _ _ _) (by decide) ?_), ?_⟩
              · repeat (first | (with_reducible exact But.refl _ _) | (with_reducible refine But.set ?_ _ _))
              · repeat (first | (with_reducible exact But.refl _ _) | (with_reducible refine But.set ?_ _ _))
              · repeat (first | (with_reducible exact HLE.out) | (with_reducible refine Ext.setCell ?_ (by show w2.heap.size ≤ G8; omega) _))
        case rest =>
          obtain ⟨g8, z8, q3, rfl, hg8, HB8, HV8, HBU, hx⟩ := hcut
          have HTU := hid (Built.types HBU.out)
          replace HB := hid (hx.block HB.out)
          replace HT2 := hid (HT2.out.ext hx)
          replace HV2 := hid (HV2.out.ext hx)
          replace HX := hid (HX.out.trans hx)
          clear hx HBU b0 b1 b2 b3 b4
          obtain ⟨A8, c8, e8, _, _, _⟩ := id HV8.out
          subst e8
          obtain ⟨⟨b0, b1, b2, b3, b4⟩, _, _⟩ := box5 HB.out
          obtain ⟨⟨p0, p1, p2, p3, p4⟩, _, _⟩ := box5 HB8.out
          have kp1 := fun W A' (h1 : TypesAt W u7 T) (h2 : ValsAt W (.slice A8 V.length c8) V) (h3 : Lies W A' (bvs [112])) => eput_any T ⟨em, eo, eq, en, V⟩ u7 _ A' [112] 1 W h1 h2 HSM hes heo h3 (Nat.le_refl _) (by decide)
          have kp2 := fun W A' (h1 : TypesAt W tv T) (h2 : ValsAt W (.slice A V.length c) V) (h3 : Lies W A' (bvs [112])) => rput7_any T ⟨em, eo, eq, en, V⟩ tv _ A' [112] 1 W h1 h2 hok heo.2.2.2.2 h3 (by decide)
          have kv1 := fun W (h1 : TypesAt W u7 T) (h2 : ValsAt W (.slice A8 V.length c8) V) => evalue_any T ⟨em, eo, eq, en, V⟩ field u7 _ W h1 h2 HSM hes heo h40
          have kv2 := fun W (h1 : TypesAt W tv T) (h2 : ValsAt W (.slice A V.length c) V) => rvalue7_any T ⟨em, eo, eq, en, V⟩ field tv _ W h1 h2
          have kc1 := fun W (h1 : TypesAt W u7 T) (h2 : ValsAt W (.slice A8 V.length c8) V) => echeck_any T ⟨em, eo, eq, en, V⟩ u7 _ W h1 h2 HSM hes heo
          have kc2 := fun W (h1 : TypesAt W tv T) (h2 : ValsAt W (.slice A V.length c) V) => rcheck7_any T ⟨em, eo, eq, en, V⟩ tv _ W h1 h2 hok heo.2.2.2.2
          have kcv := fun (W : World) => Go.Lib.run_convert_bytes_const (P := Tryz.prog) W 36 5 #[.int .u8 112] 1 1 Tryz.underlying36 Tryz.underlying5
          generalize putE [112] T ⟨em, eo, eq, en, V⟩ = P at *
          generalize valueE T ⟨em, eo, eq, en, V⟩ field = VV at *
          generalize checkE T ⟨em, eo, eq, en, V⟩ = CE at *
          obtain ⟨PL, PE⟩ := P
          obtain ⟨⟨vk, vn, vb, vt⟩, vi⟩ := VV
          unfold Told2 evv at kp1 kp2
          unfold SaysVal at kv1 kv2
          simp only [evv, VZ.v, vv] at kv1 kv2
          unfold evv at kc1 kc2
          dsimp only at kp1 kp2 kv1 kv2 kc1 kc2
          go_wp2_with fail
          refine (kp1 _ _ (HTU.out.ext (Ext.alloc wc _)) (HV8.out.ext (Ext.alloc wc _)) (lies_p (heap_alloc_new wc _))).mono ?_
          rintro e3 w3 ⟨r9, rfl, ho9, hx⟩
          have HX3 := hid ((Ext.alloc wc (Obj.cells #[.int .u8 112] 5 (1, 2))).trans hx)
          have HO9 := hid (Bytes.of_own ho9)
          replace HB := hid (HX3.out.block HB.out)
          replace HB8 := hid (HX3.out.block HB8.out)
          replace HT2 := hid (HT2.out.ext HX3.out)
          replace HV2 := hid (HV2.out.ext HX3.out)
          replace HTU := hid (HTU.out.ext HX3.out)
          replace HV8 := hid (HV8.out.ext HX3.out)
          replace HX := hid (HX.out.trans HX3.out)
          clear hx HX3 ho9 kp1 b0 b1 b2 b3 b4 p0 p1 p2 p3 p4
          obtain ⟨⟨b0, b1, b2, b3, b4⟩, _, _⟩ := box5 HB.out
          obtain ⟨⟨p0, p1, p2, p3, p4⟩, _, _⟩ := box5 HB8.out
          go_wp2_with fail
          refine (kp2 _ _ (HT2.out.ext (Ext.alloc w3 _)) (HV2.out.ext (Ext.alloc w3 _)) (lies_p (heap_alloc_new w3 _))).mono ?_
          rintro e4 w4 ⟨r11, rfl, ho11, hx⟩
          have HX3 := hid ((Ext.alloc w3 (Obj.cells #[.int .u8 112] 5 (1, 2))).trans hx)
          have HO11 := hid (Bytes.of_own ho11)
          replace HO9 := hid (HO9.out.ext HX3.out)
          replace HB := hid (HX3.out.block HB.out)
          replace HB8 := hid (HX3.out.block HB8.out)
          replace HT2 := hid (HT2.out.ext HX3.out)
          replace HV2 := hid (HV2.out.ext HX3.out)
          replace HTU := hid (HTU.out.ext HX3.out)
          replace HV8 := hid (HV8.out.ext HX3.out)
          replace HX := hid (HX.out.trans HX3.out)
          clear hx HX3 ho11 kp2 b0 b1 b2 b3 b4 p0 p1 p2 p3 p4
          obtain ⟨⟨b0, b1, b2, b3, b4⟩, _, _⟩ := box5 HB.out
          obtain ⟨⟨p0, p1, p2, p3, p4⟩, _, _⟩ := box5 HB8.out
          go_wp2_with fail
          refine (kv1 _ HTU.out HV8.out).mono ?_
          rintro e5 w5 ⟨rfl, hx⟩
          have HXA := hid (hx.then_alloc (Obj.cells #[.int .u8 (vk : Int), .int .i64 vn, .int .u64 (vb : Int), .string vt] 44 (0, 0)))
          have HB13 := hid (heap_alloc_new w5 (Obj.cells #[.int .u8 (vk : Int), .int .i64 vn, .int .u64 (vb : Int), .string vt] 44 (0, 0)))
          replace HO9 := hid (HO9.out.ext HXA.out)
          replace HO11 := hid (HO11.out.ext HXA.out)
          replace HB := hid (HXA.out.block HB.out)
          replace HB8 := hid (HXA.out.block HB8.out)
          replace HT2 := hid (HT2.out.ext HXA.out)
          replace HV2 := hid (HV2.out.ext HXA.out)
          replace HTU := hid (HTU.out.ext HXA.out)
          replace HV8 := hid (HV8.out.ext HXA.out)
          replace HX := hid (HX.out.trans HXA.out)
          clear hx HXA kv1 b0 b1 b2 b3 b4 p0 p1 p2 p3 p4
          obtain ⟨⟨b0, b1, b2, b3, b4⟩, _, _⟩ := box5 HB.out
          obtain ⟨⟨p0, p1, p2, p3, p4⟩, _, _⟩ := box5 HB8.out
          go_wp2_with fail
          refine (kv2 _ HT2.out HV2.out).mono ?_
          rintro e6 w6 ⟨rfl, hx⟩
          obtain ⟨B13, hB13⟩ : ∃ B, B = w5.heap.size := ⟨_, rfl⟩
          rw [← hB13] at HB13 ⊢
          clear hB13
          obtain ⟨y7, hy7⟩ : ∃ y, y = u7 := ⟨_, rfl⟩
          have HXA := hid (hx.then_alloc (Obj.cells #[.int .u8 (vk : Int), .int .i64 vn, .int .u64 (vb : Int), .string vt] 47 (0, 0)))
          have HB15 := hid (heap_alloc_new w6 (Obj.cells #[.int .u8 (vk : Int), .int .i64 vn, .int .u64 (vb : Int), .string vt] 47 (0, 0)))
          replace HO9 := hid (HO9.out.ext HXA.out)
          replace HO11 := hid (HO11.out.ext HXA.out)
          replace HB := hid (HXA.out.block HB.out)
          replace HB8 := hid (HXA.out.block HB8.out)
          replace HB13 := hid (HXA.out.block HB13.out)
          replace HT2 := hid (HT2.out.ext HXA.out)
          replace HV2 := hid (HV2.out.ext HXA.out)
          replace HTU := hid (HTU.out.ext HXA.out)
          replace HV8 := hid (HV8.out.ext HXA.out)
          replace HX := hid (HX.out.trans HXA.out)
          clear hx HXA kv2 b0 b1 b2 b3 b4 p0 p1 p2 p3 p4
          rw [← hy7] at kc1 HTU ⊢
          clear hy7
          go_wp2_with fail
          obtain ⟨B15, hB15⟩ : ∃ B, B = w6.heap.size := ⟨_, rfl⟩
          rw [← hB15] at HB15 ⊢
          clear hB15
          generalize (w6.alloc (Obj.cells #[.int .u8 (vk : Int), .int .i64 vn, .int .u64 (vb : Int), .string vt] 47 (0, 0))) = w7 at *
          refine wp_region_slots Ext (echk8G em eo eq en V A A8 c c8 tv y7 r9 r11 vk vn vb vt vi CE PE PL) (by kernel_rfl) Ext.trans Ext.refl (Ext.drew _) (echk8G_st _ _ _ _ _ _ _ _ _ _ _ _ _ _ _ _ _ _ _ _ _) (by kernel_rfl) ?_ ?_
          · intro tmps wr hle hfr j o9 ho hty
            have h0 : tmps[0]?.getD undef = tv := hfr 0 (by kernel_rfl)
            have h4 : tmps[4]?.getD undef = .pointer (some ⟨S, 0, none⟩) := hfr 4 (by kernel_rfl)
            have h7 : tmps[7]?.getD undef = y7 := hfr 7 (by kernel_rfl)
            have h8 : tmps[8]?.getD undef = .pointer (some ⟨g8, 0, none⟩) := hfr 8 (by kernel_rfl)
            have h9 : tmps[9]?.getD undef = r9 := hfr 9 (by kernel_rfl)
            have h10 : tmps[10]?.getD undef = .int .i64 PE := hfr 10 (by kernel_rfl)
            have h11 : tmps[11]?.getD undef = r11 := hfr 11 (by kernel_rfl)
            have h12 : tmps[12]?.getD undef = .int .i64 PE := hfr 12 (by kernel_rfl)
            have h13 : tmps[13]?.getD undef = .pointer (some ⟨B13, 0, none⟩) := hfr 13 (by kernel_rfl)
            have h14 : tmps[14]?.getD undef = .bool vi := hfr 14 (by kernel_rfl)
            have h15 : tmps[15]?.getD undef = .pointer (some ⟨B15, 0, none⟩) := hfr 15 (by kernel_rfl)
            have h16 : tmps[16]?.getD undef = .bool vi := hfr 16 (by kernel_rfl)
            obtain ⟨⟨b0, b1, b2, b3, b4⟩, _, _⟩ := box5 (hle.block HB.out)
            obtain ⟨⟨p0, p1, p2, p3, p4⟩, _, _⟩ := box5 (hle.block HB8.out)
            obtain ⟨⟨d0, d1, d2, d3⟩, _, _⟩ := box4 (hle.block HB13.out)
            obtain ⟨⟨f0, f1, f2, f3⟩, _, _⟩ := box4 (hle.block HB15.out)
            have feq := run_eq_same vk vn vb vt wr
            clear hfr
            match j, ho with
            | 0, ho =>
              obtain rfl := (Option.some.inj ho)
              clear hty ho
              refine step_pure (y7) (wanted_free rfl) ?_ (Ext.refl _) rfl
              simp [execOp, Act.eval, h7, go_sem]
            | 1, ho =>
              obtain rfl := (Option.some.inj ho)
              clear hty ho
              refine step_pure (.agg #[.int .i64 em, .int .i64 eo, .int .i64 eq, .string en, .slice A8 V.length c8]) (wanted_free rfl) ?_ (Ext.refl _) rfl
              simp [execOp, Act.eval, h8, p0, p1, p2, p3, p4, go_sem]
            | 2, ho =>
              have h66 : tmps[66]?.getD undef = y7 := hty 0 66 rfl (by obtain rfl := (Option.some.inj ho); rfl)
              have h67 : tmps[67]?.getD undef = .agg #[.int .i64 em, .int .i64 eo, .int .i64 eq, .string en, .slice A8 V.length c8] := hty 1 67 rfl (by obtain rfl := (Option.some.inj ho); rfl)
              obtain rfl := (Option.some.inj ho)
              clear hty ho
              refine step_call 14 #[y7, .agg #[.int .i64 em, .int .i64 eo, .int .i64 eq, .string en, .slice A8 V.length c8]] (wanted_free rfl) ?_ ?_
              · simp [execOp, Act.eval, h66, h67, go_sem]
              · exact (kc1 _ (HTU.out.ext hle) (HV8.out.ext hle)).mono fun e w' ⟨h1, h2⟩ => ⟨_, h1, h2, rfl⟩
            | 3, ho =>
              obtain rfl := (Option.some.inj ho)
              clear hty ho
              refine step_pure (tv) (wanted_free rfl) ?_ (Ext.refl _) rfl
              simp [execOp, Act.eval, h0, go_sem]
            | 4, ho =>
              obtain rfl := (Option.some.inj ho)
              clear hty ho
              refine step_pure (.agg #[.int .i64 em, .int .i64 eo, .int .i64 eq, .string en, .slice A V.length c]) (wanted_free rfl) ?_ (Ext.refl _) rfl
              simp [execOp, Act.eval, h4, b0, b1, b2, b3, b4, go_sem]
            | 5, ho =>
              have h69 : tmps[69]?.getD undef = tv := hty 3 69 rfl (by obtain rfl := (Option.some.inj ho); rfl)
              have h70 : tmps[70]?.getD undef = .agg #[.int .i64 em, .int .i64 eo, .int .i64 eq, .string en, .slice A V.length c] := hty 4 70 rfl (by obtain rfl := (Option.some.inj ho); rfl)
              obtain rfl := (Option.some.inj ho)
              clear hty ho
              refine step_call 15 #[tv, .agg #[.int .i64 em, .int .i64 eo, .int .i64 eq, .string en, .slice A V.length c]] (wanted_free rfl) ?_ ?_
              · simp [execOp, Act.eval, h69, h70, go_sem]
              · exact (kc2 _ (HT2.out.ext hle) (HV2.out.ext hle)).mono fun e w' ⟨h1, h2⟩ => ⟨_, h1, h2, rfl⟩
            | 6, ho =>
              have h68 : tmps[68]?.getD undef = .int .i64 CE := hty 2 68 rfl (by obtain rfl := (Option.some.inj ho); rfl)
              have h71 : tmps[71]?.getD undef = .int .i64 CE := hty 5 71 rfl (by obtain rfl := (Option.some.inj ho); rfl)
              obtain rfl := (Option.some.inj ho)
              clear hty ho
              refine step_pure (.bool true) (wanted_free rfl) ?_ (Ext.refl _) rfl
              simp [execOp, Act.eval, h68, h71, go_sem]
            | 7, ho =>
              have h72 : tmps[72]?.getD undef = .bool true := hty 6 72 rfl (by obtain rfl := (Option.some.inj ho); rfl)
              obtain rfl := (Option.some.inj ho)
              clear hty ho
              refine step_pure (.bool true) (wanted_free rfl) ?_ (Ext.refl _) rfl
              simp [execOp, Act.eval, h72, go_sem]
            | 8, ho =>
              have h73 : tmps[73]?.getD undef = .bool true := hty 7 73 rfl (by obtain rfl := (Option.some.inj ho); rfl)
              obtain rfl := (Option.some.inj ho)
              clear hty ho
              refine step_pure (r9) (wanted_guard rfl rfl h73) ?_ (Ext.refl _) rfl
              simp [execOp, Act.eval, h9, go_sem]
            | 9, ho =>
              have h74 : tmps[74]?.getD undef = r9 := hty 8 74 rfl (by obtain rfl := (Option.some.inj ho); rfl)
              have h73 : tmps[73]?.getD undef = .bool true := hty 7 73 rfl (by obtain rfl := (Option.some.inj ho); rfl)
              obtain rfl := (Option.some.inj ho)
              clear hty ho
              refine step_pure (.string ⟨(PL).toArray⟩) (wanted_guard rfl rfl h73) ?_ (Ext.refl _) rfl
              have hcv := run_string_bytes Tryz.underlying36 Tryz.underlying5 Tryz.underlying9 (HO9.out.ext hle)
              simp [execOp, Act.eval, h74, hcv, go_sem]
            | 10, ho =>
              have h73 : tmps[73]?.getD undef = .bool true := hty 7 73 rfl (by obtain rfl := (Option.some.inj ho); rfl)
              obtain rfl := (Option.some.inj ho)
              clear hty ho
              refine step_pure (r11) (wanted_guard rfl rfl h73) ?_ (Ext.refl _) rfl
              simp [execOp, Act.eval, h11, go_sem]
            | 11, ho =>
              have h76 : tmps[76]?.getD undef = r11 := hty 10 76 rfl (by obtain rfl := (Option.some.inj ho); rfl)
              have h73 : tmps[73]?.getD undef = .bool true := hty 7 73 rfl (by obtain rfl := (Option.some.inj ho); rfl)
              obtain rfl := (Option.some.inj ho)
              clear hty ho
              refine step_pure (.string ⟨(PL).toArray⟩) (wanted_guard rfl rfl h73) ?_ (Ext.refl _) rfl
              have hcv := run_string_bytes Tryz.underlying36 Tryz.underlying5 Tryz.underlying9 (HO11.out.ext hle)
              simp [execOp, Act.eval, h76, hcv, go_sem]
            | 12, ho =>
              have h75 : tmps[75]?.getD undef = .string ⟨(PL).toArray⟩ := hty 9 75 rfl (by obtain rfl := (Option.some.inj ho); rfl)
              have h77 : tmps[77]?.getD undef = .string ⟨(PL).toArray⟩ := hty 11 77 rfl (by obtain rfl := (Option.some.inj ho); rfl)
              have h73 : tmps[73]?.getD undef = .bool true := hty 7 73 rfl (by obtain rfl := (Option.some.inj ho); rfl)
              obtain rfl := (Option.some.inj ho)
              clear hty ho
              refine step_pure (.bool true) (wanted_guard rfl rfl h73) ?_ (Ext.refl _) rfl
              simp [execOp, Act.eval, h75, h77, go_sem]
            | 13, ho =>
              have h73 : tmps[73]?.getD undef = .bool true := hty 7 73 rfl (by obtain rfl := (Option.some.inj ho); rfl)
              have h78 : tmps[78]?.getD undef = .bool true := hty 12 78 rfl (by obtain rfl := (Option.some.inj ho); rfl)
              obtain rfl := (Option.some.inj ho)
              clear hty ho
              refine step_pure (.bool true) (wanted_free rfl) ?_ (Ext.refl _) rfl
              simp [execOp, Act.eval, h73, h78, go_sem]
            | 14, ho =>
              have h79 : tmps[79]?.getD undef = .bool true := hty 13 79 rfl (by obtain rfl := (Option.some.inj ho); rfl)
              obtain rfl := (Option.some.inj ho)
              clear hty ho
              refine step_pure (.bool true) (wanted_free rfl) ?_ (Ext.refl _) rfl
              simp [execOp, Act.eval, h79, go_sem]
            | 15, ho =>
              have h80 : tmps[80]?.getD undef = .bool true := hty 14 80 rfl (by obtain rfl := (Option.some.inj ho); rfl)
              obtain rfl := (Option.some.inj ho)
              clear hty ho
              refine step_pure (.int .i64 PE) (wanted_guard rfl rfl h80) ?_ (Ext.refl _) rfl
              simp [execOp, Act.eval, h10, go_sem]
            | 16, ho =>
              have h80 : tmps[80]?.getD undef = .bool true := hty 14 80 rfl (by obtain rfl := (Option.some.inj ho); rfl)
              obtain rfl := (Option.some.inj ho)
              clear hty ho
              refine step_pure (.int .i64 PE) (wanted_guard rfl rfl h80) ?_ (Ext.refl _) rfl
              simp [execOp, Act.eval, h12, go_sem]
            | 17, ho =>
              have h81 : tmps[81]?.getD undef = .int .i64 PE := hty 15 81 rfl (by obtain rfl := (Option.some.inj ho); rfl)
              have h82 : tmps[82]?.getD undef = .int .i64 PE := hty 16 82 rfl (by obtain rfl := (Option.some.inj ho); rfl)
              have h80 : tmps[80]?.getD undef = .bool true := hty 14 80 rfl (by obtain rfl := (Option.some.inj ho); rfl)
              obtain rfl := (Option.some.inj ho)
              clear hty ho
              refine step_pure (.bool true) (wanted_guard rfl rfl h80) ?_ (Ext.refl _) rfl
              simp [execOp, Act.eval, h81, h82, go_sem]
            | 18, ho =>
              have h80 : tmps[80]?.getD undef = .bool true := hty 14 80 rfl (by obtain rfl := (Option.some.inj ho); rfl)
              have h83 : tmps[83]?.getD undef = .bool true := hty 17 83 rfl (by obtain rfl := (Option.some.inj ho); rfl)
              obtain rfl := (Option.some.inj ho)
              clear hty ho
              refine step_pure (.bool true) (wanted_free rfl) ?_ (Ext.refl _) rfl
              simp [execOp, Act.eval, h80, h83, go_sem]
            | 19, ho =>
              have h84 : tmps[84]?.getD undef = .bool true := hty 18 84 rfl (by obtain rfl := (Option.some.inj ho); rfl)
              obtain rfl := (Option.some.inj ho)
              clear hty ho
              refine step_pure (.bool true) (wanted_free rfl) ?_ (Ext.refl _) rfl
              simp [execOp, Act.eval, h84, go_sem]
            | 20, ho =>
              have h85 : tmps[85]?.getD undef = .bool true := hty 19 85 rfl (by obtain rfl := (Option.some.inj ho); rfl)
              obtain rfl := (Option.some.inj ho)
              clear hty ho
              refine step_pure (.agg #[.int .u8 (vk : Int), .int .i64 vn, .int .u64 (vb : Int), .string vt]) (wanted_guard rfl rfl h85) ?_ (Ext.refl _) rfl
              simp [execOp, Act.eval, h13, d0, d1, d2, d3, go_sem]
            | 21, ho =>
              have h85 : tmps[85]?.getD undef = .bool true := hty 19 85 rfl (by obtain rfl := (Option.some.inj ho); rfl)
              obtain rfl := (Option.some.inj ho)
              clear hty ho
              refine step_pure (.agg #[.int .u8 (vk : Int), .int .i64 vn, .int .u64 (vb : Int), .string vt]) (wanted_guard rfl rfl h85) ?_ (Ext.refl _) rfl
              simp [execOp, Act.eval, h15, f0, f1, f2, f3, go_sem]
            | 22, ho =>
              have h86 : tmps[86]?.getD undef = .agg #[.int .u8 (vk : Int), .int .i64 vn, .int .u64 (vb : Int), .string vt] := hty 20 86 rfl (by obtain rfl := (Option.some.inj ho); rfl)
              have h87 : tmps[87]?.getD undef = .agg #[.int .u8 (vk : Int), .int .i64 vn, .int .u64 (vb : Int), .string vt] := hty 21 87 rfl (by obtain rfl := (Option.some.inj ho); rfl)
              have h85 : tmps[85]?.getD undef = .bool true := hty 19 85 rfl (by obtain rfl := (Option.some.inj ho); rfl)
              obtain rfl := (Option.some.inj ho)
              clear hty ho
              refine step_pure (.bool true) (wanted_guard rfl rfl h85) ?_ (Ext.refl _) rfl
              simp [execOp, Act.eval, h86, h87, go_sem]
            | 23, ho =>
              have h85 : tmps[85]?.getD undef = .bool true := hty 19 85 rfl (by obtain rfl := (Option.some.inj ho); rfl)
              have h88 : tmps[88]?.getD undef = .bool true := hty 22 88 rfl (by obtain rfl := (Option.some.inj ho); rfl)
              obtain rfl := (Option.some.inj ho)
              clear hty ho
              refine step_pure (.bool true) (wanted_free rfl) ?_ (Ext.refl _) rfl
              simp [execOp, Act.eval, h85, h88, go_sem]
            | 24, ho =>
              have h89 : tmps[89]?.getD undef = .bool true := hty 23 89 rfl (by obtain rfl := (Option.some.inj ho); rfl)
              obtain rfl := (Option.some.inj ho)
              clear hty ho
              refine step_pure (.bool true) (wanted_free rfl) ?_ (Ext.refl _) rfl
              simp [execOp, Act.eval, h89, go_sem]
            | 25, ho =>
              have h90 : tmps[90]?.getD undef = .bool true := hty 24 90 rfl (by obtain rfl := (Option.some.inj ho); rfl)
              obtain rfl := (Option.some.inj ho)
              clear hty ho
              refine step_pure (.bool vi) (wanted_guard rfl rfl h90) ?_ (Ext.refl _) rfl
              simp [execOp, Act.eval, h14, go_sem]
            | 26, ho =>
              have h90 : tmps[90]?.getD undef = .bool true := hty 24 90 rfl (by obtain rfl := (Option.some.inj ho); rfl)
              obtain rfl := (Option.some.inj ho)
              clear hty ho
              refine step_pure (.bool vi) (wanted_guard rfl rfl h90) ?_ (Ext.refl _) rfl
              simp [execOp, Act.eval, h16, go_sem]
            | 27, ho =>
              have h91 : tmps[91]?.getD undef = .bool vi := hty 25 91 rfl (by obtain rfl := (Option.some.inj ho); rfl)
              have h92 : tmps[92]?.getD undef = .bool vi := hty 26 92 rfl (by obtain rfl := (Option.some.inj ho); rfl)
              have h90 : tmps[90]?.getD undef = .bool true := hty 24 90 rfl (by obtain rfl := (Option.some.inj ho); rfl)
              obtain rfl := (Option.some.inj ho)
              clear hty ho
              refine step_pure (.bool true) (wanted_guard rfl rfl h90) ?_ (Ext.refl _) rfl
              simp [execOp, Act.eval, h91, h92, go_sem]
            | 28, ho =>
              have h90 : tmps[90]?.getD undef = .bool true := hty 24 90 rfl (by obtain rfl := (Option.some.inj ho); rfl)
              have h93 : tmps[93]?.getD undef = .bool true := hty 27 93 rfl (by obtain rfl := (Option.some.inj ho); rfl)
              obtain rfl := (Option.some.inj ho)
              clear hty ho
              refine step_pure (.bool true) (wanted_free rfl) ?_ (Ext.refl _) rfl
              simp [execOp, Act.eval, h90, h93, go_sem]
            | 29, ho =>
              have h94 : tmps[94]?.getD undef = .bool true := hty 28 94 rfl (by obtain rfl := (Option.some.inj ho); rfl)
              obtain rfl := (Option.some.inj ho)
              clear hty ho
              refine step_pure (.bool true) (wanted_free rfl) ?_ (Ext.refl _) rfl
              simp [execOp, Act.eval, h94, go_sem]
            | 30, ho =>
              have h95 : tmps[95]?.getD undef = .bool true := hty 29 95 rfl (by obtain rfl := (Option.some.inj ho); rfl)
              obtain rfl := (Option.some.inj ho)
              clear hty ho
              refine step_call 7 #[] (wanted_guard rfl rfl h95) ?_ ?_
              · simp [execOp, Act.eval, go_sem]
              · exact (eawake_any _).mono fun e w' ⟨h1, h2⟩ => ⟨_, h1, h2, rfl⟩
            | 31, ho =>
              have h95 : tmps[95]?.getD undef = .bool true := hty 29 95 rfl (by obtain rfl := (Option.some.inj ho); rfl)
              have h96 : tmps[96]?.getD undef = .bool true := hty 30 96 rfl (by obtain rfl := (Option.some.inj ho); rfl)
              obtain rfl := (Option.some.inj ho)
              clear hty ho
              refine step_pure (.bool true) (wanted_free rfl) ?_ (Ext.refl _) rfl
              simp [execOp, Act.eval, h95, h96, go_sem]
            | 32, ho =>
              have h97 : tmps[97]?.getD undef = .bool true := hty 31 97 rfl (by obtain rfl := (Option.some.inj ho); rfl)
              obtain rfl := (Option.some.inj ho)
              clear hty ho
              refine step_pure (.bool true) (wanted_free rfl) ?_ (Ext.refl _) rfl
              simp [execOp, Act.eval, h97, go_sem]
            | (j + 33), ho => exact absurd ho (by simp)
          · intro tmps w8 hle hs hfr hty
            have h0 : tmps[6]?.getD undef = .bool true := hty 32 6 rfl
            have hfe := frame_eq [66, 67, 68, 69, 70, 71, 72, 73, 74, 75, 76, 77, 78, 79, 80, 81, 82, 83, 84, 85, 86, 87, 88, 89, 90, 91, 92, 93, 94, 95, 96, 97, 6] hs hfr (by kernel_rfl)
            rw [hfe]
            clear hfe hfr hs hty
            simp only [List.foldl_cons, List.foldl_nil]
            generalize tmps[66]?.getD undef = x66
            generalize tmps[67]?.getD undef = x67
            generalize tmps[68]?.getD undef = x68
            generalize tmps[69]?.getD undef = x69
            generalize tmps[70]?.getD undef = x70
            generalize tmps[71]?.getD undef = x71
            generalize tmps[72]?.getD undef = x72
            generalize tmps[73]?.getD undef = x73
            generalize tmps[74]?.getD undef = x74
            generalize tmps[75]?.getD undef = x75
            generalize tmps[76]?.getD undef = x76
            generalize tmps[77]?.getD undef = x77
            generalize tmps[78]?.getD undef = x78
            generalize tmps[79]?.getD undef = x79
            generalize tmps[80]?.getD undef = x80
            generalize tmps[81]?.getD undef = x81
            generalize tmps[82]?.getD undef = x82
            generalize tmps[83]?.getD undef = x83
            generalize tmps[84]?.getD undef = x84
            generalize tmps[85]?.getD undef = x85
            generalize tmps[86]?.getD undef = x86
            generalize tmps[87]?.getD undef = x87
            generalize tmps[88]?.getD undef = x88
            generalize tmps[89]?.getD undef = x89
            generalize tmps[90]?.getD undef = x90
            generalize tmps[91]?.getD undef = x91
            generalize tmps[92]?.getD undef = x92
            generalize tmps[93]?.getD undef = x93
            generalize tmps[94]?.getD undef = x94
            generalize tmps[95]?.getD undef = x95
            generalize tmps[96]?.getD undef = x96
            generalize tmps[97]?.getD undef = x97
            rw [h0]
            clear h0
            simp only [List.setIfInBounds_toArray, List.set_cons_succ, List.set_cons_zero]
            replace HX := hid (HX.out.trans hle)
            clear hle
            go_wp2_with fail
            go_ret
            exact ⟨rfl, HX.out⟩
end Go.Proofs.YtnldgmpfinlikaaGreat
