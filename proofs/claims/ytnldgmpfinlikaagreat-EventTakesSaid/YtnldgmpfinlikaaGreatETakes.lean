/- telltalelaw07.EventTakes answers true. Conditions: none. -/
import Derived.Test.YtnldgmpfinlikaaGreatGEP11
import Derived.Test.YtnldgmpfinlikaaGreatEAwk
import Derived.Test.YtnldgmpfinlikaaGreatGSLaw1
namespace Go.Proofs.YtnldgmpfinlikaaGreat
open Go Go.RowKit

theorem rest_known (T : List TZ) (s : ByteArray) (a b c d : Nat) (p : Int) : ((restE T s a b c d p).2.2 = 0 ∧ checkE T (restE T s a b c d p).1 = 0) ∨ (restE T s a b c d p).1 = EZ.none := by
  unfold restE
  split
  · exact .inr rfl
  · split
    · exact .inr rfl
    · split
      · exact .inr rfl
      · next h => exact .inl ⟨rfl, Decidable.not_not.1 h⟩
theorem take_known (T : List TZ) (s : ByteArray) (p : Int) : ((takeEv T s p).2.2 = 0 ∧ checkE T (takeEv T s p).1 = 0) ∨ (takeEv T s p).1 = EZ.none := by
  unfold takeEv
  split
  · exact .inr rfl
  · split
    · exact rest_known ..
    · exact .inr rfl
theorem take_le12 (T : List TZ) (s : ByteArray) (p : Int) : (takeEv T s p).1.v.length ≤ 12 := by
  rcases take_known T s p with ⟨_, h⟩ | h
  · exact (event_known h).2.2.2.2.2.1
  · rw [h]; exact Nat.zero_le _

/-- what the slots of the region hold -/
def etakesG (em eo eq : Int) (en : ByteArray) (V : List VZ) (A3 : Option Addr) (c3 : Nat) (A4 : Option Addr) (c4 : Nat) (N E : Int) : Nat → Value → World → Prop
  | 0, v, _ => v = .agg #[.int .i64 em, .int .i64 eo, .int .i64 eq, .string en, .slice A3 V.length c3]
  | 1, v, w => EventV w v (⟨em, eo, eq, en, V⟩ : EZ)
  | 2, v, _ => v = .agg #[.int .i64 em, .int .i64 eo, .int .i64 eq, .string en, .slice A4 V.length c4]
  | 3, v, _ => v = .bool true
  | 4, v, _ => v = .bool true
  | 5, v, _ => v = .int .i64 N
  | 6, v, _ => v = .int .i64 N
  | 7, v, _ => v = .bool true
  | 8, v, _ => v = .bool true
  | 9, v, _ => v = .bool true
  | 10, v, _ => v = .int .i64 E
  | 11, v, _ => v = .int .i64 E
  | 12, v, _ => v = .bool true
  | 13, v, _ => v = .bool true
  | 14, v, _ => v = .bool true
  | 15, v, _ => v = .bool true
  | 16, v, _ => v = .bool true
  | 17, v, _ => v = .bool true
  | _, _, _ => True
theorem etakesG_st (em eo eq : Int) (en : ByteArray) (V : List VZ) (A3 : Option Addr) (c3 : Nat) (A4 : Option Addr) (c4 : Nat) (N E : Int) : ∀ i9 z9 x9 y9, etakesG em eo eq en V A3 c3 A4 c4 N E i9 z9 x9 → Ext x9 y9 → etakesG em eo eq en V A3 c3 A4 c4 N E i9 z9 y9 := by
  intro i9 z9 x9 y9 h e
  unfold etakesG at *
  split at h <;> first | exact h | trivial | exact EventV.ext h e | exact fun h9 => EventV.ext (h h9) e

set_option maxRecDepth 100000 in
set_option maxHeartbeats 4000000 in
theorem etakes7_any (T : List TZ) (tv : Value) (s : ByteArray) (p : Int) (w : World) (hT : TypesAt w tv T) (hok : TypesOk T) (hs : s.size ≤ 9223372036854775807) (hp0 : -9223372036854775808 ≤ p) (hp1 : p ≤ 9223372036854775807) :
    Calls Tryz.prog 4 #[tv, .string s, .int .i64 p] w (Says w (.bool true)) := by
  have HT := hid hT
  have kov := over_any T tv w hT
  have hin := @in_small T
  have hov : overZ T = if typesIn T then 0 else 1 := rfl
  clear hT
  generalize typesIn T = IN at *
  generalize overZ T = OV at *
  cases IN
  · subst hov
    go_enter Tryz.func4, Tryz.ntmps4
    go_wp2_with fail
    refine kov.mono ?_
    rintro e w1 ⟨rfl, hx⟩
    have HX := hid hx
    clear hx
    go_wp2_with fail
    refine (eawake_any _).mono ?_
    rintro e w2 ⟨rfl, hx2⟩
    go_wp2_with fail
    go_ret
    exact ⟨rfl, HX.out.trans hx2⟩
  · subst hov
    have HSM := hin rfl hok
    by_cases h3 : 300 < s.size
    · have h3' : 300 < (s.size : Int) := by omega
      go_enter Tryz.func4, Tryz.ntmps4
      go_wp2_with fail
      refine kov.mono ?_
      rintro e w1 ⟨rfl, hx⟩
      have HX := hid hx
      clear hx
      go_wp2_with fail
      refine (eawake_any _).mono ?_
      rintro e w2 ⟨rfl, hx2⟩
      go_wp2_with fail
      go_ret
      exact ⟨rfl, HX.out.trans hx2⟩
    · have h3' : ¬ 300 < (s.size : Int) := by omega
      have kt := fun W u (hu : TypesAt W u T) => etake_any T u s p W hu HSM (by omega) hp0 hp1
      have kr := fun W (h : TypesAt W tv T) => rtakee_any T tv s p W h hok (by omega) hp0 hp1
      have hle12 := take_le12 T s p
      generalize takeEv T s p = R at *
      obtain ⟨⟨em, eo, eq, en, V⟩, N, E⟩ := R
      unfold SaysE at kt kr
      dsimp only at kt kr hle12
      go_enter Tryz.func4, Tryz.ntmps4
      go_wp2_with fail
      refine kov.mono ?_
      rintro e w1 ⟨rfl, hx⟩
      have HX := hid hx
      clear hx
      go_wp2_with fail
      refine (own6_any T tv _ (HT.out.ext HX.out) HSM).mono ?_
      rintro e w2 ⟨u2, rfl, hu2, hx⟩
      replace HX := hid (HX.out.trans hx)
      clear hx
      go_wp2_with fail
      refine (kt _ u2 hu2).mono ?_
      rintro e w3 ⟨v3, rfl, ⟨ra, rfl, hra⟩, hx⟩
      replace HX := hid (HX.out.trans hx)
      have HRA := hid hra
      obtain ⟨A3, c3, rfl, _, _, _⟩ := hra
      clear hx hu2
      have HN1 := hid (heap_alloc_new w3 (Obj.cells #[.int .i64 em, .int .i64 eo, .int .i64 eq, .string en, .slice A3 V.length c3] 34 (0, 0)))
      have HX3 := hid (HX.out.trans (Ext.alloc w3 (Obj.cells #[.int .i64 em, .int .i64 eo, .int .i64 eq, .string en, .slice A3 V.length c3] 34 (0, 0))))
      replace HRA := hid (HRA.out.ext (Ext.alloc w3 (Obj.cells #[.int .i64 em, .int .i64 eo, .int .i64 eq, .string en, .slice A3 V.length c3] 34 (0, 0))))
      go_wp2_with fail
      refine (kr _ (HT.out.ext HX3.out)).mono ?_
      rintro e w4 ⟨v4, rfl, ⟨rb, rfl, hrb⟩, hx⟩
      have HB1 := hid (hx.block HN1.out)
      replace HRA := hid (HRA.out.ext hx)
      replace HX := hid (HX3.out.trans hx)
      have HRB := hid hrb
      obtain ⟨A4, c4, rfl, _, _, _⟩ := hrb
      clear hx HN1 HX3
      obtain ⟨B, hB⟩ : ∃ B, B = w3.heap.size := ⟨_, rfl⟩
      rw [← hB] at HB1 ⊢
      clear hB
      have HB2 := hid (heap_alloc_new w4 (Obj.cells #[.int .i64 em, .int .i64 eo, .int .i64 eq, .string en, .slice A4 V.length c4] 25 (0, 0)))
      have HXA := hid (Ext.alloc w4 (Obj.cells #[.int .i64 em, .int .i64 eo, .int .i64 eq, .string en, .slice A4 V.length c4] 25 (0, 0)))
      replace HB1 := hid (HXA.out.block HB1.out)
      replace HRA := hid (HRA.out.ext HXA.out)
      replace HRB := hid (HRB.out.ext HXA.out)
      replace HX := hid (HX.out.trans HXA.out)
      clear HXA
      obtain ⟨B2, hB2⟩ : ∃ B, B = w4.heap.size := ⟨_, rfl⟩
      rw [← hB2] at HB2
      have HB2' := hid hB2
      clear hB2
      go_wp2_with fail
      rw [← HB2'.out]
      generalize (w4.alloc (Obj.cells #[.int .i64 em, .int .i64 eo, .int .i64 eq, .string en, .slice A4 V.length c4] 25 (0, 0))) = w5 at *
      refine wp_region_slots Ext (etakesG em eo eq en V A3 c3 A4 c4 N E) (by kernel_rfl) Ext.trans Ext.refl (Ext.drew _) (etakesG_st _ _ _ _ _ _ _ _ _ _ _) (by kernel_rfl) ?_ ?_
      · intro tmps wr hle hfr j o9 ho hty
        have h7 : tmps[7]?.getD undef = .pointer (some ⟨B, 0, none⟩) := hfr 7 (by kernel_rfl)
        have h8 : tmps[8]?.getD undef = .int .i64 N := hfr 8 (by kernel_rfl)
        have h9 : tmps[9]?.getD undef = .int .i64 E := hfr 9 (by kernel_rfl)
        have h10 : tmps[10]?.getD undef = .pointer (some ⟨B2, 0, none⟩) := hfr 10 (by kernel_rfl)
        have h11 : tmps[11]?.getD undef = .int .i64 N := hfr 11 (by kernel_rfl)
        have h12 : tmps[12]?.getD undef = .int .i64 E := hfr 12 (by kernel_rfl)
        obtain ⟨⟨a0, a1, a2, a3, a4⟩, _, _⟩ := box5 (hle.block HB1.out)
        obtain ⟨⟨b0, b1, b2, b3, b4⟩, _, _⟩ := box5 (hle.block HB2.out)
        clear hfr
        match j, ho with
        | 0, ho =>
          obtain rfl := (Option.some.inj ho)
          clear hty ho
          refine step_pure (.agg #[.int .i64 em, .int .i64 eo, .int .i64 eq, .string en, .slice A3 V.length c3]) (wanted_free rfl) ?_ (Ext.refl _) rfl
          simp [execOp, Act.eval, h7, a0, a1, a2, a3, a4, go_sem]
        | 1, ho =>
          have h39 : tmps[39]?.getD undef = .agg #[.int .i64 em, .int .i64 eo, .int .i64 eq, .string en, .slice A3 V.length c3] := hty 0 39 rfl (by obtain rfl := (Option.some.inj ho); rfl)
          obtain rfl := (Option.some.inj ho)
          clear hty ho
          refine step_call 19 #[.agg #[.int .i64 em, .int .i64 eo, .int .i64 eq, .string en, .slice A3 V.length c3]] (wanted_free rfl) ?_ ?_
          · simp [execOp, Act.eval, h39, go_sem]
          · exact (eback_any ⟨em, eo, eq, en, V⟩ _ _ (HRA.out.ext hle) hle12).mono fun e w' ⟨u, h1, h2, h3⟩ => ⟨_, h1, h3, ⟨u, rfl, ValsAt.of_owned h2⟩⟩
        | 2, ho =>
          obtain rfl := (Option.some.inj ho)
          clear hty ho
          refine step_pure (.agg #[.int .i64 em, .int .i64 eo, .int .i64 eq, .string en, .slice A4 V.length c4]) (wanted_free rfl) ?_ (Ext.refl _) rfl
          simp [execOp, Act.eval, h10, b0, b1, b2, b3, b4, go_sem]
        | 3, ho =>
          have h40 : EventV wr (tmps[40]?.getD undef) (⟨em, eo, eq, en, V⟩ : EZ) := hty 1 40 rfl (by obtain rfl := (Option.some.inj ho); rfl)
          have h41 : tmps[41]?.getD undef = .agg #[.int .i64 em, .int .i64 eo, .int .i64 eq, .string en, .slice A4 V.length c4] := hty 2 41 rfl (by obtain rfl := (Option.some.inj ho); rfl)
          obtain rfl := (Option.some.inj ho)
          clear hty ho
          obtain ⟨r9, e9, hv9⟩ := h40
          refine step_call 18 #[.agg #[.int .i64 em, .int .i64 eo, .int .i64 eq, .string en, r9], .agg #[.int .i64 em, .int .i64 eo, .int .i64 eq, .string en, .slice A4 V.length c4]] (wanted_free rfl) ?_ ?_
          · simp [execOp, Act.eval, e9, h41, go_sem]
          · exact (rsame7_any ⟨em, eo, eq, en, V⟩ ⟨em, eo, eq, en, V⟩ r9 _ _ hv9 (HRB.out.ext hle)).mono fun e w' ⟨h1, h2⟩ => ⟨_, h1, h2, congrArg Value.bool ((sameEv_iff _ _).2 rfl)⟩
        | 4, ho =>
          have h42 : tmps[42]?.getD undef = .bool true := hty 3 42 rfl (by obtain rfl := (Option.some.inj ho); rfl)
          obtain rfl := (Option.some.inj ho)
          clear hty ho
          refine step_pure (.bool true) (wanted_free rfl) ?_ (Ext.refl _) rfl
          simp [execOp, Act.eval, h42, go_sem]
        | 5, ho =>
          have h43 : tmps[43]?.getD undef = .bool true := hty 4 43 rfl (by obtain rfl := (Option.some.inj ho); rfl)
          obtain rfl := (Option.some.inj ho)
          clear hty ho
          refine step_pure (.int .i64 N) (wanted_guard rfl rfl h43) ?_ (Ext.refl _) rfl
          simp [execOp, Act.eval, h8, go_sem]
        | 6, ho =>
          have h43 : tmps[43]?.getD undef = .bool true := hty 4 43 rfl (by obtain rfl := (Option.some.inj ho); rfl)
          obtain rfl := (Option.some.inj ho)
          clear hty ho
          refine step_pure (.int .i64 N) (wanted_guard rfl rfl h43) ?_ (Ext.refl _) rfl
          simp [execOp, Act.eval, h11, go_sem]
        | 7, ho =>
          have h44 : tmps[44]?.getD undef = .int .i64 N := hty 5 44 rfl (by obtain rfl := (Option.some.inj ho); rfl)
          have h45 : tmps[45]?.getD undef = .int .i64 N := hty 6 45 rfl (by obtain rfl := (Option.some.inj ho); rfl)
          have h43 : tmps[43]?.getD undef = .bool true := hty 4 43 rfl (by obtain rfl := (Option.some.inj ho); rfl)
          obtain rfl := (Option.some.inj ho)
          clear hty ho
          refine step_pure (.bool true) (wanted_guard rfl rfl h43) ?_ (Ext.refl _) rfl
          simp [execOp, Act.eval, h44, h45, go_sem]
        | 8, ho =>
          have h43 : tmps[43]?.getD undef = .bool true := hty 4 43 rfl (by obtain rfl := (Option.some.inj ho); rfl)
          have h46 : tmps[46]?.getD undef = .bool true := hty 7 46 rfl (by obtain rfl := (Option.some.inj ho); rfl)
          obtain rfl := (Option.some.inj ho)
          clear hty ho
          refine step_pure (.bool true) (wanted_free rfl) ?_ (Ext.refl _) rfl
          simp [execOp, Act.eval, h43, h46, go_sem]
        | 9, ho =>
          have h47 : tmps[47]?.getD undef = .bool true := hty 8 47 rfl (by obtain rfl := (Option.some.inj ho); rfl)
          obtain rfl := (Option.some.inj ho)
          clear hty ho
          refine step_pure (.bool true) (wanted_free rfl) ?_ (Ext.refl _) rfl
          simp [execOp, Act.eval, h47, go_sem]
        | 10, ho =>
          have h48 : tmps[48]?.getD undef = .bool true := hty 9 48 rfl (by obtain rfl := (Option.some.inj ho); rfl)
          obtain rfl := (Option.some.inj ho)
          clear hty ho
          refine step_pure (.int .i64 E) (wanted_guard rfl rfl h48) ?_ (Ext.refl _) rfl
          simp [execOp, Act.eval, h9, go_sem]
        | 11, ho =>
          have h48 : tmps[48]?.getD undef = .bool true := hty 9 48 rfl (by obtain rfl := (Option.some.inj ho); rfl)
          obtain rfl := (Option.some.inj ho)
          clear hty ho
          refine step_pure (.int .i64 E) (wanted_guard rfl rfl h48) ?_ (Ext.refl _) rfl
          simp [execOp, Act.eval, h12, go_sem]
        | 12, ho =>
          have h49 : tmps[49]?.getD undef = .int .i64 E := hty 10 49 rfl (by obtain rfl := (Option.some.inj ho); rfl)
          have h50 : tmps[50]?.getD undef = .int .i64 E := hty 11 50 rfl (by obtain rfl := (Option.some.inj ho); rfl)
          have h48 : tmps[48]?.getD undef = .bool true := hty 9 48 rfl (by obtain rfl := (Option.some.inj ho); rfl)
          obtain rfl := (Option.some.inj ho)
          clear hty ho
          refine step_pure (.bool true) (wanted_guard rfl rfl h48) ?_ (Ext.refl _) rfl
          simp [execOp, Act.eval, h49, h50, go_sem]
        | 13, ho =>
          have h48 : tmps[48]?.getD undef = .bool true := hty 9 48 rfl (by obtain rfl := (Option.some.inj ho); rfl)
          have h51 : tmps[51]?.getD undef = .bool true := hty 12 51 rfl (by obtain rfl := (Option.some.inj ho); rfl)
          obtain rfl := (Option.some.inj ho)
          clear hty ho
          refine step_pure (.bool true) (wanted_free rfl) ?_ (Ext.refl _) rfl
          simp [execOp, Act.eval, h48, h51, go_sem]
        | 14, ho =>
          have h52 : tmps[52]?.getD undef = .bool true := hty 13 52 rfl (by obtain rfl := (Option.some.inj ho); rfl)
          obtain rfl := (Option.some.inj ho)
          clear hty ho
          refine step_pure (.bool true) (wanted_free rfl) ?_ (Ext.refl _) rfl
          simp [execOp, Act.eval, h52, go_sem]
        | 15, ho =>
          have h53 : tmps[53]?.getD undef = .bool true := hty 14 53 rfl (by obtain rfl := (Option.some.inj ho); rfl)
          obtain rfl := (Option.some.inj ho)
          clear hty ho
          refine step_call 7 #[] (wanted_guard rfl rfl h53) ?_ ?_
          · simp [execOp, Act.eval, go_sem]
          · exact (eawake_any _).mono fun e w' ⟨h1, h2⟩ => ⟨_, h1, h2, rfl⟩
        | 16, ho =>
          have h53 : tmps[53]?.getD undef = .bool true := hty 14 53 rfl (by obtain rfl := (Option.some.inj ho); rfl)
          have h54 : tmps[54]?.getD undef = .bool true := hty 15 54 rfl (by obtain rfl := (Option.some.inj ho); rfl)
          obtain rfl := (Option.some.inj ho)
          clear hty ho
          refine step_pure (.bool true) (wanted_free rfl) ?_ (Ext.refl _) rfl
          simp [execOp, Act.eval, h53, h54, go_sem]
        | 17, ho =>
          have h55 : tmps[55]?.getD undef = .bool true := hty 16 55 rfl (by obtain rfl := (Option.some.inj ho); rfl)
          obtain rfl := (Option.some.inj ho)
          clear hty ho
          refine step_pure (.bool true) (wanted_free rfl) ?_ (Ext.refl _) rfl
          simp [execOp, Act.eval, h55, go_sem]
        | (j + 18), ho => exact absurd ho (by simp)
      · intro tmps w7 hle hs hfr hty
        have h0 : tmps[6]?.getD undef = .bool true := hty 17 6 rfl
        have hfe := frame_eq [39, 40, 41, 42, 43, 44, 45, 46, 47, 48, 49, 50, 51, 52, 53, 54, 55, 6] hs hfr (by kernel_rfl)
        rw [hfe]
        clear hfe hfr hs hty
        simp only [List.foldl_cons, List.foldl_nil]
        generalize tmps[39]?.getD undef = x39
        generalize tmps[40]?.getD undef = x40
        generalize tmps[41]?.getD undef = x41
        generalize tmps[42]?.getD undef = x42
        generalize tmps[43]?.getD undef = x43
        generalize tmps[44]?.getD undef = x44
        generalize tmps[45]?.getD undef = x45
        generalize tmps[46]?.getD undef = x46
        generalize tmps[47]?.getD undef = x47
        generalize tmps[48]?.getD undef = x48
        generalize tmps[49]?.getD undef = x49
        generalize tmps[50]?.getD undef = x50
        generalize tmps[51]?.getD undef = x51
        generalize tmps[52]?.getD undef = x52
        generalize tmps[53]?.getD undef = x53
        generalize tmps[54]?.getD undef = x54
        generalize tmps[55]?.getD undef = x55
        rw [h0]
        clear h0
        simp only [List.setIfInBounds_toArray, List.set_cons_succ, List.set_cons_zero]
        replace HX := hid (HX.out.trans hle)
        clear hle
        go_wp2_with fail
        go_ret
        exact ⟨rfl, HX.out⟩
end Go.Proofs.YtnldgmpfinlikaaGreat
