/- telltalelaw06.SchemaChecks answers true. Conditions: none. -/
import Derived.Test.YtggafdimbddflaaSFits
namespace Go.Proofs.Ytggafdimbddflaa
open Go Go.RowKit

/-- what the slots of the region hold -/
def schksG (L0 L1 : List TZ) (N9 : ByteArray) (F9 : List FZ) (b9 SM : Bool) (A0 A1 A5 A7 A8 : Option Addr) (k0 k1 k5 c7 c8 B2 _B6 _B8 : Nat) (CZ : Int) (PS : ByteArray) : Nat → Value → World → Prop
  | 0, v, _ => v = .bool b9
  | 1, v, _ => v = .bool b9
  | 2, v, _ => v = .bool false
  | 3, v, _ => v = .bool false
  | 4, v, _ => v = .agg #[.string N9, .slice A7 F9.length c7]
  | 5, v, w => TypesAt w v [(⟨N9, F9⟩ : TZ)]
  | 6, v, w => TypesAt w v [(⟨N9, F9⟩ : TZ)]
  | 7, v, _ => v = .agg #[.string N9, .slice A8 F9.length c8]
  | 8, v, w => TypesAt w v [(⟨N9, F9⟩ : TZ)]
  | 9, v, _ => v = .bool true
  | 10, v, _ => v = .bool false
  | 11, v, _ => v = .bool false
  | 12, v, _ => v = .bool false
  | 13, v, _ => v = .slice A5 L0.length k5
  | 14, v, _ => v = .int .i64 CZ
  | 15, v, _ => v = .pointer (some ⟨B2, 0, none⟩)
  | 16, v, _ => v = .slice A0 L0.length k0
  | 17, v, _ => v = .int .i64 CZ
  | 18, v, _ => v = .bool false
  | 19, v, _ => v = .bool false
  | 20, v, _ => v = .bool false
  | 21, v, _ => v = .slice A5 L0.length k5
  | 22, v, _ => v = .string PS
  | 23, v, _ => v = .pointer (some ⟨B2, 0, none⟩)
  | 24, v, _ => v = .slice A0 L0.length k0
  | 25, v, _ => v = .string PS
  | 26, v, _ => v = .bool false
  | 27, v, _ => v = .bool false
  | 28, v, _ => v = .bool false
  | 29, v, _ => v = .slice A5 L0.length k5
  | 30, v, _ => v = .pointer (some ⟨B2, 1, none⟩)
  | 31, v, _ => v = .slice A1 L1.length k1
  | 32, v, w => TypesAt w v L1
  | 33, v, _ => v = .bool SM
  | 34, v, _ => v = .pointer (some ⟨B2, 0, none⟩)
  | 35, v, _ => v = .slice A0 L0.length k0
  | 36, v, _ => v = .pointer (some ⟨B2, 1, none⟩)
  | 37, v, _ => v = .slice A1 L1.length k1
  | 38, v, _ => v = .bool SM
  | 39, v, _ => v = .bool false
  | 40, v, _ => v = .bool false
  | _, _, _ => True
theorem schksG_st (L0 L1 : List TZ) (N9 : ByteArray) (F9 : List FZ) (b9 SM : Bool) (A0 A1 A5 A7 A8 : Option Addr) (k0 k1 k5 c7 c8 B2 B6 B8 : Nat) (CZ : Int) (PS : ByteArray) : ∀ i9 z9 x9 y9, schksG L0 L1 N9 F9 b9 SM A0 A1 A5 A7 A8 k0 k1 k5 c7 c8 B2 B6 B8 CZ PS i9 z9 x9 → Ext x9 y9 → schksG L0 L1 N9 F9 b9 SM A0 A1 A5 A7 A8 k0 k1 k5 c7 c8 B2 B6 B8 CZ PS i9 z9 y9 := by
  intro i9 z9 x9 y9 h e
  unfold schksG at *
  split at h <;> first | exact h | trivial | exact TypesAt.ext h e | exact fun h9 => TypesAt.ext (h h9) e

theorem find_small {L : List TZ} {name : ByteArray} (h : TypesSmall L) : TypesSmall [(findZ name L).1] := by
  refine ⟨by simp, fun t ht => ?_⟩
  rw [List.mem_singleton.1 ht]
  clear ht
  have h2 := h.2
  clear h
  induction L with
  | nil => exact ⟨Nat.zero_le _, Nat.zero_le _, fun f hf => by cases hf⟩
  | cons x r ih =>
    unfold findZ
    by_cases e : x.n = name
    · rw [if_pos e]; exact h2 x (List.mem_cons_self ..)
    · rw [if_neg e]; exact ih (fun y hy => h2 y (List.mem_cons_of_mem _ hy))

set_option maxRecDepth 100000 in
set_option maxHeartbeats 6000000 in
theorem schecks6_any (L0 L1 : List TZ) (A0 A1 : Option Addr) (k0 k1 : Nat) (name : ByteArray) (w : World) (ht0 : TypesAt w (.slice A0 L0.length k0) L0) (ht1 : TypesAt w (.slice A1 L1.length k1) L1) (hok0 : TypesOk L0) (hok1 : TypesOk L1) (hnm : name.size ≤ 9223372036854775807) :
    Calls Try.prog 3 #[.agg #[.slice A0 L0.length k0, .slice A1 L1.length k1], .string name] w (Says w (.bool true)) := by
  have HT0 := hid ht0
  have HT1 := hid ht1
  have HK0 := hid hok0
  have HK1 := hid hok1
  have hml0 : (L0.length : Int) ≤ 9223372036854775807 := by
    obtain ⟨A, c, e, h1, h2, _⟩ := ht0
    unfold maxLen at h2
    omega
  clear ht0 ht1 hok0 hok1
  have ko0 := fun W (h : Ext w W) => over_any L0 _ W (HT0.out.ext h)
  have ko1 := fun W (h : Ext w W) => over_any L1 _ W (HT1.out.ext h)
  have hi0 := @in_small L0
  have hi1 := @in_small L1
  have e0 : overZ L0 = if typesIn L0 then 0 else 1 := rfl
  have e1 : overZ L1 = if typesIn L1 then 0 else 1 := rfl
  generalize typesIn L0 = I0 at *
  generalize typesIn L1 = I1 at *
  generalize overZ L0 = O0 at *
  generalize overZ L1 = O1 at *
  cases I0
  · subst e0
    clear ko1
    go_enter Try.func3, Try.ntmps3
    go_wp2_with fail
    refine (ko0 _ (Ext.alloc _ _)).mono ?_
    rintro e w1 ⟨rfl, hx⟩
    have HX := hid ((Ext.alloc w _).trans hx)
    clear hx
    go_wp2_with fail
    refine (sawake_any _).mono ?_
    rintro e w9 ⟨rfl, hx9⟩
    go_wp2_with fail
    go_ret
    exact ⟨rfl, HX.out.trans hx9⟩
  · subst e0
    have HS0 := hid (hi0 rfl HK0.out)
    cases I1
    · subst e1
      go_enter Try.func3, Try.ntmps3
      go_wp2_with fail
      refine (ko0 _ (Ext.alloc _ _)).mono ?_
      rintro e w1 ⟨rfl, hx⟩
      have HX := hid ((Ext.alloc w _).trans hx)
      have HB := hid (hx.block (heap_alloc_new w _))
      obtain ⟨⟨b0, b1⟩, _, _⟩ := box2 HB.out
      clear hx
      go_wp2_with fail
      refine (ko1 _ HX.out).mono ?_
      rintro e w2 ⟨rfl, hx⟩
      replace HX := hid (HX.out.trans hx)
      clear hx
      go_wp2_with fail
      refine (sawake_any _).mono ?_
      rintro e w9 ⟨rfl, hx9⟩
      go_wp2_with fail
      go_ret
      exact ⟨rfl, HX.out.trans hx9⟩
    · subst e1
      have HS1 := hid (hi1 rfl HK1.out)
      clear hi0 hi1
      by_cases h40 : 40 < name.size
      · have h40' : 40 < (name.size : Int) := by omega
        go_enter Try.func3, Try.ntmps3
        go_wp2_with fail
        refine (ko0 _ (Ext.alloc _ _)).mono ?_
        rintro e w1 ⟨rfl, hx⟩
        have HX := hid ((Ext.alloc w _).trans hx)
        have HB := hid (hx.block (heap_alloc_new w _))
        obtain ⟨⟨b0, b1⟩, _, _⟩ := box2 HB.out
        clear hx
        go_wp2_with fail
        refine (ko1 _ HX.out).mono ?_
        rintro e w2 ⟨rfl, hx⟩
        replace HX := hid (HX.out.trans hx)
        clear hx
        go_wp2_with fail
        refine (sawake_any _).mono ?_
        rintro e w9 ⟨rfl, hx9⟩
        go_wp2_with fail
        go_ret
        exact ⟨rfl, HX.out.trans hx9⟩
      · have h40' : ¬ 40 < (name.size : Int) := by omega
        replace h40 : name.size ≤ 40 := by omega
        go_enter Try.func3, Try.ntmps3
        go_wp2_with fail
        refine (ko0 _ (Ext.alloc _ _)).mono ?_
        rintro e w1 ⟨rfl, hx⟩
        have HX := hid ((Ext.alloc w _).trans hx)
        have HB := hid (hx.block (heap_alloc_new w _))
        obtain ⟨⟨b0, b1⟩, _, _⟩ := box2 HB.out
        clear hx
        go_wp2_with fail
        refine (ko1 _ HX.out).mono ?_
        rintro e w2 ⟨rfl, hx⟩
        replace HX := hid (HX.out.trans hx)
        replace HB := hid (hx.block HB.out)
        clear hx ko0 ko1 b0 b1
        obtain ⟨⟨b0, b1⟩, _, _⟩ := box2 HB.out
        obtain ⟨B2, hB⟩ : ∃ B, B = w.heap.size := ⟨_, rfl⟩
        rw [← hB] at HB b0 b1 ⊢
        clear hB
        replace HT0 := hid (HT0.out.ext HX.out)
        replace HT1 := hid (HT1.out.ext HX.out)
        go_wp2_with fail
        refine (own6_any L0 _ _ HT0.out HS0.out).mono ?_
        rintro e w3 ⟨v5, rfl, ht5, hx⟩
        have HO := hid ht5
        obtain ⟨A5, k5, rfl, _, _, _⟩ := ht5
        replace HX := hid (HX.out.trans hx)
        replace HB := hid (hx.block HB.out)
        replace HT0 := hid (HT0.out.ext hx)
        replace HT1 := hid (HT1.out.ext hx)
        clear hx b0 b1
        obtain ⟨⟨b0, b1⟩, _, _⟩ := box2 HB.out
        have HS9 := hid (find_small (name := name) HS0.out)
        have kf1 := fun W (h : TypesAt W (.slice A5 L0.length k5) L0) => sfind_any L0 _ name W h HS0.out h40
        have kf2 := fun W (h : TypesAt W (.slice A0 L0.length k0) L0) => rfinds_any L0 _ name W h
        generalize findZ name L0 = FZ9 at *
        obtain ⟨⟨N9, F9⟩, b9⟩ := FZ9
        dsimp only at *
        go_wp2_with fail
        refine (kf1 _ HO.out).mono ?_
        rintro e w4 ⟨v7, rfl, ⟨r7, rfl, hf7⟩, hx⟩
        have HF7 := hid hf7
        obtain ⟨A7, c7, rfl, _, _, _⟩ := hf7
        replace HX := hid (HX.out.trans hx)
        replace HB := hid (hx.block HB.out)
        replace HT0 := hid (HT0.out.ext hx)
        replace HT1 := hid (HT1.out.ext hx)
        replace HO := hid (HO.out.ext hx)
        clear hx b0 b1 kf1
        obtain ⟨⟨b0, b1⟩, _, _⟩ := box2 HB.out
        dsimp only at *
        go_wp2_with fail
        have HB6 := hid (heap_alloc_new w4 (Obj.cells #[.string N9, .slice A7 F9.length c7] 30 (0, 0)))
        have HA6 := hid (Ext.alloc w4 (Obj.cells #[.string N9, .slice A7 F9.length c7] 30 (0, 0)))
        refine (kf2 _ (HT0.out.ext HA6.out)).mono ?_
        rintro e w5 ⟨v8, rfl, ⟨r8, rfl, hf8⟩, hx⟩
        have HF8 := hid hf8
        obtain ⟨A8, c8, rfl, _, _, _⟩ := hf8
        have hx' := HA6.out.trans hx
        replace HB6 := hid (hx.block HB6.out)
        replace HX := hid (HX.out.trans hx')
        replace HB := hid (hx'.block HB.out)
        replace HT0 := hid (HT0.out.ext hx')
        replace HT1 := hid (HT1.out.ext hx')
        replace HO := hid (HO.out.ext hx')
        replace HF7 := hid (HF7.out.ext hx')
        clear hx hx' b0 b1 kf2 HA6
        obtain ⟨⟨b0, b1⟩, _, _⟩ := box2 HB.out
        obtain ⟨B6, hB⟩ : ∃ B, B = w4.heap.size := ⟨_, rfl⟩
        rw [← hB] at HB6 ⊢
        clear hB
        dsimp only at *
        go_wp2_with fail
        have HB8 := hid (heap_alloc_new w5 (Obj.cells #[.string N9, .slice A8 F9.length c8] 35 (0, 0)))
        have hx := Ext.alloc w5 (Obj.cells #[.string N9, .slice A8 F9.length c8] 35 (0, 0))
        obtain ⟨w6, hw6⟩ : ∃ w6, w6 = w5.alloc (Obj.cells #[.string N9, .slice A8 F9.length c8] 35 (0, 0)) := ⟨_, rfl⟩
        obtain ⟨B8, hB⟩ : ∃ B, B = w5.heap.size := ⟨_, rfl⟩
        rw [← hw6] at HB8 hx ⊢
        rw [← hB] at HB8 ⊢
        replace HX := hid (HX.out.trans hx)
        have HB2 := hid (hx.block HB.out)
        replace HB6 := hid (hx.block HB6.out)
        replace HT0 := hid (HT0.out.ext hx)
        replace HT1 := hid (HT1.out.ext hx)
        replace HO := hid (HO.out.ext hx)
        replace HF7 := hid (HF7.out.ext hx)
        replace HF8 := hid (HF8.out.ext hx)
        clear hx hw6 hB HB b0 b1
        obtain ⟨CZ, hCZ⟩ : ∃ x, x = checkZ L0 := ⟨_, rfl⟩
        obtain ⟨PS, hPS⟩ : ∃ x, x = bytesA (printZ L0) := ⟨_, rfl⟩
        obtain ⟨SM, hSM⟩ : ∃ x, x = sameL L0 L1 := ⟨_, rfl⟩
        have HCZ := hid hCZ.symm
        have HPS := hid hPS.symm
        have HSM := hid hSM.symm
        clear hCZ hPS hSM
        refine wp_region_slots Ext (schksG L0 L1 N9 F9 b9 SM A0 A1 A5 A7 A8 k0 k1 k5 c7 c8 B2 B6 B8 CZ PS) (by kernel_rfl) Ext.trans Ext.refl (Ext.drew _) (schksG_st _ _ _ _ _ _ _ _ _ _ _ _ _ _ _ _ _ _ _ _ _ ) (by kernel_rfl) ?_ ?_
        · intro tmps wr hle hfr j o9 ho hty
          have h2 : tmps[2]?.getD undef = .pointer (some ⟨B2, 0, none⟩) := hfr 2 (by kernel_rfl)
          have h5 : tmps[5]?.getD undef = .slice A5 L0.length k5 := hfr 5 (by kernel_rfl)
          have h6 : tmps[6]?.getD undef = .pointer (some ⟨B6, 0, none⟩) := hfr 6 (by kernel_rfl)
          have h7 : tmps[7]?.getD undef = .bool b9 := hfr 7 (by kernel_rfl)
          have h8 : tmps[8]?.getD undef = .pointer (some ⟨B8, 0, none⟩) := hfr 8 (by kernel_rfl)
          have h9 : tmps[9]?.getD undef = .bool b9 := hfr 9 (by kernel_rfl)
          obtain ⟨⟨x0, x1⟩, _, _⟩ := box2 (hle.block HB2.out)
          obtain ⟨⟨y0, y1⟩, _, _⟩ := box2 (hle.block HB6.out)
          obtain ⟨⟨z0, z1⟩, _, _⟩ := box2 (hle.block HB8.out)
          clear hfr
          match j, ho with
          | 0, ho =>
            obtain rfl := (Option.some.inj ho)
            clear hty ho
            refine step_pure (.bool b9) (wanted_free rfl) ?_ (Ext.refl _) rfl
            simp [execOp, Act.eval, h7, go_sem]
          | 1, ho =>
            obtain rfl := (Option.some.inj ho)
            clear hty ho
            refine step_pure (.bool b9) (wanted_free rfl) ?_ (Ext.refl _) rfl
            simp [execOp, Act.eval, h9, go_sem]
          | 2, ho =>
            have h47 : tmps[47]?.getD undef = .bool b9 := hty 0 47 rfl (by obtain rfl := (Option.some.inj ho); rfl)
            have h48 : tmps[48]?.getD undef = .bool b9 := hty 1 48 rfl (by obtain rfl := (Option.some.inj ho); rfl)
            obtain rfl := (Option.some.inj ho)
            clear hty ho
            refine step_pure (.bool false) (wanted_free rfl) ?_ (Ext.refl _) rfl
            simp [execOp, Act.eval, h47, h48, go_sem]
          | 3, ho =>
            have h49 : tmps[49]?.getD undef = .bool false := hty 2 49 rfl (by obtain rfl := (Option.some.inj ho); rfl)
            obtain rfl := (Option.some.inj ho)
            clear hty ho
            refine step_pure (.bool false) (wanted_free rfl) ?_ (Ext.refl _) rfl
            simp [execOp, Act.eval, h49, go_sem]
          | 4, ho =>
            have h50 : tmps[50]?.getD undef = .bool false := hty 3 50 rfl (by obtain rfl := (Option.some.inj ho); rfl)
            obtain rfl := (Option.some.inj ho)
            clear hty ho
            refine step_pure (.agg #[.string N9, .slice A7 F9.length c7]) (wanted_guard rfl rfl h50) ?_ (Ext.refl _) rfl
            simp [execOp, Act.eval, h6, y0, y1, go_sem]
          | 5, ho =>
            have h51 : tmps[51]?.getD undef = .agg #[.string N9, .slice A7 F9.length c7] := hty 4 51 rfl (by obtain rfl := (Option.some.inj ho); rfl)
            have h50 : tmps[50]?.getD undef = .bool false := hty 3 50 rfl (by obtain rfl := (Option.some.inj ho); rfl)
            obtain rfl := (Option.some.inj ho)
            clear hty ho
            refine step_make (.slice (some ⟨wr.heap.size, 0, none⟩) 1 1) (wr.alloc (Obj.cells #[.string N9, .slice A7 F9.length c7] 30 (0, 0))) (wanted_guard rfl rfl h50) ?_ (Ext.alloc _ _) ?_
            · simp [execOp, Act.eval, h51, go_sem]
            · exact TypesAt.of_block (heap_alloc_new wr _) ((HF7.out.ext hle).ext (Ext.alloc _ _))
          | 6, ho =>
            have h52 : TypesAt wr (tmps[52]?.getD undef) [(⟨N9, F9⟩ : TZ)] := hty 5 52 rfl (by obtain rfl := (Option.some.inj ho); rfl)
            have h50 : tmps[50]?.getD undef = .bool false := hty 3 50 rfl (by obtain rfl := (Option.some.inj ho); rfl)
            obtain rfl := (Option.some.inj ho)
            clear hty ho
            refine step_call 13 #[tmps[52]?.getD undef] (wanted_guard rfl rfl h50) ?_ ?_
            · simp [execOp, Act.eval, go_sem]
            · exact (back6_any _ _ _ h52 HS9.out).mono fun e w' ⟨u, h1, h2, h3⟩ => ⟨u, h1, h3, h2⟩
          | 7, ho =>
            have h50 : tmps[50]?.getD undef = .bool false := hty 3 50 rfl (by obtain rfl := (Option.some.inj ho); rfl)
            obtain rfl := (Option.some.inj ho)
            clear hty ho
            refine step_pure (.agg #[.string N9, .slice A8 F9.length c8]) (wanted_guard rfl rfl h50) ?_ (Ext.refl _) rfl
            simp [execOp, Act.eval, h8, z0, z1, go_sem]
          | 8, ho =>
            have h54 : tmps[54]?.getD undef = .agg #[.string N9, .slice A8 F9.length c8] := hty 7 54 rfl (by obtain rfl := (Option.some.inj ho); rfl)
            have h50 : tmps[50]?.getD undef = .bool false := hty 3 50 rfl (by obtain rfl := (Option.some.inj ho); rfl)
            obtain rfl := (Option.some.inj ho)
            clear hty ho
            refine step_make (.slice (some ⟨wr.heap.size, 0, none⟩) 1 1) (wr.alloc (Obj.cells #[.string N9, .slice A8 F9.length c8] 35 (0, 0))) (wanted_guard rfl rfl h50) ?_ (Ext.alloc _ _) ?_
            · simp [execOp, Act.eval, h54, go_sem]
            · exact TypesAt.of_block (heap_alloc_new wr _) ((HF8.out.ext hle).ext (Ext.alloc _ _))
          | 9, ho =>
            have h53 : TypesAt wr (tmps[53]?.getD undef) [(⟨N9, F9⟩ : TZ)] := hty 6 53 rfl (by obtain rfl := (Option.some.inj ho); rfl)
            have h55 : TypesAt wr (tmps[55]?.getD undef) [(⟨N9, F9⟩ : TZ)] := hty 8 55 rfl (by obtain rfl := (Option.some.inj ho); rfl)
            have h50 : tmps[50]?.getD undef = .bool false := hty 3 50 rfl (by obtain rfl := (Option.some.inj ho); rfl)
            obtain rfl := (Option.some.inj ho)
            clear hty ho
            refine step_call 12 #[tmps[53]?.getD undef, tmps[55]?.getD undef] (wanted_guard rfl rfl h50) ?_ ?_
            · simp [execOp, Act.eval, go_sem]
            · exact (rsame6_any _ _ _ _ _ h53 h55).mono fun e w' ⟨h1, h2⟩ => ⟨_, h1, h2, by rw [(sameL_iff _ _).2 rfl]; rfl⟩
          | 10, ho =>
            have h56 : tmps[56]?.getD undef = .bool true := hty 9 56 rfl (by obtain rfl := (Option.some.inj ho); rfl)
            have h50 : tmps[50]?.getD undef = .bool false := hty 3 50 rfl (by obtain rfl := (Option.some.inj ho); rfl)
            obtain rfl := (Option.some.inj ho)
            clear hty ho
            refine step_pure (.bool false) (wanted_guard rfl rfl h50) ?_ (Ext.refl _) rfl
            simp [execOp, Act.eval, h56, go_sem]
          | 11, ho =>
            have h50 : tmps[50]?.getD undef = .bool false := hty 3 50 rfl (by obtain rfl := (Option.some.inj ho); rfl)
            have h57 : tmps[57]?.getD undef = .bool false := hty 10 57 rfl (by obtain rfl := (Option.some.inj ho); rfl)
            obtain rfl := (Option.some.inj ho)
            clear hty ho
            refine step_pure (.bool false) (wanted_free rfl) ?_ (Ext.refl _) rfl
            simp [execOp, Act.eval, h50, h57, go_sem]
          | 12, ho =>
            have h58 : tmps[58]?.getD undef = .bool false := hty 11 58 rfl (by obtain rfl := (Option.some.inj ho); rfl)
            obtain rfl := (Option.some.inj ho)
            clear hty ho
            refine step_pure (.bool false) (wanted_free rfl) ?_ (Ext.refl _) rfl
            simp [execOp, Act.eval, h58, go_sem]
          | 13, ho =>
            have h59 : tmps[59]?.getD undef = .bool false := hty 12 59 rfl (by obtain rfl := (Option.some.inj ho); rfl)
            obtain rfl := (Option.some.inj ho)
            clear hty ho
            refine step_pure (.slice A5 L0.length k5) (wanted_guard rfl rfl h59) ?_ (Ext.refl _) rfl
            simp [execOp, Act.eval, h5, go_sem]
          | 14, ho =>
            have h60 : tmps[60]?.getD undef = .slice A5 L0.length k5 := hty 13 60 rfl (by obtain rfl := (Option.some.inj ho); rfl)
            have h59 : tmps[59]?.getD undef = .bool false := hty 12 59 rfl (by obtain rfl := (Option.some.inj ho); rfl)
            obtain rfl := (Option.some.inj ho)
            clear hty ho
            refine step_call 14 #[.slice A5 L0.length k5] (wanted_guard rfl rfl h59) ?_ ?_
            · simp [execOp, Act.eval, h60, go_sem]
            · exact (scheck_any L0 _ _ (HO.out.ext hle) HS0.out).mono fun e w' ⟨h1, h2⟩ => ⟨_, h1, h2, by rw [HCZ.out]; rfl⟩
          | 15, ho =>
            have h59 : tmps[59]?.getD undef = .bool false := hty 12 59 rfl (by obtain rfl := (Option.some.inj ho); rfl)
            obtain rfl := (Option.some.inj ho)
            clear hty ho
            refine step_pure (.pointer (some ⟨B2, 0, none⟩)) (wanted_guard rfl rfl h59) ?_ (Ext.refl _) rfl
            simp [execOp, Act.eval, h2, go_sem]
          | 16, ho =>
            have h62 : tmps[62]?.getD undef = .pointer (some ⟨B2, 0, none⟩) := hty 15 62 rfl (by obtain rfl := (Option.some.inj ho); rfl)
            have h59 : tmps[59]?.getD undef = .bool false := hty 12 59 rfl (by obtain rfl := (Option.some.inj ho); rfl)
            obtain rfl := (Option.some.inj ho)
            clear hty ho
            refine step_pure (.slice A0 L0.length k0) (wanted_guard rfl rfl h59) ?_ (Ext.refl _) rfl
            simp [execOp, Act.eval, h62, x0, go_sem]
          | 17, ho =>
            have h63 : tmps[63]?.getD undef = .slice A0 L0.length k0 := hty 16 63 rfl (by obtain rfl := (Option.some.inj ho); rfl)
            have h59 : tmps[59]?.getD undef = .bool false := hty 12 59 rfl (by obtain rfl := (Option.some.inj ho); rfl)
            obtain rfl := (Option.some.inj ho)
            clear hty ho
            refine step_call 15 #[.slice A0 L0.length k0] (wanted_guard rfl rfl h59) ?_ ?_
            · simp [execOp, Act.eval, h63, go_sem]
            · exact (rchecks_any L0 _ _ (HT0.out.ext hle) HK0.out).mono fun e w' ⟨h1, h2⟩ => ⟨_, h1, h2, by rw [HCZ.out]; rfl⟩
          | 18, ho =>
            have h61 : tmps[61]?.getD undef = .int .i64 CZ := hty 14 61 rfl (by obtain rfl := (Option.some.inj ho); rfl)
            have h64 : tmps[64]?.getD undef = .int .i64 CZ := hty 17 64 rfl (by obtain rfl := (Option.some.inj ho); rfl)
            have h59 : tmps[59]?.getD undef = .bool false := hty 12 59 rfl (by obtain rfl := (Option.some.inj ho); rfl)
            obtain rfl := (Option.some.inj ho)
            clear hty ho
            refine step_pure (.bool false) (wanted_guard rfl rfl h59) ?_ (Ext.refl _) rfl
            simp [execOp, Act.eval, h61, h64, go_sem]
          | 19, ho =>
            have h59 : tmps[59]?.getD undef = .bool false := hty 12 59 rfl (by obtain rfl := (Option.some.inj ho); rfl)
            have h65 : tmps[65]?.getD undef = .bool false := hty 18 65 rfl (by obtain rfl := (Option.some.inj ho); rfl)
            obtain rfl := (Option.some.inj ho)
            clear hty ho
            refine step_pure (.bool false) (wanted_free rfl) ?_ (Ext.refl _) rfl
            simp [execOp, Act.eval, h59, h65, go_sem]
          | 20, ho =>
            have h66 : tmps[66]?.getD undef = .bool false := hty 19 66 rfl (by obtain rfl := (Option.some.inj ho); rfl)
            obtain rfl := (Option.some.inj ho)
            clear hty ho
            refine step_pure (.bool false) (wanted_free rfl) ?_ (Ext.refl _) rfl
            simp [execOp, Act.eval, h66, go_sem]
          | 21, ho =>
            have h67 : tmps[67]?.getD undef = .bool false := hty 20 67 rfl (by obtain rfl := (Option.some.inj ho); rfl)
            obtain rfl := (Option.some.inj ho)
            clear hty ho
            refine step_pure (.slice A5 L0.length k5) (wanted_guard rfl rfl h67) ?_ (Ext.refl _) rfl
            simp [execOp, Act.eval, h5, go_sem]
          | 22, ho =>
            have h68 : tmps[68]?.getD undef = .slice A5 L0.length k5 := hty 21 68 rfl (by obtain rfl := (Option.some.inj ho); rfl)
            have h67 : tmps[67]?.getD undef = .bool false := hty 20 67 rfl (by obtain rfl := (Option.some.inj ho); rfl)
            obtain rfl := (Option.some.inj ho)
            clear hty ho
            refine step_call 16 #[.slice A5 L0.length k5] (wanted_guard rfl rfl h67) ?_ ?_
            · simp [execOp, Act.eval, h68, go_sem]
            · exact (sprint_any L0 _ _ (HO.out.ext hle) HS0.out).mono fun e w' ⟨h1, h2⟩ => ⟨_, h1, h2, by rw [HPS.out]; rfl⟩
          | 23, ho =>
            have h67 : tmps[67]?.getD undef = .bool false := hty 20 67 rfl (by obtain rfl := (Option.some.inj ho); rfl)
            obtain rfl := (Option.some.inj ho)
            clear hty ho
            refine step_pure (.pointer (some ⟨B2, 0, none⟩)) (wanted_guard rfl rfl h67) ?_ (Ext.refl _) rfl
            simp [execOp, Act.eval, h2, go_sem]
          | 24, ho =>
            have h70 : tmps[70]?.getD undef = .pointer (some ⟨B2, 0, none⟩) := hty 23 70 rfl (by obtain rfl := (Option.some.inj ho); rfl)
            have h67 : tmps[67]?.getD undef = .bool false := hty 20 67 rfl (by obtain rfl := (Option.some.inj ho); rfl)
            obtain rfl := (Option.some.inj ho)
            clear hty ho
            refine step_pure (.slice A0 L0.length k0) (wanted_guard rfl rfl h67) ?_ (Ext.refl _) rfl
            simp [execOp, Act.eval, h70, x0, go_sem]
          | 25, ho =>
            have h71 : tmps[71]?.getD undef = .slice A0 L0.length k0 := hty 24 71 rfl (by obtain rfl := (Option.some.inj ho); rfl)
            have h67 : tmps[67]?.getD undef = .bool false := hty 20 67 rfl (by obtain rfl := (Option.some.inj ho); rfl)
            obtain rfl := (Option.some.inj ho)
            clear hty ho
            refine step_call 17 #[.slice A0 L0.length k0] (wanted_guard rfl rfl h67) ?_ ?_
            · simp [execOp, Act.eval, h71, go_sem]
            · exact (rprint_any L0 _ _ (HT0.out.ext hle) HS0.out).mono fun e w' ⟨h1, h2⟩ => ⟨_, h1, h2, by rw [HPS.out]; rfl⟩
          | 26, ho =>
            have h69 : tmps[69]?.getD undef = .string PS := hty 22 69 rfl (by obtain rfl := (Option.some.inj ho); rfl)
            have h72 : tmps[72]?.getD undef = .string PS := hty 25 72 rfl (by obtain rfl := (Option.some.inj ho); rfl)
            have h67 : tmps[67]?.getD undef = .bool false := hty 20 67 rfl (by obtain rfl := (Option.some.inj ho); rfl)
            obtain rfl := (Option.some.inj ho)
            clear hty ho
            refine step_pure (.bool false) (wanted_guard rfl rfl h67) ?_ (Ext.refl _) rfl
            simp [execOp, Act.eval, h69, h72, go_sem]
          | 27, ho =>
            have h67 : tmps[67]?.getD undef = .bool false := hty 20 67 rfl (by obtain rfl := (Option.some.inj ho); rfl)
            have h73 : tmps[73]?.getD undef = .bool false := hty 26 73 rfl (by obtain rfl := (Option.some.inj ho); rfl)
            obtain rfl := (Option.some.inj ho)
            clear hty ho
            refine step_pure (.bool false) (wanted_free rfl) ?_ (Ext.refl _) rfl
            simp [execOp, Act.eval, h67, h73, go_sem]
          | 28, ho =>
            have h74 : tmps[74]?.getD undef = .bool false := hty 27 74 rfl (by obtain rfl := (Option.some.inj ho); rfl)
            obtain rfl := (Option.some.inj ho)
            clear hty ho
            refine step_pure (.bool false) (wanted_free rfl) ?_ (Ext.refl _) rfl
            simp [execOp, Act.eval, h74, go_sem]
          | 29, ho =>
            have h75 : tmps[75]?.getD undef = .bool false := hty 28 75 rfl (by obtain rfl := (Option.some.inj ho); rfl)
            obtain rfl := (Option.some.inj ho)
            clear hty ho
            refine step_pure (.slice A5 L0.length k5) (wanted_guard rfl rfl h75) ?_ (Ext.refl _) rfl
            simp [execOp, Act.eval, h5, go_sem]
          | 30, ho =>
            have h75 : tmps[75]?.getD undef = .bool false := hty 28 75 rfl (by obtain rfl := (Option.some.inj ho); rfl)
            obtain rfl := (Option.some.inj ho)
            clear hty ho
            refine step_pure (.pointer (some ⟨B2, 1, none⟩)) (wanted_guard rfl rfl h75) ?_ (Ext.refl _) rfl
            simp [execOp, Act.eval, h2, go_sem]
          | 31, ho =>
            have h77 : tmps[77]?.getD undef = .pointer (some ⟨B2, 1, none⟩) := hty 30 77 rfl (by obtain rfl := (Option.some.inj ho); rfl)
            have h75 : tmps[75]?.getD undef = .bool false := hty 28 75 rfl (by obtain rfl := (Option.some.inj ho); rfl)
            obtain rfl := (Option.some.inj ho)
            clear hty ho
            refine step_pure (.slice A1 L1.length k1) (wanted_guard rfl rfl h75) ?_ (Ext.refl _) rfl
            simp [execOp, Act.eval, h77, x1, go_sem]
          | 32, ho =>
            have h78 : tmps[78]?.getD undef = .slice A1 L1.length k1 := hty 31 78 rfl (by obtain rfl := (Option.some.inj ho); rfl)
            have h75 : tmps[75]?.getD undef = .bool false := hty 28 75 rfl (by obtain rfl := (Option.some.inj ho); rfl)
            obtain rfl := (Option.some.inj ho)
            clear hty ho
            refine step_call 9 #[.slice A1 L1.length k1] (wanted_guard rfl rfl h75) ?_ ?_
            · simp [execOp, Act.eval, h78, go_sem]
            · exact (own6_any L1 _ _ (HT1.out.ext hle) HS1.out).mono fun e w' ⟨u, h1, h2, h3⟩ => ⟨u, h1, h3, h2⟩
          | 33, ho =>
            have h76 : tmps[76]?.getD undef = .slice A5 L0.length k5 := hty 29 76 rfl (by obtain rfl := (Option.some.inj ho); rfl)
            have h79 : TypesAt wr (tmps[79]?.getD undef) L1 := hty 32 79 rfl (by obtain rfl := (Option.some.inj ho); rfl)
            have h75 : tmps[75]?.getD undef = .bool false := hty 28 75 rfl (by obtain rfl := (Option.some.inj ho); rfl)
            obtain rfl := (Option.some.inj ho)
            clear hty ho
            refine step_call 18 #[.slice A5 L0.length k5, tmps[79]?.getD undef] (wanted_guard rfl rfl h75) ?_ ?_
            · simp [execOp, Act.eval, h76, go_sem]
            · exact (ssame_any L0 L1 _ _ _ (HO.out.ext hle) h79 HS0.out HS1.out).mono fun e w' ⟨h1, h2⟩ => ⟨_, h1, h2, by rw [HSM.out]; rfl⟩
          | 34, ho =>
            have h75 : tmps[75]?.getD undef = .bool false := hty 28 75 rfl (by obtain rfl := (Option.some.inj ho); rfl)
            obtain rfl := (Option.some.inj ho)
            clear hty ho
            refine step_pure (.pointer (some ⟨B2, 0, none⟩)) (wanted_guard rfl rfl h75) ?_ (Ext.refl _) rfl
            simp [execOp, Act.eval, h2, go_sem]
          | 35, ho =>
            have h81 : tmps[81]?.getD undef = .pointer (some ⟨B2, 0, none⟩) := hty 34 81 rfl (by obtain rfl := (Option.some.inj ho); rfl)
            have h75 : tmps[75]?.getD undef = .bool false := hty 28 75 rfl (by obtain rfl := (Option.some.inj ho); rfl)
            obtain rfl := (Option.some.inj ho)
            clear hty ho
            refine step_pure (.slice A0 L0.length k0) (wanted_guard rfl rfl h75) ?_ (Ext.refl _) rfl
            simp [execOp, Act.eval, h81, x0, go_sem]
          | 36, ho =>
            have h75 : tmps[75]?.getD undef = .bool false := hty 28 75 rfl (by obtain rfl := (Option.some.inj ho); rfl)
            obtain rfl := (Option.some.inj ho)
            clear hty ho
            refine step_pure (.pointer (some ⟨B2, 1, none⟩)) (wanted_guard rfl rfl h75) ?_ (Ext.refl _) rfl
            simp [execOp, Act.eval, h2, go_sem]
          | 37, ho =>
            have h83 : tmps[83]?.getD undef = .pointer (some ⟨B2, 1, none⟩) := hty 36 83 rfl (by obtain rfl := (Option.some.inj ho); rfl)
            have h75 : tmps[75]?.getD undef = .bool false := hty 28 75 rfl (by obtain rfl := (Option.some.inj ho); rfl)
            obtain rfl := (Option.some.inj ho)
            clear hty ho
            refine step_pure (.slice A1 L1.length k1) (wanted_guard rfl rfl h75) ?_ (Ext.refl _) rfl
            simp [execOp, Act.eval, h83, x1, go_sem]
          | 38, ho =>
            have h82 : tmps[82]?.getD undef = .slice A0 L0.length k0 := hty 35 82 rfl (by obtain rfl := (Option.some.inj ho); rfl)
            have h84 : tmps[84]?.getD undef = .slice A1 L1.length k1 := hty 37 84 rfl (by obtain rfl := (Option.some.inj ho); rfl)
            have h75 : tmps[75]?.getD undef = .bool false := hty 28 75 rfl (by obtain rfl := (Option.some.inj ho); rfl)
            obtain rfl := (Option.some.inj ho)
            clear hty ho
            refine step_call 12 #[.slice A0 L0.length k0, .slice A1 L1.length k1] (wanted_guard rfl rfl h75) ?_ ?_
            · simp [execOp, Act.eval, h82, h84, go_sem]
            · exact (rsame6_any L0 L1 _ _ _ (HT0.out.ext hle) (HT1.out.ext hle)).mono fun e w' ⟨h1, h2⟩ => ⟨_, h1, h2, by rw [HSM.out]; rfl⟩
          | 39, ho =>
            have h80 : tmps[80]?.getD undef = .bool SM := hty 33 80 rfl (by obtain rfl := (Option.some.inj ho); rfl)
            have h85 : tmps[85]?.getD undef = .bool SM := hty 38 85 rfl (by obtain rfl := (Option.some.inj ho); rfl)
            have h75 : tmps[75]?.getD undef = .bool false := hty 28 75 rfl (by obtain rfl := (Option.some.inj ho); rfl)
            obtain rfl := (Option.some.inj ho)
            clear hty ho
            refine step_pure (.bool false) (wanted_guard rfl rfl h75) ?_ (Ext.refl _) rfl
            simp [execOp, Act.eval, h80, h85, go_sem]
          | 40, ho =>
            have h75 : tmps[75]?.getD undef = .bool false := hty 28 75 rfl (by obtain rfl := (Option.some.inj ho); rfl)
            have h86 : tmps[86]?.getD undef = .bool false := hty 39 86 rfl (by obtain rfl := (Option.some.inj ho); rfl)
            obtain rfl := (Option.some.inj ho)
            clear hty ho
            refine step_pure (.bool false) (wanted_free rfl) ?_ (Ext.refl _) rfl
            simp [execOp, Act.eval, h75, h86, go_sem]
          | (j + 41), ho => exact absurd ho (by simp)
        · intro tmps w7 hle hs hfr hty
          have h87 : tmps[87]?.getD undef = .bool false := hty 40 87 rfl
          have hfe := frame_eq [47, 48, 49, 50, 51, 52, 53, 54, 55, 56, 57, 58, 59, 60, 61, 62, 63, 64, 65, 66, 67, 68, 69, 70, 71, 72, 73, 74, 75, 76, 77, 78, 79, 80, 81, 82, 83, 84, 85, 86, 87] hs hfr (by kernel_rfl)
          rw [hfe]
          clear hfe hfr hs hty
          simp only [List.foldl_cons, List.foldl_nil]
          generalize tmps[47]?.getD undef = x47
          generalize tmps[48]?.getD undef = x48
          generalize tmps[49]?.getD undef = x49
          generalize tmps[50]?.getD undef = x50
          generalize tmps[51]?.getD undef = x51
          generalize tmps[52]?.getD undef = x52
          generalize tmps[53]?.getD undef = x53
          generalize tmps[54]?.getD undef = x54
          generalize tmps[55]?.getD undef = x55
          generalize tmps[56]?.getD undef = x56
          generalize tmps[57]?.getD undef = x57
          generalize tmps[58]?.getD undef = x58
          generalize tmps[59]?.getD undef = x59
          generalize tmps[60]?.getD undef = x60
          generalize tmps[61]?.getD undef = x61
          generalize tmps[62]?.getD undef = x62
          generalize tmps[63]?.getD undef = x63
          generalize tmps[64]?.getD undef = x64
          generalize tmps[65]?.getD undef = x65
          generalize tmps[66]?.getD undef = x66
          generalize tmps[67]?.getD undef = x67
          generalize tmps[68]?.getD undef = x68
          generalize tmps[69]?.getD undef = x69
          generalize tmps[70]?.getD undef = x70
          generalize tmps[71]?.getD undef = x71
          generalize tmps[72]?.getD undef = x72
          generalize tmps[73]?.getD undef = x73
          generalize tmps[74]?.getD undef = x74
          generalize tmps[75]?.getD undef = x75
          generalize tmps[76]?.getD undef = x76
          generalize tmps[77]?.getD undef = x77
          generalize tmps[78]?.getD undef = x78
          generalize tmps[79]?.getD undef = x79
          generalize tmps[80]?.getD undef = x80
          generalize tmps[81]?.getD undef = x81
          generalize tmps[82]?.getD undef = x82
          generalize tmps[83]?.getD undef = x83
          generalize tmps[84]?.getD undef = x84
          generalize tmps[85]?.getD undef = x85
          generalize tmps[86]?.getD undef = x86
          rw [h87]
          clear h87
          simp only [List.setIfInBounds_toArray, List.set_cons_succ, List.set_cons_zero]
          replace HX := hid (HX.out.trans hle)
          replace HB2 := hid (hle.block HB2.out)
          replace HT0 := hid (HT0.out.ext hle)
          replace HO := hid (HO.out.ext hle)
          clear hle HT1 HF7 HF8 HB6 HB8
          obtain ⟨⟨b0, b1⟩, _, _⟩ := box2 HB2.out
          go_wp2_with fail
          go_loopw [10] (fun y wq => ∃ i : Nat, i ≤ L0.length ∧ y = .int .i64 (i : Int) ∧ Ext w7 wq)
            (fun y _ => L0.length - (intOf y).toNat)
          case atStart => exact ⟨0, by omega, rfl, Ext.refl _⟩
          case round =>
            obtain ⟨i, hi, rfl, hext⟩ := hrel
            have HE := hid hext
            clear hext
            by_cases hlt : i < L0.length
            · obtain ⟨g, o, c', r, e1, _, _, d0, d1, hfr⟩ := (HO.out.ext HE.out).open_ hlt
              obtain ⟨rfl, rfl⟩ : A5 = some ⟨g, o, none⟩ ∧ k5 = c' := by simpa using e1
              obtain ⟨g2, o2, c2', r2, e2, _, _, f0, f1, hfr2⟩ := (HT0.out.ext HE.out).open_ hlt
              obtain ⟨rfl, rfl⟩ : A0 = some ⟨g2, o2, none⟩ ∧ k0 = c2' := by simpa using e2
              have HTS := hid (HS0.out.2 _ (List.getElem_mem hlt))
              generalize L0[i] = T at *
              obtain ⟨N, F⟩ := T
              dsimp only at *
              have HFR := hid hfr
              have HFR2 := hid hfr2
              obtain ⟨A3, c3, rfl, _, _, _⟩ := hfr
              obtain ⟨A4, c4, rfl, _, _, _⟩ := hfr2
              clear e1 e2
              have kx := fun W (h : FieldsAt W (.slice A3 F.length c3) F) => sfield_any ⟨N, F⟩ _ name W h HTS.out h40
              have ky := fun W (h : FieldsAt W (.slice A4 F.length c4) F) => rats_any ⟨N, F⟩ _ name W h
              dsimp only at kx ky
              generalize atZ name 0 F = AT at *
              obtain ⟨a9, k9⟩ := AT
              unfold SaysAt at kx ky
              dsimp only at kx ky
              have b0r : wr.cell? ⟨B2, 0, none⟩ = some (.slice (some ⟨g2, o2, none⟩) L0.length k0) := HE.out.cell b0
              go_wp2_with fail
              refine (kx _ HFR.out).mono ?_
              rintro e w8 ⟨rfl, hx⟩
              have b0s : w8.cell? ⟨B2, 0, none⟩ = some (.slice (some ⟨g2, o2, none⟩) L0.length k0) := hx.cell b0r
              have f0s : w8.cell? ⟨g2, o2 + i * 2, none⟩ = some (.string N) := hx.cell f0
              have f1s : w8.cell? ⟨g2, o2 + i * 2 + 1, none⟩ = some (.slice A4 F.length c4) := hx.cell f1
              replace HFR2 := hid (HFR2.out.ext hx)
              replace HE := hid (HE.out.trans hx)
              clear hx kx d0 d1 b0r f0 f1
              go_wp2_with fail
              refine (ky _ HFR2.out).mono ?_
              rintro e w9 ⟨rfl, hx⟩
              replace HE := hid (HE.out.trans hx)
              clear hx ky b0s f0s f1s
              have q1 : (a9 != a9) = false := bne_self_eq_false a9
              have q2 : ((k9 : Int) != (k9 : Int)) = false := bne_self_eq_false (k9 : Int)
              go_wp2_with fail
              go_roundw
              case rel => exact ⟨i + 1, by omega, by go_num, HE.out⟩
              case measure => simp only [intOf]; omega
            · have hi' : i = L0.length := by omega
              subst hi'
              replace HX := hid (HX.out.trans HE.out)
              have kn1 := fun W => sname_any name W (by omega)
              have kn2 := fun W => rname_any name W (by omega)
              have kr1 := fun W => sreserved_any name W (by omega)
              have kr2 := fun W => rreserved_any name W
              generalize nameZ name = NZ at *
              generalize reservedZ name = RZ at *
              have q1 : (NZ == NZ) = true := beq_self_eq_true NZ
              have q2 : (RZ == RZ) = true := beq_self_eq_true RZ
              go_wp2_with fail
              refine (kn1 _).mono ?_
              rintro e w8 ⟨rfl, hx⟩
              replace HX := hid (HX.out.trans hx)
              clear hx
              go_wp2_with fail
              refine (kn2 _).mono ?_
              rintro e w9 ⟨rfl, hx⟩
              replace HX := hid (HX.out.trans hx)
              clear hx
              go_wp2_with fail
              refine (kr1 _).mono ?_
              rintro e w10 ⟨rfl, hx⟩
              replace HX := hid (HX.out.trans hx)
              clear hx
              go_wp2_with fail
              refine (kr2 _).mono ?_
              rintro e w11 ⟨rfl, hx⟩
              replace HX := hid (HX.out.trans hx)
              clear hx
              go_wp2_with fail
              refine (sawake_any _).mono ?_
              rintro e w12 ⟨rfl, hx⟩
              go_wp2_with fail
              go_ret
              exact ⟨rfl, HX.out.trans hx⟩
end Go.Proofs.Ytggafdimbddflaa
