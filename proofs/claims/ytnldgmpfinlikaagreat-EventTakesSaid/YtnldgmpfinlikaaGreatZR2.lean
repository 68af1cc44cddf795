/- The document's Take, by its contract. Conditions: the reach of a string. -/
import Derived.Test.YtnldgmpfinlikaaGreatBase
namespace Go.Proofs.YtnldgmpfinlikaaGreat
open Go Go.RowKit

set_option maxHeartbeats 800000 in
theorem add_wrap {u c j W : Nat} {x : Int} (hx : x = (c : Int)) (hW : W = 128 ^ j) (h : u + c * 128 ^ j < 18446744073709551616) :
    IntKind.u64.wrap ((u : Int) + IntKind.u64.wrap (x * (W : Int))) = ((u + c * 128 ^ j : Nat) : Int) := by
  have e : x * (W : Int) = ((c * 128 ^ j : Nat) : Int) := by rw [hx, hW]; simp
  rw [e, IntKind.wrap_u64, IntKind.wrap_u64]
  omega
theorem wrap_zero {u c j : Nat} (hc : c = 0) (h : u + c * 128 ^ j < 18446744073709551616) : IntKind.u64.wrap (u : Int) = ((u + c * 128 ^ j : Nat) : Int) := by
  subst hc
  rw [Nat.zero_mul, Nat.add_zero] at h ⊢
  rw [IntKind.wrap_u64]
  omega

set_option maxHeartbeats 800000 in
set_option maxRecDepth 20000 in
theorem rtake_any (s : ByteArray) (p : Int) (w : World) (hs : s.size ≤ 9223372036854775807) :
    Calls Tryz.prog 44 #[.string s, .int .i64 p] w (SaysT w (takeZ s p)) := by
  by_cases hp : p < 0
  · have HT := hid (take_out (s := s) (Or.inl hp))
    go_enter Tryz.func44, Tryz.ntmps44
    go_wp2_with fail
    go_ret3
    exact SaysT.mk HT.out (Ext.refl w)
  · by_cases hq : s.size < p
    · have HT := hid (take_out (s := s) (Or.inr hq))
      go_enter Tryz.func44, Tryz.ntmps44
      go_wp2_with fail
      go_ret3
      exact SaysT.mk HT.out (Ext.refl w)
    · obtain ⟨p, rfl⟩ := Int.eq_ofNat_of_zero_le (show 0 ≤ p by omega)
      have hp2 : p ≤ s.size := by omega
      obtain ⟨T, hT⟩ : ∃ T, T = tk (s.data.toList.drop p) 0 0 := ⟨_, rfl⟩
      have HT := hid hT
      clear hT
      go_enter Tryz.func44, Tryz.ntmps44
      go_wp2_with fail
      go_loopw [7, 8, 9] (fun x y i wr => ∃ j u : Nat, p + j ≤ s.size ∧ j ≤ 9 ∧ i = .int .i64 (j : Int) ∧ x = .int .u64 (u : Int) ∧ y = .int .u64 ((128 ^ j : Nat) : Int) ∧ Hid (u < 128 ^ j) ∧ Hid (T = tk (s.data.toList.drop (p + j)) j u) ∧ Ext w wr)
        (fun _ _ i _ => 10 - (intOf i).toNat)
      case atStart => exact ⟨0, 0, by omega, by omega, rfl, rfl, rfl, hid (by simp), hid HT.out, Ext.refl w⟩
      case round =>
        obtain ⟨j, u, hj, hj9, rfl, rfl, rfl, hu, hrel, hext⟩ := hrel
        obtain ⟨W, hW⟩ : ∃ W : Nat, W = 128 ^ j := ⟨_, rfl⟩
        have hwl : W ≤ 9223372036854775808 := by rw [hW]; exact Nat.le_trans (pow128_mono hj9) (by decide)
        have HW := hid hW
        rw [← hW]
        clear hW
        by_cases hjs : p + j < s.size
        · have hc := s[p + j].toNat_lt
          have h1 := hrel.out
          rw [drop_cons s (p + j) hjs] at h1
          have H1 := hid h1
          clear h1 hrel
          by_cases h9 : j = 9
          · subst h9
            by_cases hc1 : 1 < s[p + 9].toNat
            · have HB := hid (take_bad hp2 (HT.out.symm.trans (H1.out.trans (tk_range hc1))) (by decide))
              go_wp2_with fail
              go_ret3
              exact SaysT.mk HB.out hext
            · by_cases h01 : s[p + 9].toNat = 0
              · have HB := hid (take_bad hp2 (HT.out.symm.trans (H1.out.trans (tk_form (by omega) h01))) (by decide))
                go_wp2_with fail
                go_ret3
                exact SaysT.mk HB.out hext
              · have HB := hid (take_good hp2 (HT.out.symm.trans (H1.out.trans (tk_done (by omega) (by omega) (by omega)))))
                have hj := hid (u64_join u s[p + 9].toNat 9 hu.out (by omega) (by omega) (by omega))
                go_wp2_with fail
                go_ret3
                exact SaysT.mk' HB.out (add_wrap (by omega) HW.out hj.out.2.2) (by omega) hext
          · by_cases h0 : 0 < j ∧ s[p + j].toNat = 0
            · obtain ⟨h00, h01⟩ := h0
              have HB := hid (take_bad hp2 (HT.out.symm.trans (H1.out.trans (tk_form h00 h01))) (by decide))
              go_wp2_with fail
              go_ret3
              exact SaysT.mk HB.out hext
            · by_cases h2 : s[p + j].toNat < 128
              · have HB := hid (take_good hp2 (HT.out.symm.trans (H1.out.trans (tk_done (by omega) (by omega) h2))))
                have hj := hid (u64_join u s[p + j].toNat j hu.out h2 (by omega) (by omega))
                go_wp2_with fail
                all_goals
                  go_ret3
                  first
                    | exact SaysT.mk' HB.out (add_wrap (by omega) HW.out hj.out.2.2) (by omega) hext
                    | exact SaysT.mk' HB.out (wrap_zero (by assumption) hj.out.2.2) (by omega) hext
              · have HB := hid (H1.out.trans (tk_more h9 h2))
                have hj := hid (u64_join u (s[p + j].toNat - 128) j hu.out (by omega) (by omega) (by omega))
                have HV := hid (tk_grow hu.out (c := s[p + j].toNat - 128) (by omega))
                have hw8 : W ≤ 72057594037927936 := by rw [HW.out]; exact Nat.le_trans (pow128_mono (show j ≤ 8 by omega)) (by decide)
                go_wp2_with fail
                go_roundw
                case rel =>
                  refine ⟨j + 1, _, by omega, by omega, rfl, congrArg _ (add_wrap (c := s[p + j].toNat - 128) (by omega) HW.out hj.out.2.2), ?_, hid HV.out, hid HB.out, hext⟩
                  rw [Nat.pow_succ, ← HW.out]; rfl
                case measure => simp [intOf]; omega
        · have h1 := hrel.out
          rw [List.drop_eq_nil_of_le (by rw [size_toList]; omega)] at h1
          have HB := hid (take_bad hp2 (HT.out.symm.trans h1) (by decide))
          clear h1
          go_wp2_with fail
          go_ret3
          exact SaysT.mk HB.out hext
end Go.Proofs.YtnldgmpfinlikaaGreat
