/- zig.Take and zig.TakeInt, by their contracts. Conditions: the reach of a string. -/
import Derived.Test.YtkblpbpmaoofgaaZC2
namespace Go.Proofs.Ytkblpbpmaoofgaa
open Go Go.RowKit

/-- what is read of s from at on: the number, the place behind it, the error -/
def takeZ (s : ByteArray) (p : Int) : Nat × Int × Int :=
  if p < 0 ∨ s.size < p then (0, 0, 2)
  else ((tk (s.data.toList.drop p.toNat) 0 0).1, if (tk (s.data.toList.drop p.toNat) 0 0).2.2 = 0 then p + (tk (s.data.toList.drop p.toNat) 0 0).2.1 else 0, (tk (s.data.toList.drop p.toNat) 0 0).2.2)

theorem take_out {s : ByteArray} {p : Int} (h : p < 0 ∨ s.size < p) : takeZ s p = (0, 0, 2) := if_pos h
theorem take_bad {s : ByteArray} {p : Nat} {e : Int} (h : p ≤ s.size) (ht : tk (s.data.toList.drop p) 0 0 = (0, 0, e)) (he : e ≠ 0) : takeZ s p = (0, 0, e) := by
  unfold takeZ
  rw [if_neg (by omega), Int.toNat_natCast, ht]
  simp [he]
theorem take_good {s : ByteArray} {p u n : Nat} (h : p ≤ s.size) (ht : tk (s.data.toList.drop p) 0 0 = (u, n, 0)) : takeZ s p = (u, (p : Int) + (n : Int), 0) := by
  unfold takeZ
  rw [if_neg (by omega), Int.toNat_natCast, ht]
  simp

/-- what is read is told -/
def SaysT (w : World) (t : Nat × Int × Int) (e : Ending) (w' : World) : Prop := e = .returned (.tuple #[.int .u64 (t.1 : Int), .int .i64 t.2.1, .int .i64 t.2.2]) ∧ Ext w w'
theorem SaysT.mk {w w' : World} {t : Nat × Int × Int} {u : Nat} {n e : Int} (h : t = (u, n, e)) (hx : Ext w w') : SaysT w t (.returned (.tuple #[.int .u64 (u : Int), .int .i64 n, .int .i64 e])) w' := by
  subst h
  exact ⟨rfl, hx⟩

theorem SaysT.mk' {w w' : World} {t : Nat × Int × Int} {u : Nat} {n e x m : Int} (h : t = (u, n, e)) (hu : x = (u : Int)) (hn : m = n) (hx : Ext w w') : SaysT w t (.returned (.tuple #[.int .u64 x, .int .i64 m, .int .i64 e])) w' := by
  subst h; subst hu; subst hn
  exact ⟨rfl, hx⟩
theorem join_wrap {u c j : Nat} {x : Int} (hx : x = (c : Int)) (h : bits .or .u64 (u : Int) ((c * 128 ^ j : Nat) : Int) = ((u + c * 128 ^ j : Nat) : Int)) (h2 : c * 128 ^ j < 18446744073709551616) :
    bits .or .u64 (u : Int) (IntKind.u64.wrap (x * 2 ^ (7 * j))) = ((u + c * 128 ^ j : Nat) : Int) := by
  have e : x * 2 ^ (7 * j) = ((c * 128 ^ j : Nat) : Int) := by
    rw [hx, Int.pow_mul]
    simp
  rw [e, IntKind.wrap_u64, ← h]
  congr 1
  omega

theorem tk_grow {u c j : Nat} (hu : u < 128 ^ j) (hc : c < 128) : u + c * 128 ^ j < 128 ^ (j + 1) := by
  rw [Nat.pow_succ]
  have : c * 128 ^ j ≤ 127 * 128 ^ j := Nat.mul_le_mul (by omega) (Nat.le_refl _)
  omega

theorem drop_cons (s : ByteArray) (q : Nat) (h : q < s.size) : s.data.toList.drop q = s[q] :: s.data.toList.drop (q + 1) := by
  rw [List.drop_eq_getElem_cons (by rw [size_toList]; exact h)]
  rfl

set_option maxHeartbeats 800000 in
theorem ztake_any (s : ByteArray) (p : Int) (w : World) (hs : s.size ≤ 9223372036854775807) :
    Calls Try.prog 72 #[.string s, .int .i64 p] w (SaysT w (takeZ s p)) := by
  by_cases hp : p < 0
  · have HT := hid (take_out (s := s) (Or.inl hp))
    go_enter Try.func72, Try.ntmps72
    go_wp2_with fail
    exact bodyPost_ret (v := .tuple #[.int .u64 0, .int .i64 0, .int .i64 2]) (by simp [results, Try.results72, go_sem]) rfl (SaysT.mk HT.out (Ext.refl w))
  · by_cases hq : s.size < p
    · have HT := hid (take_out (s := s) (Or.inr hq))
      go_enter Try.func72, Try.ntmps72
      go_wp2_with fail
      exact bodyPost_ret (v := .tuple #[.int .u64 0, .int .i64 0, .int .i64 2]) (by simp [results, Try.results72, go_sem]) rfl (SaysT.mk HT.out (Ext.refl w))
    · obtain ⟨p, rfl⟩ := Int.eq_ofNat_of_zero_le (show 0 ≤ p by omega)
      have hp2 : p ≤ s.size := by omega
      obtain ⟨T, hT⟩ : ∃ T, T = tk (s.data.toList.drop p) 0 0 := ⟨_, rfl⟩
      have HT := hid hT
      clear hT
      go_enter Try.func72, Try.ntmps72
      go_wp2_with fail
      go_loopw [21, 4] (fun i x wr => ∃ j u : Nat, p + j ≤ s.size ∧ j ≤ 9 ∧ i = .int .i64 (j : Int) ∧ x = .int .u64 (u : Int) ∧ u < 128 ^ j ∧ Hid (T = tk (s.data.toList.drop (p + j)) j u) ∧ Ext w wr)
        (fun i _ _ => 10 - (intOf i).toNat)
      case atStart => exact ⟨0, 0, by omega, by omega, rfl, rfl, by simp, hid HT.out, Ext.refl w⟩
      case round =>
        obtain ⟨j, u, hj, hj9, rfl, rfl, hu, hrel, hext⟩ := hrel
        by_cases hjs : p + j < s.size
        · have hc := s[p + j].toNat_lt
          have h1 := hrel.out
          rw [drop_cons s (p + j) hjs] at h1
          have H1 := hid h1
          clear h1 hrel
          by_cases h9 : j = 9
          · subst h9
            by_cases hc1 : 1 < s[p + 9].toNat
            · have HB := hid (take_bad hp2 (HT.out.symm.trans (H1.out.trans (tk_range hc1))) (by decide))
              go_wp2_with fail
              go_ret3
              exact SaysT.mk HB.out hext
            · by_cases h01 : s[p + 9].toNat = 0
              · have HB := hid (take_bad hp2 (HT.out.symm.trans (H1.out.trans (tk_form (by omega) h01))) (by decide))
                go_wp2_with fail
                go_ret3
                exact SaysT.mk HB.out hext
              · have HB := hid (take_good hp2 (HT.out.symm.trans (H1.out.trans (tk_done (by omega) (by omega) (by omega)))))
                have hj := hid (u64_join u s[p + 9].toNat 9 hu (by omega) (by omega) (by omega))
                have hb1 : bits .andNot .u8 (s[p + 9].toNat : Int) 128 = (s[p + 9].toNat : Int) := by rw [u8_low (by omega) (by omega)]; omega
                have hb2 : bits .and .u8 (s[p + 9].toNat : Int) 128 = 0 := by rw [u8_top (by omega) (by omega), if_pos (by omega)]
                clear hu
                go_wp2_with fail
                go_ret3
                refine SaysT.mk' HB.out ?_ (by omega) hext
                have h1 := hj.out.1
                rw [← h1]
                congr 1
          · by_cases h0 : 0 < j ∧ s[p + j].toNat = 0
            · obtain ⟨h00, h01⟩ := h0
              have HB := hid (take_bad hp2 (HT.out.symm.trans (H1.out.trans (tk_form h00 h01))) (by decide))
              go_wp2_with fail
              go_ret3
              exact SaysT.mk HB.out hext
            · by_cases h2 : s[p + j].toNat < 128
              · have hb1 : bits .andNot .u8 (s[p + j].toNat : Int) 128 = (s[p + j].toNat : Int) := by rw [u8_low (by omega) (by omega)]; omega
                have hb2 : bits .and .u8 (s[p + j].toNat : Int) 128 = 0 := by rw [u8_top (by omega) (by omega), if_pos (by omega)]
                have HB := hid (take_good hp2 (HT.out.symm.trans (H1.out.trans (tk_done (by omega) (by omega) h2))))
                have hj := hid (u64_join u s[p + j].toNat j hu h2 (by omega) (by omega))
                clear hu
                go_wp2_with fail
                all_goals
                  go_ret3
                  exact SaysT.mk' HB.out (join_wrap rfl hj.out.1 hj.out.2.1) (by omega) hext
              · have hb1 : bits .andNot .u8 (s[p + j].toNat : Int) 128 = (s[p + j].toNat : Int) - 128 := by rw [u8_low (by omega) (by omega)]; omega
                have hb2 : bits .and .u8 (s[p + j].toNat : Int) 128 = 128 := by rw [u8_top (by omega) (by omega), if_neg (by omega)]
                have HB := hid (H1.out.trans (tk_more h9 h2))
                have hj := hid (u64_join u (s[p + j].toNat - 128) j hu (by omega) (by omega) (by omega))
                have hv : u + (s[p + j].toNat - 128) * 128 ^ j < 128 ^ (j + 1) := tk_grow hu (by omega)
                have HV := hid hv
                clear hu hv
                go_wp2_with fail
                all_goals go_roundw
                case rel | rel =>
                  exact ⟨j + 1, _, by omega, by omega, rfl, congrArg _ (join_wrap (c := s[p + j].toNat - 128) (by omega) hj.out.1 hj.out.2.1), HV.out, hid HB.out, hext⟩
                all_goals (simp [intOf]; omega)
        · have h1 := hrel.out
          rw [List.drop_eq_nil_of_le (by rw [size_toList]; omega)] at h1
          have HB := hid (take_bad hp2 (HT.out.symm.trans h1) (by decide))
          clear h1
          go_wp2_with fail
          go_ret3
          exact SaysT.mk HB.out hext

/-- what TakeInt tells -/
def takeI (s : ByteArray) (p : Int) : Int × Int × Int := (backZ (takeZ s p).1, (takeZ s p).2.1, (takeZ s p).2.2)
def SaysI (w : World) (t : Int × Int × Int) (e : Ending) (w' : World) : Prop := e = .returned (.tuple #[.int .i64 t.1, .int .i64 t.2.1, .int .i64 t.2.2]) ∧ Ext w w'

theorem takeZ_bound (s : ByteArray) (p : Int) : (takeZ s p).1 ≤ 18446744073709551615 := by
  unfold takeZ
  split
  · exact Nat.zero_le _
  · obtain ⟨⟨u, n, e⟩, ht⟩ : ∃ t, t = tk (s.data.toList.drop p.toNat) 0 0 := ⟨_, rfl⟩
    rw [← ht]
    show u ≤ _
    by_cases he : e = 0
    · subst he
      have := (tk_inv _ 0 0 u n (by decide) (by omega) ht.symm).2.2.1
      omega
    · rw [tk_zero ht.symm he]
      exact Nat.zero_le _

set_option maxHeartbeats 400000 in
theorem takeint_any (s : ByteArray) (p : Int) (w : World) (hs : s.size ≤ 9223372036854775807) :
    Calls Try.prog 63 #[.string s, .int .i64 p] w (SaysI w (takeI s p)) := by
  have hb := takeZ_bound s p
  have hT : takeI s p = (backZ (takeZ s p).1, (takeZ s p).2.1, (takeZ s p).2.2) := rfl
  have HT := hid hT
  clear hT
  go_enter Try.func63, Try.ntmps63
  go_wp2_with fail
  refine (ztake_any s p _ hs).mono ?_
  rintro e w1 ⟨rfl, hx⟩
  have HX := hid hx
  clear hx
  go_wp2_with fail
  refine (back_any _ _ (by omega) (by omega)).mono ?_
  rintro e w2 ⟨rfl, hx⟩
  replace HX := hid (HX.out.trans hx)
  clear hx
  go_wp2_with fail
  go_ret3
  rw [HT.out]
  exact ⟨rfl, HX.out⟩
end Go.Proofs.Ytkblpbpmaoofgaa
