/- The landed program's isLetter, isDigit, Reserved and Name, by their contracts. Conditions: none. -/
import Derived.Test.YtggafdimbddflaaSR1
import Derived.Test.YtggafdimbddflaaVR5
namespace Go.Proofs.Ytggafdimbddflaa
open Go Go.RowKit

theorem sletter_just (b : Nat) (r : Bool) (w : World) (h : r = true ↔ (97 ≤ b ∧ b ≤ 122)) : Calls Try.prog 44 #[.int .u8 (b : Int)] w (Just w (.bool r)) := by
  have hw : (b : Int) < 97 ∨ ((97 : Int) ≤ (b : Int) ∧ (b : Int) ≤ 122) ∨ ((97 : Int) ≤ (b : Int) ∧ 122 < (b : Int)) := by omega
  cases r
  · have h2 : ¬ (97 ≤ b ∧ b ≤ 122) := fun e => by cases h.2 e
    rcases hw with h1 | ⟨h1, h3⟩ | ⟨h1, h3⟩
    · go_enter Try.func44, Try.ntmps44
      go_wp2_with fail
      go_ret
      exact Just.mk_bool (by first | rfl | (simp; omega))
    · omega
    · go_enter Try.func44, Try.ntmps44
      go_wp2_with fail
      go_ret
      exact Just.mk_bool (by first | rfl | (simp; omega))
  · have h2 := h.1 rfl
    rcases hw with h1 | ⟨h1, h3⟩ | ⟨h1, h3⟩
    · omega
    · go_enter Try.func44, Try.ntmps44
      go_wp2_with fail
      go_ret
      exact Just.mk_bool (by first | rfl | (simp; omega))
    · omega
theorem sdigit_just (b : Nat) (r : Bool) (w : World) (h : r = true ↔ (48 ≤ b ∧ b ≤ 57)) : Calls Try.prog 45 #[.int .u8 (b : Int)] w (Just w (.bool r)) := by
  have hw : (b : Int) < 48 ∨ ((48 : Int) ≤ (b : Int) ∧ (b : Int) ≤ 57) ∨ ((48 : Int) ≤ (b : Int) ∧ 57 < (b : Int)) := by omega
  cases r
  · have h2 : ¬ (48 ≤ b ∧ b ≤ 57) := fun e => by cases h.2 e
    rcases hw with h1 | ⟨h1, h3⟩ | ⟨h1, h3⟩
    · go_enter Try.func45, Try.ntmps45
      go_wp2_with fail
      go_ret
      exact Just.mk_bool (by first | rfl | (simp; omega))
    · omega
    · go_enter Try.func45, Try.ntmps45
      go_wp2_with fail
      go_ret
      exact Just.mk_bool (by first | rfl | (simp; omega))
  · have h2 := h.1 rfl
    rcases hw with h1 | ⟨h1, h3⟩ | ⟨h1, h3⟩
    · omega
    · go_enter Try.func45, Try.ntmps45
      go_wp2_with fail
      go_ret
      exact Just.mk_bool (by first | rfl | (simp; omega))
    · omega

theorem reserved_any (s : ByteArray) : reservedZ s = reservedL.any (fun r => s.toList == r.data.toList) := by
  rw [Bool.eq_iff_iff, List.any_eq_true]
  unfold reservedZ
  rw [decide_eq_true_iff]
  constructor
  · rintro ⟨r, hr, rfl⟩
    exact ⟨r, hr, by rw [ByteArray.toList_eq]; exact beq_iff_eq.2 rfl⟩
  · rintro ⟨r, hr, e⟩
    rw [ByteArray.toList_eq] at e
    exact ⟨r, hr, ba_eq (beq_iff_eq.1 e).symm⟩
theorem reserved_chain (s : ByteArray) : reservedZ s = (s.toList == [119, 105, 116, 104, 105, 110] || (s.toList == [98, 121] || (s.toList == [97, 110, 100] || (s.toList == [111, 114] || (s.toList == [110, 111, 116] || (s.toList == [97, 110, 121] || (s.toList == [110, 101, 120, 116] || (s.toList == [115, 116, 114, 105, 99, 116] || (s.toList == [116, 114, 117, 101] || (s.toList == [102, 97, 108, 115, 101] || false)))))))))) := reserved_any s

set_option maxHeartbeats 2000000 in
theorem sreserved_just (s : ByteArray) (w : World) : Calls Try.prog 23 #[.string s] w (Just w (.bool (reservedZ s))) := by
  have HR := hid (reserved_chain s)
  generalize reservedZ s = R at *
  go_enter Try.func23, Try.ntmps23
  go_wp2_with fail
  all_goals (first | (exfalso; simp_all; done) | (go_ret; refine Just.mk_bool ?_; rw [HR.out]; simp only [*, Bool.true_or, Bool.false_or]))

theorem name_iff (s : ByteArray) : nameZ s = (decide (1 ≤ s.size ∧ s.size ≤ 12) && !reservedZ s && lettersZ 0 s.data.toList) := rfl

set_option maxRecDepth 100000 in
set_option maxHeartbeats 4000000 in
theorem sname_any (s : ByteArray) (w : World) (hs : s.size ≤ 1048576) : Calls Try.prog 21 #[.string s] w (Says w (.bool (nameZ s))) := by
  have hr := fun W => sreserved_just s W
  have hn := name_iff s
  generalize nameZ s = R at *
  generalize reservedZ s = Q at *
  by_cases h1 : s.size < 1
  · rw [decide_eq_false (by omega), Bool.false_and, Bool.false_and] at hn
    subst hn
    have hz : s = ⟨#[]⟩ := (text_none s).2 (by omega)
    subst hz
    clear hr
    go_enter Try.func21, Try.ntmps21
    go_wp2_with fail
    go_ret
    exact ⟨rfl, Ext.refl _⟩
  · have hne : (s.toList == ([] : List UInt8)) = false := beq_eq_false_iff_ne.2 (fun e => h1 (by rw [ByteArray.toList_eq] at e; have := congrArg List.length e; rw [size_toList] at this; rw [this]; exact Nat.zero_lt_one))
    by_cases h12 : 12 < s.size
    · rw [decide_eq_false (by omega), Bool.false_and, Bool.false_and] at hn
      subst hn
      have h12' : 12 < (s.size : Int) := by omega
      clear hr h12
      go_enter Try.func21, Try.ntmps21
      go_wp2_with fail
      go_ret
      exact ⟨rfl, Ext.refl _⟩
    · rw [decide_eq_true (by omega), Bool.true_and] at hn
      have h12' : ¬ 12 < (s.size : Int) := by omega
      have hp0 : 0 < s.size := by omega
      by_cases hl0 : 97 ≤ (s[0]'hp0).toNat ∧ (s[0]'hp0).toNat ≤ 122
      · have k0 := fun W => sletter_just (s[0]'hp0).toNat true W (by simp only [true_iff]; exact hl0)
        have HL0 := hid hl0
        have HN := hid (show R = (!Q && lettersZ 0 (s.data.toList.drop 0)) from hn)
        clear hn hl0 h12
        go_enter Try.func21, Try.ntmps21
        go_wp2_with (go_at_call 44; refine (k0 _).mono ?_; rintro e1 w1 ⟨rfl, rfl⟩)
        go_loopw [19] (fun x wr => ∃ i : Nat, i ≤ s.size ∧ x = .int .i64 (i : Int) ∧ Hid (R = (!Q && lettersZ i (s.data.toList.drop i))) ∧ wr = w1)
          (fun x _ => s.size - (intOf x).toNat)
        case atStart => exact ⟨0, by omega, rfl, hid HN.out, rfl⟩
        case round =>
          obtain ⟨i, hi, rfl, ho, rfl⟩ := hrel
          by_cases hlt : i < s.size
          · have hat := hid (letters_at hlt)
            have kl := fun r W h => sletter_just (s[i]'hlt).toNat r W h
            have kd := fun r W h => sdigit_just (s[i]'hlt).toNat r W h
            rcases byte_ways (s[i]'hlt).toNat with ⟨b0, b1⟩ | ⟨b0, b1⟩ | b0 | hno
            · have kl := fun W => kl true W (by simp only [true_iff]; omega)
              go_wp2_with (go_at_call 44; refine (kl _).mono ?_; rintro e1 w2 ⟨rfl, rfl⟩)
              go_roundw
              case rel => exact ⟨i + 1, by omega, by go_num, hid (by rw [ho.out, hat.out, letter_of (r := true) (by simp only [true_iff]; omega), Bool.true_and]), trivial⟩
              case measure => simp only [intOf]; omega
            · have hz : i ≠ 0 := by rintro rfl; have := HL0.out; omega
              have kl := fun W => kl false W (by simp only [Bool.false_eq_true, false_iff]; omega)
              have kd := fun W => kd true W (by simp only [true_iff]; omega)
              have b9 : (((s[i]'hlt).toNat : Int) == 95) = false := beq_eq_false_iff_ne.2 (by omega)
              go_wp2_with (first | (go_at_call 44; refine (kl _).mono ?_; rintro e1 w2 ⟨rfl, rfl⟩) | (go_at_call 45; refine (kd _).mono ?_; rintro e1 w2 ⟨rfl, rfl⟩))
              go_roundw
              case rel => exact ⟨i + 1, by omega, by go_num, hid (by rw [ho.out, hat.out, letter_of (r := true) (by simp only [true_iff]; omega), Bool.true_and]), trivial⟩
              case measure => simp only [intOf]; omega
            · have hz : i ≠ 0 := by rintro rfl; have := HL0.out; omega
              have kl := fun W => kl false W (by simp only [Bool.false_eq_true, false_iff]; omega)
              have kd := fun W => kd false W (by simp only [Bool.false_eq_true, false_iff]; omega)
              have b9 : (((s[i]'hlt).toNat : Int) != 95) = false := bne_eq_false_iff_eq.2 (by omega)
              have hok := hid (letter_of (i := i) (b := (s[i]'hlt).toNat) (r := true) (by simp only [true_iff]; omega))
              clear b0
              go_wp2_with (first | (go_at_call 44; refine (kl _).mono ?_; rintro e1 w2 ⟨rfl, rfl⟩) | (go_at_call 45; refine (kd _).mono ?_; rintro e1 w2 ⟨rfl, rfl⟩))
              go_roundw
              case rel => exact ⟨i + 1, by omega, by go_num, hid (by rw [ho.out, hat.out, hok.out, Bool.true_and]), trivial⟩
              case measure => simp only [intOf]; omega
            · have kl := fun W => kl false W (by simp only [Bool.false_eq_true, false_iff]; omega)
              have kd := fun W => kd false W (by simp only [Bool.false_eq_true, false_iff]; omega)
              have b9 : (((s[i]'hlt).toNat : Int) != 95) = true := bne_iff_ne.2 (by omega)
              have HF := hid (show R = false by rw [ho.out, hat.out, letter_of (r := false) (by simp only [Bool.false_eq_true, false_iff]; omega), Bool.false_and, Bool.and_false])
              clear hno
              go_wp2_with (first | (go_at_call 44; refine (kl _).mono ?_; rintro e1 w2 ⟨rfl, rfl⟩) | (go_at_call 45; refine (kd _).mono ?_; rintro e1 w2 ⟨rfl, rfl⟩))
              go_ret
              exact ⟨by rw [HF.out]; rfl, Ext.refl _⟩
          · have hi' : i = s.size := by omega
            subst hi'
            go_wp2_with (go_at_call 23; refine (hr _).mono ?_; rintro e1 w2 ⟨rfl, rfl⟩)
            go_ret
            exact ⟨by rw [ho.out, letters_last, Bool.and_true]; rfl, Ext.refl _⟩
      · have k0 := fun W => sletter_just (s[0]'hp0).toNat false W (by simp only [Bool.false_eq_true, false_iff]; exact hl0)
        have hz : lettersZ 0 s.data.toList = false := by
          have := letters_at (s := s) (i := 0) hp0
          rw [List.drop_zero] at this
          rw [this, letter_of (r := false) (by simp only [Bool.false_eq_true, false_iff]; omega), Bool.false_and]
        rw [hz, Bool.and_false] at hn
        subst hn
        clear hz hl0 hr h12
        go_enter Try.func21, Try.ntmps21
        go_wp2_with (go_at_call 44; refine (k0 _).mono ?_; rintro e1 w1 ⟨rfl, rfl⟩)
        go_ret
        exact ⟨rfl, Ext.refl _⟩
end Go.Proofs.Ytggafdimbddflaa
