/- The document's Reserved and Name, by their contracts. Conditions: none. -/
import Derived.Test.YtggafdimbddflaaBase
namespace Go.Proofs.Ytggafdimbddflaa
open Go Go.RowKit

def reservedV : List Value := reservedL.map .string
theorem reserved_at {i : Nat} {s : ByteArray} (h : reservedL[i]? = some s) : reservedZ s = true := decide_eq_true ⟨s, List.mem_of_getElem? h, rfl⟩
theorem reserved_none {s : ByteArray} (h : ∀ j, j < 10 → reservedL[j]? ≠ some s) : reservedZ s = false := by
  refine decide_eq_false fun ⟨r, hm, hr⟩ => ?_
  subst hr
  obtain ⟨j, hj, e⟩ := List.getElem_of_mem hm
  exact h j hj (by rw [List.getElem?_eq_getElem hj, e])

set_option maxHeartbeats 1000000 in
theorem rreserved_any (s : ByteArray) (w : World) : Calls Try.prog 24 #[.string s] w (Says w (.bool (reservedZ s))) := by
  go_enter Try.func24, Try.ntmps24
  go_wp2_with fail
  have HB := hid (heap_alloc_new w (Obj.cells reservedV.toArray 9 (0, 0)))
  go_loopw [4] (fun x wr => ∃ i : Nat, i ≤ 10 ∧ x = .int .i64 (i : Int) ∧ Hid (∀ j, j < i → reservedL[j]? ≠ some s) ∧ wr = w.alloc (Obj.cells reservedV.toArray 9 (0, 0)))
    (fun x _ => 10 - (intOf x).toNat)
  case atStart => exact ⟨0, by omega, rfl, hid (fun j h => by omega), rfl⟩
  case round =>
    obtain ⟨i, h1, rfl, ho, rfl⟩ := hrel
    by_cases h10 : i < 10
    · obtain ⟨S, hS⟩ : ∃ S, reservedL[i]? = some S := ⟨_, List.getElem?_eq_getElem h10⟩
      have hc : (w.alloc (Obj.cells reservedV.toArray 9 (0, 0))).cell? ⟨w.heap.size, i, none⟩ = some (.string S) := by
        rw [cell_of_row _ _ i _ _ _ HB.out]
        simp [reservedV, hS]
      have HS := hid hS
      clear hS
      by_cases he : S = s
      · subst he
        go_wp2_with fail
        go_ret
        exact ⟨by rw [reserved_at HS.out]; rfl, Ext.alloc _ _⟩
      · have hb : (S.toList == s.toList) = false := beq_eq_false_iff_ne.2 (fun e => he ((list_ba S s).1 e))
        go_wp2_with fail
        go_roundw
        case rel => exact ⟨i + 1, by omega, by go_num, hid (fun j g => by
          by_cases hj : j = i
          · subst hj; rw [HS.out]; exact fun e => he (Option.some.inj e)
          · exact ho.out j (by omega)), trivial⟩
        case measure => simp only [intOf]; omega
    · have hi : i = 10 := by omega
      subst hi
      go_wp2_with fail
      go_ret
      exact ⟨by rw [reserved_none ho.out]; rfl, Ext.alloc _ _⟩

theorem letters_step {i : Nat} {b : UInt8} {r : List UInt8} : lettersZ i (b :: r) = (letterZ i b.toNat && lettersZ (i + 1) r) := rfl
theorem letters_at {s : ByteArray} {i : Nat} (h : i < s.size) : lettersZ i (s.data.toList.drop i) = (letterZ i (s[i]'h).toNat && lettersZ (i + 1) (s.data.toList.drop (i + 1))) := by
  rw [List.drop_eq_getElem_cons (by rw [size_toList]; exact h), letters_step]
  rfl
theorem letters_last {s : ByteArray} : lettersZ s.size (s.data.toList.drop s.size) = true := by
  rw [List.drop_of_length_le (by rw [size_toList]; exact Nat.le_refl _)]
  rfl
theorem letter_of {i b : Nat} {r : Bool} (h : r = true ↔ (97 ≤ b ∧ b ≤ 122) ∨ (i ≠ 0 ∧ ((48 ≤ b ∧ b ≤ 57) ∨ b = 95))) : letterZ i b = r := by
  rw [Bool.eq_iff_iff, h]
  exact decide_eq_true_iff

theorem byte_ways (b : Nat) : ((97 : Int) ≤ (b : Int) ∧ (b : Int) ≤ 122) ∨ ((48 : Int) ≤ (b : Int) ∧ (b : Int) ≤ 57) ∨ (b : Int) = 95 ∨ ((b : Int) < 48 ∧ (b : Int) < 97) ∨ ((57 : Int) < (b : Int) ∧ (b : Int) < 97 ∧ (b : Int) ≠ 95) ∨ (122 : Int) < (b : Int) := by omega

set_option maxHeartbeats 4000000 in
theorem rname_any (s : ByteArray) (w : World) (hs : s.size ≤ 9223372036854775807) : Calls Try.prog 22 #[.string s] w (Says w (.bool (nameZ s))) := by
  have hr := fun W => rreserved_any s W
  have hn : nameZ s = (decide (1 ≤ s.size ∧ s.size ≤ 12) && !reservedZ s && lettersZ 0 s.data.toList) := rfl
  generalize nameZ s = R at *
  by_cases h1 : s.size < 1
  · rw [decide_eq_false (by omega), Bool.false_and, Bool.false_and] at hn
    subst hn
    have h1' : (s.size : Int) < 1 := by omega
    clear h1 hr
    go_enter Try.func22, Try.ntmps22
    go_wp2_with fail
    go_ret
    exact ⟨rfl, Ext.refl _⟩
  · by_cases h12 : 12 < s.size
    · rw [decide_eq_false (by omega), Bool.false_and, Bool.false_and] at hn
      subst hn
      have h1' : ¬ (s.size : Int) < 1 := by omega
      have h12' : 12 < (s.size : Int) := by omega
      clear h1 hr h12
      go_enter Try.func22, Try.ntmps22
      go_wp2_with fail
      go_ret
      exact ⟨rfl, Ext.refl _⟩
    · rw [decide_eq_true (by omega), Bool.true_and] at hn
      have h1' : ¬ (s.size : Int) < 1 := by omega
      have h12' : ¬ 12 < (s.size : Int) := by omega
      generalize reservedZ s = Q at *
      cases Q
      · rw [Bool.not_false, Bool.true_and] at hn
        have HN := hid hn
        clear hn
        go_enter Try.func22, Try.ntmps22
        go_wp2_with fail
        refine (hr _).mono ?_
        rintro e w1 ⟨rfl, hx⟩
        have HX := hid hx
        clear hx hr
        go_wp2_with fail
        go_loopw [3] (fun x wr => ∃ i : Nat, i ≤ s.size ∧ x = .int .i64 (i : Int) ∧ Hid (R = lettersZ i (s.data.toList.drop i)) ∧ wr = w1)
          (fun x _ => s.size - (intOf x).toNat)
        case atStart => exact ⟨0, by omega, rfl, hid HN.out, rfl⟩
        case round =>
          obtain ⟨i, hi, rfl, ho, rfl⟩ := hrel
          by_cases hlt : i < s.size
          · have hat := hid (letters_at hlt)
            rcases byte_ways (s[i]'hlt).toNat with ⟨b0, b1⟩ | ⟨b0, b1⟩ | b0 | ⟨b0, b1⟩ | ⟨b0, b1, b2⟩ | b0
            · go_wp2_with fail
              go_roundw
              case rel => exact ⟨i + 1, by omega, by go_num, hid (by rw [ho.out, hat.out, letter_of (r := true) (by simp only [true_iff]; omega), Bool.true_and]), trivial⟩
              case measure => simp only [intOf]; omega
            · by_cases z : i = 0
              · subst z
                go_wp2_with fail
                go_ret
                exact ⟨by rw [ho.out, hat.out, letter_of (r := false) (by simp only [Bool.false_eq_true, false_iff]; omega), Bool.false_and]; rfl, HX.out⟩
              · have z' : ((i : Int) == 0) = false := beq_eq_false_iff_ne.2 (by omega)
                go_wp2_with fail
                go_roundw
                case rel => exact ⟨i + 1, by omega, by go_num, hid (by rw [ho.out, hat.out, letter_of (r := true) (by simp only [true_iff]; omega), Bool.true_and]), trivial⟩
                case measure => simp only [intOf]; omega
            · by_cases z : i = 0
              · subst z
                go_wp2_with fail
                go_ret
                exact ⟨by rw [ho.out, hat.out, letter_of (r := false) (by simp only [Bool.false_eq_true, false_iff]; omega), Bool.false_and]; rfl, HX.out⟩
              · have z' : ((i : Int) == 0) = false := beq_eq_false_iff_ne.2 (by omega)
                have b9 : (((s[i]'hlt).toNat : Int) == 95) = true := beq_iff_eq.2 (by omega)
                go_wp2_with fail
                go_roundw
                case rel => exact ⟨i + 1, by omega, by go_num, hid (by rw [ho.out, hat.out, letter_of (r := true) (by simp only [true_iff]; omega), Bool.true_and]), trivial⟩
                case measure => simp only [intOf]; omega
            · have b9 : (((s[i]'hlt).toNat : Int) == 95) = false := beq_eq_false_iff_ne.2 (by omega)
              by_cases z : i = 0
              · subst z
                go_wp2_with fail
                go_ret
                exact ⟨by rw [ho.out, hat.out, letter_of (r := false) (by simp only [Bool.false_eq_true, false_iff]; omega), Bool.false_and]; rfl, HX.out⟩
              · have z' : ((i : Int) == 0) = false := beq_eq_false_iff_ne.2 (by omega)
                go_wp2_with fail
                go_ret
                exact ⟨by rw [ho.out, hat.out, letter_of (r := false) (by simp only [Bool.false_eq_true, false_iff]; omega), Bool.false_and]; rfl, HX.out⟩
            · have b9 : (((s[i]'hlt).toNat : Int) == 95) = false := beq_eq_false_iff_ne.2 (by omega)
              have d57 : decide (((s[i]'hlt).toNat : Int) ≤ 57) = false := decide_eq_false (by omega)
              by_cases z : i = 0
              · subst z
                go_wp2_with fail
                go_ret
                exact ⟨by rw [ho.out, hat.out, letter_of (r := false) (by simp only [Bool.false_eq_true, false_iff]; omega), Bool.false_and]; rfl, HX.out⟩
              · have z' : ((i : Int) == 0) = false := beq_eq_false_iff_ne.2 (by omega)
                go_wp2_with fail
                go_ret
                exact ⟨by rw [ho.out, hat.out, letter_of (r := false) (by simp only [Bool.false_eq_true, false_iff]; omega), Bool.false_and]; rfl, HX.out⟩
            · have b9 : (((s[i]'hlt).toNat : Int) == 95) = false := beq_eq_false_iff_ne.2 (by omega)
              have d57 : decide (((s[i]'hlt).toNat : Int) ≤ 57) = false := decide_eq_false (by omega)
              have d122 : decide (((s[i]'hlt).toNat : Int) ≤ 122) = false := decide_eq_false (by omega)
              by_cases z : i = 0
              · subst z
                go_wp2_with fail
                go_ret
                exact ⟨by rw [ho.out, hat.out, letter_of (r := false) (by simp only [Bool.false_eq_true, false_iff]; omega), Bool.false_and]; rfl, HX.out⟩
              · have z' : ((i : Int) == 0) = false := beq_eq_false_iff_ne.2 (by omega)
                go_wp2_with fail
                go_ret
                exact ⟨by rw [ho.out, hat.out, letter_of (r := false) (by simp only [Bool.false_eq_true, false_iff]; omega), Bool.false_and]; rfl, HX.out⟩
          · have hi' : i = s.size := by omega
            subst hi'
            go_wp2_with fail
            go_ret
            exact ⟨by rw [ho.out, letters_last]; rfl, HX.out⟩
      · subst hn
        go_enter Try.func22, Try.ntmps22
        go_wp2_with fail
        refine (hr _).mono ?_
        rintro e w1 ⟨rfl, hx⟩
        go_wp2_with fail
        go_ret
        exact ⟨rfl, hx⟩
end Go.Proofs.Ytggafdimbddflaa
