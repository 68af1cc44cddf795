/- The document's Sign and Op, by their contracts. Conditions: none. -/
import Derived.Test.YtaahaehgdamkdaaCSpec
import Derived.Test.YtaahaehgdamkdaaVR1
import Derived.Test.YtaahaehgdamkdaaVOrd
import Derived.BigQuiet
namespace Go.Proofs.Ytaahaehgdamkdaa
open Go Go.RowKit

set_option maxHeartbeats 2000000 in
theorem rsign5_any (o : Nat) (w : World) : Calls Try.prog 18 #[.int .u8 (o : Int)] w (Says w (.string (signV o))) := by
  by_cases h : 6 < o
  · have h6 : 6 < (o : Int) := by omega
    have e : signV o = noText := by
      unfold signV
      rw [if_neg (by omega), if_neg (by omega), if_neg (by omega), if_neg (by omega), if_neg (by omega), if_neg (by omega)]
    rw [e]
    clear h e
    go_enter Try.func18, Try.ntmps18
    go_wp2_with fail
    all_goals go_ret
    all_goals exact ⟨rfl, Ext.alloc _ _⟩
  · have : o = 0 ∨ o = 1 ∨ o = 2 ∨ o = 3 ∨ o = 4 ∨ o = 5 ∨ o = 6 := by omega
    rcases this with rfl | rfl | rfl | rfl | rfl | rfl | rfl
    all_goals
      go_enter Try.func18, Try.ntmps18
      go_wp2_with fail
      go_ret
      exact ⟨rfl, Ext.alloc _ _⟩

theorem op_at {i : Nat} {s : ByteArray} (h1 : 1 ≤ i) (h6 : i ≤ 6) (h : signV i = s) : opV s = i := by
  subst h
  have : i = 1 ∨ i = 2 ∨ i = 3 ∨ i = 4 ∨ i = 5 ∨ i = 6 := by omega
  rcases this with rfl | rfl | rfl | rfl | rfl | rfl
  all_goals decide
theorem op_none {s : ByteArray} (h : ∀ j, 1 ≤ j → j < 7 → signV j ≠ s) : opV s = 0 := by
  unfold opV
  rw [if_neg (fun e => h 1 (by omega) (by omega) e.symm), if_neg (fun e => h 2 (by omega) (by omega) e.symm), if_neg (fun e => h 3 (by omega) (by omega) e.symm), if_neg (fun e => h 4 (by omega) (by omega) e.symm), if_neg (fun e => h 5 (by omega) (by omega) e.symm), if_neg (fun e => h 6 (by omega) (by omega) e.symm)]

set_option maxHeartbeats 2000000 in
theorem rop5_any (s : ByteArray) (w : World) : Calls Try.prog 20 #[.string s] w (Says w (.int .u8 (opV s : Int))) := by
  go_enter Try.func20, Try.ntmps20
  go_wp2_with fail
  go_loopw [3] (fun x wr => ∃ i : Nat, 1 ≤ i ∧ i ≤ 7 ∧ x = .int .u8 (i : Int) ∧ Hid (∀ j, 1 ≤ j → j < i → signV j ≠ s) ∧ Ext w wr)
    (fun x _ => 7 - (intOf x).toNat)
  case atStart => exact ⟨1, by omega, by omega, rfl, hid (fun j h1 h2 => by omega), Ext.refl w⟩
  case round =>
    obtain ⟨i, h1, h7, rfl, ho, hext⟩ := hrel
    by_cases h6 : (i : Int) ≤ 6
    · have hs := fun W => rsign5_any i W
      have hat := @op_at i s h1 (by omega)
      obtain ⟨S, hS⟩ : ∃ S, S = signV i := ⟨_, rfl⟩
      rw [← hS] at hs hat
      have HS := hid hS
      have HA := hid hat
      clear hS hat
      go_wp2_with fail
      refine (hs _).mono ?_
      rintro e w1 ⟨rfl, hx⟩
      replace hext := hext.trans hx
      by_cases he : S = s
      · subst he
        go_wp2_with fail
        go_ret
        exact Says.mk_int (by rw [HA.out trivial]) hext
      · have hb : (S.toList == s.toList) = false := beq_eq_false_iff_ne.2 (fun e => he ((list_ba S s).1 e))
        go_wp2_with fail
        go_roundw
        case rel => exact ⟨i + 1, by omega, by omega, by go_num, hid (fun j g1 g2 => by
          by_cases hj : j = i
          · subst hj; rw [← HS.out]; exact he
          · exact ho.out j g1 (by omega)), hext⟩
        case measure => simp only [intOf]; omega
    · have hi : i = 7 := by omega
      subst hi
      have H := hid (op_none ho.out)
      go_wp2_with fail
      go_ret
      exact Says.mk_int (by rw [H.out]; rfl) hext
end Go.Proofs.Ytaahaehgdamkdaa
