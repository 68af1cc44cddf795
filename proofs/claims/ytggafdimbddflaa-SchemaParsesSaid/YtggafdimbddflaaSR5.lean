/- The document's cut and kind, by their contracts. Conditions: numbers within their kinds. -/
import Derived.Test.YtggafdimbddflaaSR4
import Derived.BigQuiet
namespace Go.Proofs.Ytggafdimbddflaa
open Go Go.RowKit

theorem bytesA_list (l : List UInt8) : (bytesA l).data.toList = l := rfl
theorem bytesA_self (s : ByteArray) : bytesA s.data.toList = s := ba_eq rfl
theorem extract_take (s : ByteArray) (i : Nat) : s.extract 0 i = bytesA (s.data.toList.take i) := by
  refine ba_eq ?_
  rw [bytesA_list]
  simp
theorem extract_drop (s : ByteArray) (i : Nat) : s.extract i s.size = bytesA (s.data.toList.drop i) := by
  refine ba_eq ?_
  rw [bytesA_list]
  simp
  exact List.take_of_length_le (by rw [List.length_drop, size_toList]; exact Nat.le_refl _)
/-- what the document's cut tells, as texts -/
def SaysCut (w : World) (c : UInt8) (s : ByteArray) (e : Ending) (w' : World) : Prop :=
  e = .returned (.tuple #[.string (bytesA (cutZ c s.data.toList).1), .string (bytesA (cutZ c s.data.toList).2.1), .bool (cutZ c s.data.toList).2.2]) ∧ Ext w w'

theorem cut_found {c : UInt8} : ∀ (l : List UInt8) (i : Nat), (∀ j < i, l[j]? ≠ some c) → l[i]? = some c → cutZ c l = (l.take i, l.drop (i + 1), true)
  | [], i, _, h => by cases h
  | b :: r, 0, _, h => cut_here (Option.some.inj h)
  | b :: r, i + 1, ho, h => by
    have hb : b ≠ c := fun e => ho 0 (Nat.succ_pos _) (congrArg some e)
    rw [cut_on hb, cut_found r i (fun j hj => ho (j + 1) (Nat.succ_lt_succ hj)) h]
    rfl
theorem cut_none {c : UInt8} : ∀ (l : List UInt8), (∀ j < l.length, l[j]? ≠ some c) → cutZ c l = (l, [], false)
  | [], _ => rfl
  | b :: r, ho => by
    have hb : b ≠ c := fun e => ho 0 (Nat.succ_pos _) (congrArg some e)
    rw [cut_on hb, cut_none r (fun j hj => ho (j + 1) (Nat.succ_lt_succ hj))]

set_option maxRecDepth 100000 in
set_option maxHeartbeats 2000000 in
theorem rcut_any (s : ByteArray) (c : UInt8) (w : World) (hs : s.size ≤ 9223372036854775806) : Calls Try.prog 50 #[.string s, .int .u8 (c.toNat : Int)] w (SaysCut w c s) := by
  go_enter Try.func50, Try.ntmps50
  go_wp2_with fail
  go_loopw [7] (fun x wr => ∃ i : Nat, i ≤ s.size ∧ x = .int .i64 (i : Int) ∧ Hid (∀ j < i, s.data.toList[j]? ≠ some c) ∧ wr = w)
    (fun x _ => s.size - (intOf x).toNat)
  case atStart => exact ⟨0, by omega, rfl, hid (fun j h => absurd h (Nat.not_lt_zero _)), rfl⟩
  case round =>
    obtain ⟨i, hi, rfl, ho, rfl⟩ := hrel
    by_cases hlt : i < s.size
    · have hget : s.data.toList[i]? = some (s[i]'hlt) := List.getElem?_eq_getElem (by rw [size_toList]; exact hlt)
      have HG := hid hget
      clear hget
      by_cases he : s[i]'hlt = c
      · have hb : (((s[i]'hlt).toNat : Int) == (c.toNat : Int)) = true := by rw [he]; exact beq_iff_eq.2 rfl
        have HC := hid (cut_found s.data.toList i ho.out (by rw [HG.out, he]))
        clear he
        have hi1 : ((i : Int) + 1) ≤ (s.size : Int) := by omega
        go_wp2_with fail
        go_quiet (fail)
        go_wp2_with fail
        go_ret3
        refine ⟨?_, Ext.drewN _ _⟩
        rw [HC.out, ← extract_take, ← extract_drop]
        rfl
      · have hb : (((s[i]'hlt).toNat : Int) == (c.toNat : Int)) = false := beq_eq_false_iff_ne.2 (fun e => he (UInt8.toNat_inj.1 (by omega)))
        have HE := hid he
        clear he
        go_wp2_with fail
        go_roundw
        case rel => exact ⟨i + 1, by omega, by go_num, hid (fun j h => by
          by_cases e : j = i
          · subst e; rw [HG.out]; exact fun e => HE.out (Option.some.inj e)
          · exact ho.out j (by omega)), trivial⟩
        case measure => simp only [intOf]; omega
    · have hi' : i = s.size := by omega
      subst hi'
      have HC := hid (cut_none s.data.toList ho.out)
      go_wp2_with fail
      go_ret3
      refine ⟨?_, Ext.refl _⟩
      rw [HC.out, bytesA_self]
      rfl

theorem kind_at {i : Nat} {s : ByteArray} (h1 : 1 ≤ i) (h4 : i ≤ 4) (h : wordV i = s) : kindOf s.data.toList = i := by
  subst h
  have : i = 1 ∨ i = 2 ∨ i = 3 ∨ i = 4 := by omega
  rcases this with rfl | rfl | rfl | rfl
  all_goals decide
theorem kind_no {s : ByteArray} (h : ∀ j, 1 ≤ j → j < 5 → wordV j ≠ s) : kindOf s.data.toList = 0 := by
  unfold kindOf
  rw [if_neg (fun e => h 1 (by omega) (by omega) (ba_eq e.symm)), if_neg (fun e => h 2 (by omega) (by omega) (ba_eq e.symm)), if_neg (fun e => h 3 (by omega) (by omega) (ba_eq e.symm)), if_neg (fun e => h 4 (by omega) (by omega) (ba_eq e.symm))]

set_option maxHeartbeats 2000000 in
theorem rkind6_just (s : ByteArray) (w : World) : Calls Try.prog 61 #[.string s] w (Just w (.int .u8 (kindOf s.data.toList : Int))) := by
  go_enter Try.func61, Try.ntmps61
  go_wp2_with fail
  go_loopw [3] (fun x wr => ∃ i : Nat, 1 ≤ i ∧ i ≤ 5 ∧ x = .int .u8 (i : Int) ∧ Hid (∀ j, 1 ≤ j → j < i → wordV j ≠ s) ∧ wr = w)
    (fun x _ => 5 - (intOf x).toNat)
  case atStart => exact ⟨1, by omega, by omega, rfl, hid (fun j h1 h2 => by omega), rfl⟩
  case round =>
    obtain ⟨i, h1, h7, rfl, ho, rfl⟩ := hrel
    by_cases h6 : (i : Int) ≤ 4
    · have hs := fun W => rword4_just i W
      have hat := @kind_at i s h1 (by omega)
      obtain ⟨S, hS⟩ : ∃ S, S = wordV i := ⟨_, rfl⟩
      rw [← hS] at hs hat
      have HS := hid hS
      have HA := hid hat
      clear hS hat
      go_wp2_with fail
      refine (hs _).mono ?_
      rintro e w1 ⟨rfl, rfl⟩
      by_cases he : S = s
      · subst he
        go_wp2_with fail
        go_ret
        exact Just.mk_int (by rw [HA.out trivial])
      · have hb : (S.toList == s.toList) = false := beq_eq_false_iff_ne.2 (fun e => he ((list_ba S s).1 e))
        go_wp2_with fail
        go_roundw
        case rel => exact ⟨i + 1, by omega, by omega, by go_num, hid (fun j g1 g2 => by
          by_cases hj : j = i
          · subst hj; rw [← HS.out]; exact he
          · exact ho.out j g1 (by omega)), trivial⟩
        case measure => simp only [intOf]; omega
    · have hi : i = 5 := by omega
      subst hi
      have H := hid (kind_no ho.out)
      go_wp2_with fail
      go_ret
      exact Just.mk_int (by rw [H.out]; rfl)
end Go.Proofs.Ytggafdimbddflaa
