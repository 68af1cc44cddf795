/- Bits of bytes and of numbers of 64 bits. Plain; conditions: none. -/
import Derived.Laws.BitsAllLaws
import Derived.Laws.Bits128
namespace Go.Proofs.Ytkblpbpmaoofgaa
open Go

/-- all ones less b -/
theorem ones_xor (b : Nat) (hb : b < 2 ^ 64) : (2 ^ 64 - 1) ^^^ b = 2 ^ 64 - 1 - b := by
  apply Nat.eq_of_testBit_eq
  intro i
  rw [Nat.testBit_xor, Nat.testBit_two_pow_sub_one, show 2 ^ 64 - 1 - b = 2 ^ 64 - (b + 1) by omega, Nat.testBit_two_pow_sub_succ hb]
  by_cases hi : i < 64
  · simp [hi]
  · have : b.testBit i = false := Nat.testBit_lt_two_pow (Nat.lt_of_lt_of_le hb (Nat.pow_le_pow_right (by decide) (by omega)))
    simp [hi, this]

theorem u64_not {x : Int} (h0 : 0 ≤ x) (h1 : x < 18446744073709551616) : bits .xor .u64 IntKind.u64.max x = 18446744073709551615 - x := by
  obtain ⟨b, rfl⟩ := Int.eq_ofNat_of_zero_le h0
  have e2 : IntKind.u64.max = ((2 ^ 64 - 1 : Nat) : Int) := by decide
  rw [e2, u64_xor_nat _ _ (by decide) (by omega), ones_xor _ (by omega)]
  omega

theorem i64_not' {x : Int} (h0 : 0 ≤ x) (h1 : x < 9223372036854775808) : bits .xor .i64 (-1) x = -x - 1 := by
  obtain ⟨b, rfl⟩ := Int.eq_ofNat_of_zero_le h0
  show IntKind.i64.wrap ((BitVec.ofInt 64 (-1) ^^^ BitVec.ofInt 64 (b : Int)).toNat : Int) = _
  have e1 : (BitVec.ofInt 64 (-1)).toNat = 2 ^ 64 - 1 := by decide
  have e2 : (BitVec.ofInt 64 (b : Int)).toNat = b := by
    rw [BitVec.ofInt_natCast, BitVec.toNat_ofNat]; exact Nat.mod_eq_of_lt (by omega)
  rw [BitVec.toNat_xor, e1, e2, ones_xor b (by omega), IntKind.wrap_i64]
  omega

theorem u64_bit {x : Int} (h0 : 0 ≤ x) (h1 : x < 18446744073709551616) : bits .and .u64 x 1 = x % 2 := by
  obtain ⟨b, rfl⟩ := Int.eq_ofNat_of_zero_le h0
  rw [show (1 : Int) = ((1 : Nat) : Int) from rfl, u64_and_nat b 1 (by omega) (by decide), Nat.and_one_is_mod]
  omega

/-- the highest bit of a byte taken off -/
theorem u8_low {x : Int} (h0 : 0 ≤ x) (h1 : x < 256) : bits .andNot .u8 x 128 = x % 128 := by
  obtain ⟨b, rfl⟩ := Int.eq_ofNat_of_zero_le h0
  rw [show (128 : Int) = ((128 : Nat) : Int) from rfl, u8_andNot_nat b 128 (by omega) (by decide)]
  have : b &&& (255 - 128) = b % 128 := Nat.and_two_pow_sub_one_eq_mod b 7
  rw [this]
  omega
set_option maxRecDepth 100000 in
/-- the highest bit of a byte put on -/
theorem u8_high {x : Int} (h0 : 0 ≤ x) (h1 : x < 256) : bits .or .u8 x 128 = x % 128 + 128 := by
  obtain ⟨b, rfl⟩ := Int.eq_ofNat_of_zero_le h0
  rw [show (128 : Int) = ((128 : Nat) : Int) from rfl, u8_or_nat b 128 (by omega) (by decide)]
  have h : ∀ b : Fin 256, b.val ||| 128 = b.val % 128 + 128 := by decide
  rw [show b ||| 128 = b % 128 + 128 from h ⟨b, by omega⟩]
  omega
set_option maxRecDepth 100000 in
/-- the highest bit of a byte told -/
theorem u8_top {x : Int} (h0 : 0 ≤ x) (h1 : x < 256) : bits .and .u8 x 128 = if x < 128 then 0 else 128 := by
  obtain ⟨b, rfl⟩ := Int.eq_ofNat_of_zero_le h0
  rw [show (128 : Int) = ((128 : Nat) : Int) from rfl, u8_and_nat b 128 (by omega) (by decide)]
  have h : ∀ b : Fin 256, b.val &&& 128 = if b.val < 128 then 0 else 128 := by decide
  rw [show b &&& 128 = if b < 128 then 0 else 128 from h ⟨b, by omega⟩]
  split <;> rename_i hh <;> simp <;> omega

end Go.Proofs.Ytkblpbpmaoofgaa
