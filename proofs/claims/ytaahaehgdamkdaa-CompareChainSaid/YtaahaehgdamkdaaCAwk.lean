/- telltalelaw05.awake answers true, and changes nothing that was there. Conditions: none. -/
import Derived.Test.YtaahaehgdamkdaaCP1
import Derived.Test.YtaahaehgdamkdaaCP2
import Derived.Test.YtaahaehgdamkdaaCP4
import Derived.Test.YtaahaehgdamkdaaCP5
import Derived.Test.YtaahaehgdamkdaaVV1
import Derived.Test.YtaahaehgdamkdaaVV4
import Derived.Test.YtaahaehgdamkdaaVR1
import Derived.Test.YtaahaehgdamkdaaBase
import Derived.Test.YtaahaehgdamkdaaOct4
import Derived.Test.YtaahaehgdamkdaaVR5
import Derived.Test.YtaahaehgdamkdaaVV2
import Derived.Test.YtaahaehgdamkdaaVV3
import Derived.Test.YtaahaehgdamkdaaVV5
import Derived.Test.YtaahaehgdamkdaaCR7
import Derived.BigQuiet
import Derived.Lib.AppendZeros
namespace Go.Proofs.Ytaahaehgdamkdaa
open Go Go.RowKit

theorem car1 : (ofRealV 9221120237041090560).v = .agg #[.int .u8 3, .int .i64 0, .int .u64 9221120237041090560, .string ⟨#[]⟩] := by kernel_rfl
theorem cr1 (W : World) : Calls Try.prog 27 #[.int .u64 9221120237041090560] W (fun e w' => e = .returned (.agg #[.int .u8 3, .int .i64 0, .int .u64 9221120237041090560, .string ⟨#[]⟩]) ∧ Ext W w') := by
  have h := vofreal_any 9221120237041090560 W (by decide)
  rw [car1] at h
  exact h
theorem car2 : (ofRealV 4602678819172646912).v = .agg #[.int .u8 3, .int .i64 0, .int .u64 4602678819172646912, .string ⟨#[]⟩] := by kernel_rfl
theorem cr2 (W : World) : Calls Try.prog 27 #[.int .u64 4602678819172646912] W (fun e w' => e = .returned (.agg #[.int .u8 3, .int .i64 0, .int .u64 4602678819172646912, .string ⟨#[]⟩]) ∧ Ext W w') := by
  have h := vofreal_any 4602678819172646912 W (by decide)
  rw [car2] at h
  exact h
theorem car3 : (ofRealV 4845873199050653696).v = .agg #[.int .u8 3, .int .i64 0, .int .u64 4845873199050653696, .string ⟨#[]⟩] := by kernel_rfl
theorem cr3 (W : World) : Calls Try.prog 27 #[.int .u64 4845873199050653696] W (fun e w' => e = .returned (.agg #[.int .u8 3, .int .i64 0, .int .u64 4845873199050653696, .string ⟨#[]⟩]) ∧ Ext W w') := by
  have h := vofreal_any 4845873199050653696 W (by decide)
  rw [car3] at h
  exact h
theorem car4 : (ofRealV 0).v = .agg #[.int .u8 3, .int .i64 0, .int .u64 0, .string ⟨#[]⟩] := by kernel_rfl
theorem cr4 (W : World) : Calls Try.prog 27 #[.int .u64 0] W (fun e w' => e = .returned (.agg #[.int .u8 3, .int .i64 0, .int .u64 0, .string ⟨#[]⟩]) ∧ Ext W w') := by
  have h := vofreal_any 0 W (by decide)
  rw [car4] at h
  exact h
theorem car5 : (ofRealV 9223372036854775808).v = .agg #[.int .u8 3, .int .i64 0, .int .u64 9223372036854775808, .string ⟨#[]⟩] := by kernel_rfl
theorem cr5 (W : World) : Calls Try.prog 27 #[.int .u64 9223372036854775808] W (fun e w' => e = .returned (.agg #[.int .u8 3, .int .i64 0, .int .u64 9223372036854775808, .string ⟨#[]⟩]) ∧ Ext W w') := by
  have h := vofreal_any 9223372036854775808 W (by decide)
  rw [car5] at h
  exact h
theorem car6 : (ofRealV 4609434218613702656).v = .agg #[.int .u8 3, .int .i64 0, .int .u64 4609434218613702656, .string ⟨#[]⟩] := by kernel_rfl
theorem cr6 (W : World) : Calls Try.prog 27 #[.int .u64 4609434218613702656] W (fun e w' => e = .returned (.agg #[.int .u8 3, .int .i64 0, .int .u64 4609434218613702656, .string ⟨#[]⟩]) ∧ Ext W w') := by
  have h := vofreal_any 4609434218613702656 W (by decide)
  rw [car6] at h
  exact h
theorem cai1 : (ofIntV (1)).v = .agg #[.int .u8 1, .int .i64 1, .int .u64 0, .string ⟨#[]⟩] := by kernel_rfl
theorem ci1 (W : World) : Calls Try.prog 28 #[.int .i64 1] W (fun e w' => e = .returned (.agg #[.int .u8 1, .int .i64 1, .int .u64 0, .string ⟨#[]⟩]) ∧ Ext W w') := by
  have h := vofint_any (1) W (by decide) (by decide)
  rw [cai1] at h
  exact h
theorem cai2 : (ofIntV (3)).v = .agg #[.int .u8 1, .int .i64 3, .int .u64 0, .string ⟨#[]⟩] := by kernel_rfl
theorem ci2 (W : World) : Calls Try.prog 28 #[.int .i64 3] W (fun e w' => e = .returned (.agg #[.int .u8 1, .int .i64 3, .int .u64 0, .string ⟨#[]⟩]) ∧ Ext W w') := by
  have h := vofint_any (3) W (by decide) (by decide)
  rw [cai2] at h
  exact h
theorem cai3 : (ofIntV (4611686018427387904)).v = .agg #[.int .u8 1, .int .i64 4611686018427387904, .int .u64 0, .string ⟨#[]⟩] := by kernel_rfl
theorem ci3 (W : World) : Calls Try.prog 28 #[.int .i64 4611686018427387904] W (fun e w' => e = .returned (.agg #[.int .u8 1, .int .i64 4611686018427387904, .int .u64 0, .string ⟨#[]⟩]) ∧ Ext W w') := by
  have h := vofint_any (4611686018427387904) W (by decide) (by decide)
  rw [cai3] at h
  exact h
theorem cai4 : (ofIntV (9007199254740993)).v = .agg #[.int .u8 1, .int .i64 9007199254740993, .int .u64 0, .string ⟨#[]⟩] := by kernel_rfl
theorem ci4 (W : World) : Calls Try.prog 28 #[.int .i64 9007199254740993] W (fun e w' => e = .returned (.agg #[.int .u8 1, .int .i64 9007199254740993, .int .u64 0, .string ⟨#[]⟩]) ∧ Ext W w') := by
  have h := vofint_any (9007199254740993) W (by decide) (by decide)
  rw [cai4] at h
  exact h
theorem cai5 : (ofIntV (-2)).v = .agg #[.int .u8 1, .int .i64 (-2), .int .u64 0, .string ⟨#[]⟩] := by kernel_rfl
theorem ci5 (W : World) : Calls Try.prog 28 #[.int .i64 (-2)] W (fun e w' => e = .returned (.agg #[.int .u8 1, .int .i64 (-2), .int .u64 0, .string ⟨#[]⟩]) ∧ Ext W w') := by
  have h := vofint_any (-2) W (by decide) (by decide)
  rw [cai5] at h
  exact h
theorem cat1 : (ofTextV ⟨#[97]⟩).v = .agg #[.int .u8 4, .int .i64 0, .int .u64 0, .string ⟨#[97]⟩] := by kernel_rfl
theorem ct1 (W : World) : Calls Try.prog 30 #[.string ⟨#[97]⟩] W (fun e w' => e = .returned (.agg #[.int .u8 4, .int .i64 0, .int .u64 0, .string ⟨#[97]⟩]) ∧ Ext W w') := by
  have h := voftext_any ⟨#[97]⟩ W (by decide)
  rw [cat1] at h
  exact h
theorem cat2 : (ofTextV ⟨#[97, 98]⟩).v = .agg #[.int .u8 4, .int .i64 0, .int .u64 0, .string ⟨#[97, 98]⟩] := by kernel_rfl
theorem ct2 (W : World) : Calls Try.prog 30 #[.string ⟨#[97, 98]⟩] W (fun e w' => e = .returned (.agg #[.int .u8 4, .int .i64 0, .int .u64 0, .string ⟨#[97, 98]⟩]) ∧ Ext W w') := by
  have h := voftext_any ⟨#[97, 98]⟩ W (by decide)
  rw [cat2] at h
  exact h
theorem caf1 : (ofFlagV false).v = .agg #[.int .u8 2, .int .i64 0, .int .u64 0, .string ⟨#[]⟩] := by kernel_rfl
theorem cf1 (W : World) : Calls Try.prog 29 #[.bool false] W (fun e w' => e = .returned (.agg #[.int .u8 2, .int .i64 0, .int .u64 0, .string ⟨#[]⟩]) ∧ Ext W w') := by
  have h := vofflag_any false W
  rw [caf1] at h
  exact h
theorem caf2 : (ofFlagV true).v = .agg #[.int .u8 2, .int .i64 1, .int .u64 0, .string ⟨#[]⟩] := by kernel_rfl
theorem cf2 (W : World) : Calls Try.prog 29 #[.bool true] W (fun e w' => e = .returned (.agg #[.int .u8 2, .int .i64 1, .int .u64 0, .string ⟨#[]⟩]) ∧ Ext W w') := by
  have h := vofflag_any true W
  rw [caf2] at h
  exact h
theorem cah1 : holdsV 5 1 (9007199254740993) 0 ⟨#[]⟩ 3 (0) 4845873199050653696 ⟨#[]⟩ = true := by decide +kernel
theorem ch1 (W : World) : Calls Try.prog 11 #[.int .u8 5, .agg #[.int .u8 1, .int .i64 9007199254740993, .int .u64 0, .string ⟨#[]⟩], .agg #[.int .u8 3, .int .i64 0, .int .u64 4845873199050653696, .string ⟨#[]⟩]] W (fun e w' => e = .returned (.bool true) ∧ Ext W w') := by
  have h := cholds_any 5 1 (9007199254740993) 0 ⟨#[]⟩ 3 (0) 4845873199050653696 ⟨#[]⟩ W (by decide) (by decide) (by decide) (by decide) (by decide) (by decide) (by decide) (by decide) (by decide) (by decide) (by decide)
  rw [cah1] at h
  exact h
theorem cah2 : holdsV 2 3 (0) 9221120237041090560 ⟨#[]⟩ 3 (0) 9221120237041090560 ⟨#[]⟩ = true := by decide +kernel
theorem ch2 (W : World) : Calls Try.prog 11 #[.int .u8 2, .agg #[.int .u8 3, .int .i64 0, .int .u64 9221120237041090560, .string ⟨#[]⟩], .agg #[.int .u8 3, .int .i64 0, .int .u64 9221120237041090560, .string ⟨#[]⟩]] W (fun e w' => e = .returned (.bool true) ∧ Ext W w') := by
  have h := cholds_any 2 3 (0) 9221120237041090560 ⟨#[]⟩ 3 (0) 9221120237041090560 ⟨#[]⟩ W (by decide) (by decide) (by decide) (by decide) (by decide) (by decide) (by decide) (by decide) (by decide) (by decide) (by decide)
  rw [cah2] at h
  exact h
theorem cah3 : holdsV 1 3 (0) 9221120237041090560 ⟨#[]⟩ 3 (0) 9221120237041090560 ⟨#[]⟩ = false := by decide +kernel
theorem ch3 (W : World) : Calls Try.prog 11 #[.int .u8 1, .agg #[.int .u8 3, .int .i64 0, .int .u64 9221120237041090560, .string ⟨#[]⟩], .agg #[.int .u8 3, .int .i64 0, .int .u64 9221120237041090560, .string ⟨#[]⟩]] W (fun e w' => e = .returned (.bool false) ∧ Ext W w') := by
  have h := cholds_any 1 3 (0) 9221120237041090560 ⟨#[]⟩ 3 (0) 9221120237041090560 ⟨#[]⟩ W (by decide) (by decide) (by decide) (by decide) (by decide) (by decide) (by decide) (by decide) (by decide) (by decide) (by decide)
  rw [cah3] at h
  exact h
theorem cah4 : holdsV 1 3 (0) 0 ⟨#[]⟩ 3 (0) 9223372036854775808 ⟨#[]⟩ = true := by decide +kernel
theorem ch4 (W : World) : Calls Try.prog 11 #[.int .u8 1, .agg #[.int .u8 3, .int .i64 0, .int .u64 0, .string ⟨#[]⟩], .agg #[.int .u8 3, .int .i64 0, .int .u64 9223372036854775808, .string ⟨#[]⟩]] W (fun e w' => e = .returned (.bool true) ∧ Ext W w') := by
  have h := cholds_any 1 3 (0) 0 ⟨#[]⟩ 3 (0) 9223372036854775808 ⟨#[]⟩ W (by decide) (by decide) (by decide) (by decide) (by decide) (by decide) (by decide) (by decide) (by decide) (by decide) (by decide)
  rw [cah4] at h
  exact h
theorem cah5 : holdsV 3 2 (0) 0 ⟨#[]⟩ 2 (1) 0 ⟨#[]⟩ = false := by decide +kernel
theorem ch5 (W : World) : Calls Try.prog 11 #[.int .u8 3, .agg #[.int .u8 2, .int .i64 0, .int .u64 0, .string ⟨#[]⟩], .agg #[.int .u8 2, .int .i64 1, .int .u64 0, .string ⟨#[]⟩]] W (fun e w' => e = .returned (.bool false) ∧ Ext W w') := by
  have h := cholds_any 3 2 (0) 0 ⟨#[]⟩ 2 (1) 0 ⟨#[]⟩ W (by decide) (by decide) (by decide) (by decide) (by decide) (by decide) (by decide) (by decide) (by decide) (by decide) (by decide)
  rw [cah5] at h
  exact h
theorem cah6 : holdsV 2 4 (0) 0 ⟨#[97]⟩ 1 (1) 0 ⟨#[]⟩ = true := by decide +kernel
theorem ch6 (W : World) : Calls Try.prog 11 #[.int .u8 2, .agg #[.int .u8 4, .int .i64 0, .int .u64 0, .string ⟨#[97]⟩], .agg #[.int .u8 1, .int .i64 1, .int .u64 0, .string ⟨#[]⟩]] W (fun e w' => e = .returned (.bool true) ∧ Ext W w') := by
  have h := cholds_any 2 4 (0) 0 ⟨#[97]⟩ 1 (1) 0 ⟨#[]⟩ W (by decide) (by decide) (by decide) (by decide) (by decide) (by decide) (by decide) (by decide) (by decide) (by decide) (by decide)
  rw [cah6] at h
  exact h
theorem cah7 : holdsV 4 4 (0) 0 ⟨#[97]⟩ 4 (0) 0 ⟨#[97, 98]⟩ = true := by decide +kernel
theorem ch7 (W : World) : Calls Try.prog 11 #[.int .u8 4, .agg #[.int .u8 4, .int .i64 0, .int .u64 0, .string ⟨#[97]⟩], .agg #[.int .u8 4, .int .i64 0, .int .u64 0, .string ⟨#[97, 98]⟩]] W (fun e w' => e = .returned (.bool true) ∧ Ext W w') := by
  have h := cholds_any 4 4 (0) 0 ⟨#[97]⟩ 4 (0) 0 ⟨#[97, 98]⟩ W (by decide) (by decide) (by decide) (by decide) (by decide) (by decide) (by decide) (by decide) (by decide) (by decide) (by decide)
  rw [cah7] at h
  exact h
theorem cap1 : plusV 1 (1) 0 ⟨#[]⟩ 3 (0) 4602678819172646912 ⟨#[]⟩ = (⟨3, 0, 4609434218613702656, ⟨#[]⟩⟩, true) := by kernel_rfl
theorem cp1 (W : World) : Calls Try.prog 13 #[.agg #[.int .u8 1, .int .i64 1, .int .u64 0, .string ⟨#[]⟩], .agg #[.int .u8 3, .int .i64 0, .int .u64 4602678819172646912, .string ⟨#[]⟩]] W (fun e w' => e = .returned (.tuple #[.agg #[.int .u8 3, .int .i64 0, .int .u64 4609434218613702656, .string ⟨#[]⟩], .bool true]) ∧ Ext W w') := by
  have h := cplus_any 1 (1) 0 ⟨#[]⟩ 3 (0) 4602678819172646912 ⟨#[]⟩ W (by decide) (by decide) (by decide) (by decide) (by decide) (by decide) (by decide) (by decide) (by decide) (by decide)
  rw [cap1] at h
  exact h
theorem cap2 : minusV 1 (1) 0 ⟨#[]⟩ 1 (3) 0 ⟨#[]⟩ = (⟨1, -2, 0, ⟨#[]⟩⟩, true) := by kernel_rfl
theorem cp2 (W : World) : Calls Try.prog 15 #[.agg #[.int .u8 1, .int .i64 1, .int .u64 0, .string ⟨#[]⟩], .agg #[.int .u8 1, .int .i64 3, .int .u64 0, .string ⟨#[]⟩]] W (fun e w' => e = .returned (.tuple #[.agg #[.int .u8 1, .int .i64 (-2), .int .u64 0, .string ⟨#[]⟩], .bool true]) ∧ Ext W w') := by
  have h := cminus_any 1 (1) 0 ⟨#[]⟩ 1 (3) 0 ⟨#[]⟩ W (by decide) (by decide) (by decide) (by decide) (by decide) (by decide) (by decide) (by decide) (by decide) (by decide)
  rw [cap2] at h
  exact h
theorem cap3 : plusV 1 (4611686018427387904) 0 ⟨#[]⟩ 1 (1) 0 ⟨#[]⟩ = (⟨0, 0, 0, ⟨#[]⟩⟩, false) := by kernel_rfl
theorem cp3 (W : World) : Calls Try.prog 13 #[.agg #[.int .u8 1, .int .i64 4611686018427387904, .int .u64 0, .string ⟨#[]⟩], .agg #[.int .u8 1, .int .i64 1, .int .u64 0, .string ⟨#[]⟩]] W (fun e w' => e = .returned (.tuple #[.agg #[.int .u8 0, .int .i64 0, .int .u64 0, .string ⟨#[]⟩], .bool false]) ∧ Ext W w') := by
  have h := cplus_any 1 (4611686018427387904) 0 ⟨#[]⟩ 1 (1) 0 ⟨#[]⟩ W (by decide) (by decide) (by decide) (by decide) (by decide) (by decide) (by decide) (by decide) (by decide) (by decide)
  rw [cap3] at h
  exact h
theorem cas1 : signV 6 = ⟨#[62, 61]⟩ := by kernel_rfl
theorem cas2 : opV ⟨#[33, 61]⟩ = 2 := by decide +kernel
theorem cs1 (W : World) : Calls Try.prog 17 #[.int .u8 6] W (fun e w' => e = .returned (.string ⟨#[62, 61]⟩) ∧ Ext W w') := by
  have h := csign_any 6 W (by decide)
  rw [cas1] at h
  exact h
theorem cs2 (W : World) : Calls Try.prog 19 #[.string ⟨#[33, 61]⟩] W (fun e w' => e = .returned (.int .u8 2) ∧ Ext W w') := by
  have h := cop_any ⟨#[33, 61]⟩ W
  rw [cas2] at h
  exact h
theorem cs3 (W : World) : Calls Try.prog 21 #[.int .u8 3, .int .u8 1, .int .u8 3] W (fun e w' => e = .returned (.bool true) ∧ Ext W w') := by
  exact cfits_any 3 1 3 W (by decide) (by decide) (by decide)
theorem cs4 (W : World) : Calls Try.prog 21 #[.int .u8 3, .int .u8 2, .int .u8 2] W (fun e w' => e = .returned (.bool false) ∧ Ext W w') := by
  exact cfits_any 3 2 2 W (by decide) (by decide) (by decide)
theorem cs5 (W : World) : Calls Try.prog 23 #[.int .u8 1, .int .u8 3] W (fun e w' => e = .returned (.int .u8 3) ∧ Ext W w') := by
  exact csum_any 1 3 W (by decide) (by decide)

def awkZ : Obj := .cells #[.int .u8 0, .int .i64 0, .int .u64 0, .string ⟨#[]⟩] 28 (0, 0)
def awkS : Obj := .cells #[.int .u8 3, .int .i64 0, .int .u64 4609434218613702656, .string ⟨#[]⟩] 28 (0, 0)
/-- what holds once an operation of the region has run -/
def awkD (B : Nat) : Nat → (Nat → Value) → World → Prop
  | 0, r, _ => r 12 = .agg #[.int .u8 1, .int .i64 1, .int .u64 0, .string ⟨#[]⟩]
  | 1, r, _ => r 13 = .agg #[.int .u8 3, .int .i64 0, .int .u64 4602678819172646912, .string ⟨#[]⟩]
  | 2, r, _ => r 14 = .tuple #[.agg #[.int .u8 3, .int .i64 0, .int .u64 4609434218613702656, .string ⟨#[]⟩], .bool true]
  | 3, r, _ => r 11 = .tuple #[.agg #[.int .u8 3, .int .i64 0, .int .u64 4609434218613702656, .string ⟨#[]⟩], .bool true]
  | 4, r, _ => r 15 = .agg #[.int .u8 3, .int .i64 0, .int .u64 4609434218613702656, .string ⟨#[]⟩]
  | 5, r, _ => r 16 = .bool true
  | 6, r, w => ∃ g, r 3 = .pointer (some ⟨g, 0, none⟩) ∧ B ≤ g ∧ (w.heap[g]? = some awkZ ∨ w.heap[g]? = some awkS)
  | 7, r, w => ∃ g, r 3 = .pointer (some ⟨g, 0, none⟩) ∧ B ≤ g ∧ w.heap[g]? = some awkS
  | 8, r, _ => r 4 = .bool true
  | _, _, _ => True
def awkR : Nat → List Tmp
  | 0 => [12] | 1 => [13] | 2 => [14] | 3 => [11] | 4 => [15] | 5 => [16] | 6 => [3] | 7 => [3] | 8 => [4] | _ => []
theorem awkD_st (B : Nat) : ∀ k r x y, awkD B k r x → LeS B awkZ awkS x y → awkD B k r y := by
  intro k r x y h e
  unfold awkD at *
  split at h
  all_goals first
    | exact h
    | (obtain ⟨g, h1, h2, h3⟩ := h; first | exact ⟨g, h1, h2, h3.elim (fun e3 => (e.2 g).2 e3) (fun e3 => Or.inr ((e.2 g).1 e3))⟩ | exact ⟨g, h1, h2, (e.2 g).1 h3⟩)
    | trivial
theorem awkD_rd (B : Nat) : ∀ k r r' x, (∀ t ∈ awkR k, r t = r' t) → awkD B k r x → awkD B k r' x := by
  intro k r r' x hr h
  unfold awkD awkR at *
  split at h <;> first
    | exact (hr _ (List.mem_singleton.2 rfl)).symm.trans h
    | (obtain ⟨g, h1, h2⟩ := h; exact ⟨g, (hr _ (List.mem_singleton.2 rfl)).symm.trans h1, h2⟩)
    | trivial
theorem awk_store {B g : Nat} {x : World} (hB : B ≤ g) (h : x.heap[g]? = some awkZ ∨ x.heap[g]? = some awkS) :
    LeS B awkZ awkS x ((((x.setCell ⟨g, 0, none⟩ (.int .u8 3)).setCell ⟨g, 1, none⟩ (.int .i64 0)).setCell ⟨g, 2, none⟩ (.int .u64 4609434218613702656)).setCell ⟨g, 3, none⟩ (.string ⟨#[]⟩)) ∧
    ((((x.setCell ⟨g, 0, none⟩ (.int .u8 3)).setCell ⟨g, 1, none⟩ (.int .i64 0)).setCell ⟨g, 2, none⟩ (.int .u64 4609434218613702656)).setCell ⟨g, 3, none⟩ (.string ⟨#[]⟩)).heap[g]? = some awkS := by
  have hg : ((((x.setCell ⟨g, 0, none⟩ (.int .u8 3)).setCell ⟨g, 1, none⟩ (.int .i64 0)).setCell ⟨g, 2, none⟩ (.int .u64 4609434218613702656)).setCell ⟨g, 3, none⟩ (.string ⟨#[]⟩)).heap[g]? = some awkS := by
    rcases h with h | h <;> exact set4 h
  have ho : ∀ k : Nat, k ≠ g → ((((x.setCell ⟨g, 0, none⟩ (.int .u8 3)).setCell ⟨g, 1, none⟩ (.int .i64 0)).setCell ⟨g, 2, none⟩ (.int .u64 4609434218613702656)).setCell ⟨g, 3, none⟩ (.string ⟨#[]⟩)).heap[k]? = x.heap[k]? := fun k hk =>
    (heap_setCell_other _ _ _ _ (by simpa using hk)).trans ((heap_setCell_other _ _ _ _ (by simpa using hk)).trans ((heap_setCell_other _ _ _ _ (by simpa using hk)).trans (heap_setCell_other _ _ _ _ (by simpa using hk))))
  refine ⟨⟨?_, fun k => ?_⟩, hg⟩
  · exact (((Below.refl B x).setCell hB _).setCell hB _ |>.setCell hB _ |>.setCell hB _)
  · by_cases hk : k = g
    · subst hk
      exact ⟨fun _ => hg, fun _ => Or.inr hg⟩
    · rw [ho k hk]
      exact ⟨id, Or.inl⟩
theorem gd (tmps : Array Value) (t : Nat) : tmps.getD t undef = tmps[t]?.getD undef := Array.getD_eq_getD_getElem? ..
/-- what the slots of the region hold -/
def cawkG (_g1 _g3 _g5 : Nat) : Nat → Value → World → Prop
  | 0, v, _ => v = .agg #[.int .u8 1, .int .i64 9007199254740993, .int .u64 0, .string ⟨#[]⟩]
  | 1, v, _ => v = .agg #[.int .u8 3, .int .i64 0, .int .u64 4845873199050653696, .string ⟨#[]⟩]
  | 2, v, _ => v = .bool true
  | 3, v, _ => v = .bool true
  | 4, v, _ => v = .agg #[.int .u8 3, .int .i64 0, .int .u64 9221120237041090560, .string ⟨#[]⟩]
  | 5, v, _ => v = .agg #[.int .u8 3, .int .i64 0, .int .u64 9221120237041090560, .string ⟨#[]⟩]
  | 6, v, _ => v = .bool true
  | 7, v, _ => v = .bool true
  | 8, v, _ => v = .bool true
  | 9, v, _ => v = .agg #[.int .u8 3, .int .i64 0, .int .u64 9221120237041090560, .string ⟨#[]⟩]
  | 10, v, _ => v = .agg #[.int .u8 3, .int .i64 0, .int .u64 9221120237041090560, .string ⟨#[]⟩]
  | 11, v, _ => v = .bool false
  | 12, v, _ => v = .bool true
  | 13, v, _ => v = .bool true
  | 14, v, _ => v = .bool true
  | 15, v, _ => v = .agg #[.int .u8 3, .int .i64 0, .int .u64 0, .string ⟨#[]⟩]
  | 16, v, _ => v = .agg #[.int .u8 3, .int .i64 0, .int .u64 9223372036854775808, .string ⟨#[]⟩]
  | 17, v, _ => v = .bool true
  | 18, v, _ => v = .bool true
  | 19, v, _ => v = .bool true
  | 20, v, _ => v = .agg #[.int .u8 2, .int .i64 0, .int .u64 0, .string ⟨#[]⟩]
  | 21, v, _ => v = .agg #[.int .u8 2, .int .i64 1, .int .u64 0, .string ⟨#[]⟩]
  | 22, v, _ => v = .bool false
  | 23, v, _ => v = .bool true
  | 24, v, _ => v = .bool true
  | 25, v, _ => v = .bool true
  | 26, v, _ => v = .agg #[.int .u8 4, .int .i64 0, .int .u64 0, .string ⟨#[97]⟩]
  | 27, v, _ => v = .agg #[.int .u8 1, .int .i64 1, .int .u64 0, .string ⟨#[]⟩]
  | 28, v, _ => v = .bool true
  | 29, v, _ => v = .bool true
  | 30, v, _ => v = .bool true
  | 31, v, _ => v = .agg #[.int .u8 4, .int .i64 0, .int .u64 0, .string ⟨#[97]⟩]
  | 32, v, _ => v = .agg #[.int .u8 4, .int .i64 0, .int .u64 0, .string ⟨#[97, 98]⟩]
  | 33, v, _ => v = .bool true
  | 34, v, _ => v = .bool true
  | 35, v, _ => v = .bool true
  | 36, v, _ => v = .bool true
  | 37, v, _ => v = .bool true
  | 38, v, _ => v = .bool true
  | 39, v, _ => v = .agg #[.int .u8 3, .int .i64 0, .int .u64 4609434218613702656, .string ⟨#[]⟩]
  | 40, v, _ => v = .agg #[.int .u8 3, .int .i64 0, .int .u64 4609434218613702656, .string ⟨#[]⟩]
  | 41, v, _ => v = .bool true
  | 42, v, _ => v = .bool true
  | 43, v, _ => v = .bool true
  | 44, v, _ => v = .bool true
  | 45, v, _ => v = .bool true
  | 46, v, _ => v = .bool true
  | 47, v, _ => v = .agg #[.int .u8 1, .int .i64 (-2), .int .u64 0, .string ⟨#[]⟩]
  | 48, v, _ => v = .agg #[.int .u8 1, .int .i64 (-2), .int .u64 0, .string ⟨#[]⟩]
  | 49, v, _ => v = .bool true
  | 50, v, _ => v = .bool true
  | 51, v, _ => v = .bool true
  | 52, v, _ => v = .bool false
  | 53, v, _ => v = .bool true
  | 54, v, _ => v = .bool true
  | 55, v, _ => v = .bool true
  | 56, v, _ => v = .string ⟨#[62, 61]⟩
  | 57, v, _ => v = .bool true
  | 58, v, _ => v = .bool true
  | 59, v, _ => v = .bool true
  | 60, v, _ => v = .int .u8 2
  | 61, v, _ => v = .bool true
  | 62, v, _ => v = .bool true
  | 63, v, _ => v = .bool true
  | 64, v, _ => v = .bool true
  | 65, v, _ => v = .bool true
  | 66, v, _ => v = .bool true
  | 67, v, _ => v = .bool false
  | 68, v, _ => v = .bool true
  | 69, v, _ => v = .bool true
  | 70, v, _ => v = .bool true
  | 71, v, _ => v = .int .u8 3
  | 72, v, _ => v = .bool true
  | 73, v, _ => v = .bool true
  | 74, v, _ => v = .bool true
  | _, _, _ => True
theorem cawkG_st (g1 g3 g5 : Nat) : ∀ i9 z9 x9 y9, cawkG g1 g3 g5 i9 z9 x9 → Ext x9 y9 → cawkG g1 g3 g5 i9 z9 y9 := by
  intro i9 z9 x9 y9 h e
  unfold cawkG at *
  split at h <;> first | exact h | exact Bytes.ext h e

set_option maxRecDepth 100000 in
set_option maxHeartbeats 4000000 in
theorem awake5_any (w : World) : Calls Try.prog 10 #[] w (Says w (.bool true)) := by
  have HX := hid (Ext.refl w)
  go_enter Try.func10, Try.ntmps10
  go_wp2_with (first | ((with_reducible show Calls _ 27 #[.int .u64 9221120237041090560] _ _); refine (cr1 _).mono ?_; rintro e w9 ⟨rfl, hx⟩; replace HX := hid (HX.out.trans hx); clear hx) | ((with_reducible show Calls _ 27 #[.int .u64 4602678819172646912] _ _); refine (cr2 _).mono ?_; rintro e w9 ⟨rfl, hx⟩; replace HX := hid (HX.out.trans hx); clear hx) | ((with_reducible show Calls _ 27 #[.int .u64 4845873199050653696] _ _); refine (cr3 _).mono ?_; rintro e w9 ⟨rfl, hx⟩; replace HX := hid (HX.out.trans hx); clear hx) | ((with_reducible show Calls _ 27 #[.int .u64 0] _ _); refine (cr4 _).mono ?_; rintro e w9 ⟨rfl, hx⟩; replace HX := hid (HX.out.trans hx); clear hx) | ((with_reducible show Calls _ 27 #[.int .u64 9223372036854775808] _ _); refine (cr5 _).mono ?_; rintro e w9 ⟨rfl, hx⟩; replace HX := hid (HX.out.trans hx); clear hx) | ((with_reducible show Calls _ 27 #[.int .u64 4609434218613702656] _ _); refine (cr6 _).mono ?_; rintro e w9 ⟨rfl, hx⟩; replace HX := hid (HX.out.trans hx); clear hx) | ((with_reducible show Calls _ 28 #[.int .i64 1] _ _); refine (ci1 _).mono ?_; rintro e w9 ⟨rfl, hx⟩; replace HX := hid (HX.out.trans hx); clear hx) | ((with_reducible show Calls _ 28 #[.int .i64 3] _ _); refine (ci2 _).mono ?_; rintro e w9 ⟨rfl, hx⟩; replace HX := hid (HX.out.trans hx); clear hx) | ((with_reducible show Calls _ 28 #[.int .i64 4611686018427387904] _ _); refine (ci3 _).mono ?_; rintro e w9 ⟨rfl, hx⟩; replace HX := hid (HX.out.trans hx); clear hx) | ((with_reducible show Calls _ 28 #[.int .i64 9007199254740993] _ _); refine (ci4 _).mono ?_; rintro e w9 ⟨rfl, hx⟩; replace HX := hid (HX.out.trans hx); clear hx) | ((with_reducible show Calls _ 28 #[.int .i64 (-2)] _ _); refine (ci5 _).mono ?_; rintro e w9 ⟨rfl, hx⟩; replace HX := hid (HX.out.trans hx); clear hx) | ((with_reducible show Calls _ 30 #[.string ⟨#[97]⟩] _ _); refine (ct1 _).mono ?_; rintro e w9 ⟨rfl, hx⟩; replace HX := hid (HX.out.trans hx); clear hx) | ((with_reducible show Calls _ 30 #[.string ⟨#[97, 98]⟩] _ _); refine (ct2 _).mono ?_; rintro e w9 ⟨rfl, hx⟩; replace HX := hid (HX.out.trans hx); clear hx) | ((with_reducible show Calls _ 29 #[.bool false] _ _); refine (cf1 _).mono ?_; rintro e w9 ⟨rfl, hx⟩; replace HX := hid (HX.out.trans hx); clear hx) | ((with_reducible show Calls _ 29 #[.bool true] _ _); refine (cf2 _).mono ?_; rintro e w9 ⟨rfl, hx⟩; replace HX := hid (HX.out.trans hx); clear hx) | ((with_reducible show Calls _ 11 #[.int .u8 5, .agg #[.int .u8 1, .int .i64 9007199254740993, .int .u64 0, .string ⟨#[]⟩], .agg #[.int .u8 3, .int .i64 0, .int .u64 4845873199050653696, .string ⟨#[]⟩]] _ _); refine (ch1 _).mono ?_; rintro e w9 ⟨rfl, hx⟩; replace HX := hid (HX.out.trans hx); clear hx) | ((with_reducible show Calls _ 11 #[.int .u8 2, .agg #[.int .u8 3, .int .i64 0, .int .u64 9221120237041090560, .string ⟨#[]⟩], .agg #[.int .u8 3, .int .i64 0, .int .u64 9221120237041090560, .string ⟨#[]⟩]] _ _); refine (ch2 _).mono ?_; rintro e w9 ⟨rfl, hx⟩; replace HX := hid (HX.out.trans hx); clear hx) | ((with_reducible show Calls _ 11 #[.int .u8 1, .agg #[.int .u8 3, .int .i64 0, .int .u64 9221120237041090560, .string ⟨#[]⟩], .agg #[.int .u8 3, .int .i64 0, .int .u64 9221120237041090560, .string ⟨#[]⟩]] _ _); refine (ch3 _).mono ?_; rintro e w9 ⟨rfl, hx⟩; replace HX := hid (HX.out.trans hx); clear hx) | ((with_reducible show Calls _ 11 #[.int .u8 1, .agg #[.int .u8 3, .int .i64 0, .int .u64 0, .string ⟨#[]⟩], .agg #[.int .u8 3, .int .i64 0, .int .u64 9223372036854775808, .string ⟨#[]⟩]] _ _); refine (ch4 _).mono ?_; rintro e w9 ⟨rfl, hx⟩; replace HX := hid (HX.out.trans hx); clear hx) | ((with_reducible show Calls _ 11 #[.int .u8 3, .agg #[.int .u8 2, .int .i64 0, .int .u64 0, .string ⟨#[]⟩], .agg #[.int .u8 2, .int .i64 1, .int .u64 0, .string ⟨#[]⟩]] _ _); refine (ch5 _).mono ?_; rintro e w9 ⟨rfl, hx⟩; replace HX := hid (HX.out.trans hx); clear hx) | ((with_reducible show Calls _ 11 #[.int .u8 2, .agg #[.int .u8 4, .int .i64 0, .int .u64 0, .string ⟨#[97]⟩], .agg #[.int .u8 1, .int .i64 1, .int .u64 0, .string ⟨#[]⟩]] _ _); refine (ch6 _).mono ?_; rintro e w9 ⟨rfl, hx⟩; replace HX := hid (HX.out.trans hx); clear hx) | ((with_reducible show Calls _ 11 #[.int .u8 4, .agg #[.int .u8 4, .int .i64 0, .int .u64 0, .string ⟨#[97]⟩], .agg #[.int .u8 4, .int .i64 0, .int .u64 0, .string ⟨#[97, 98]⟩]] _ _); refine (ch7 _).mono ?_; rintro e w9 ⟨rfl, hx⟩; replace HX := hid (HX.out.trans hx); clear hx) | ((with_reducible show Calls _ 13 #[.agg #[.int .u8 1, .int .i64 1, .int .u64 0, .string ⟨#[]⟩], .agg #[.int .u8 3, .int .i64 0, .int .u64 4602678819172646912, .string ⟨#[]⟩]] _ _); refine (cp1 _).mono ?_; rintro e w9 ⟨rfl, hx⟩; replace HX := hid (HX.out.trans hx); clear hx) | ((with_reducible show Calls _ 15 #[.agg #[.int .u8 1, .int .i64 1, .int .u64 0, .string ⟨#[]⟩], .agg #[.int .u8 1, .int .i64 3, .int .u64 0, .string ⟨#[]⟩]] _ _); refine (cp2 _).mono ?_; rintro e w9 ⟨rfl, hx⟩; replace HX := hid (HX.out.trans hx); clear hx) | ((with_reducible show Calls _ 13 #[.agg #[.int .u8 1, .int .i64 4611686018427387904, .int .u64 0, .string ⟨#[]⟩], .agg #[.int .u8 1, .int .i64 1, .int .u64 0, .string ⟨#[]⟩]] _ _); refine (cp3 _).mono ?_; rintro e w9 ⟨rfl, hx⟩; replace HX := hid (HX.out.trans hx); clear hx) | ((with_reducible show Calls _ 17 #[.int .u8 6] _ _); refine (cs1 _).mono ?_; rintro e w9 ⟨rfl, hx⟩; replace HX := hid (HX.out.trans hx); clear hx) | ((with_reducible show Calls _ 19 #[.string ⟨#[33, 61]⟩] _ _); refine (cs2 _).mono ?_; rintro e w9 ⟨rfl, hx⟩; replace HX := hid (HX.out.trans hx); clear hx) | ((with_reducible show Calls _ 21 #[.int .u8 3, .int .u8 1, .int .u8 3] _ _); refine (cs3 _).mono ?_; rintro e w9 ⟨rfl, hx⟩; replace HX := hid (HX.out.trans hx); clear hx) | ((with_reducible show Calls _ 21 #[.int .u8 3, .int .u8 2, .int .u8 2] _ _); refine (cs4 _).mono ?_; rintro e w9 ⟨rfl, hx⟩; replace HX := hid (HX.out.trans hx); clear hx) | ((with_reducible show Calls _ 23 #[.int .u8 1, .int .u8 3] _ _); refine (cs5 _).mono ?_; rintro e w9 ⟨rfl, hx⟩; replace HX := hid (HX.out.trans hx); clear hx))
  have HT1 := hid ((Ext.alloc (w9.alloc (.cells #[.int .u8 3, .int .i64 0, .int .u64 9221120237041090560, .string ⟨#[]⟩] 28)) (.cells #[.int .u8 3, .int .i64 0, .int .u64 4602678819172646912, .string ⟨#[]⟩] 28)).block (heap_alloc_new w9 (.cells #[.int .u8 3, .int .i64 0, .int .u64 9221120237041090560, .string ⟨#[]⟩] 28)))
  have HT2 := hid (heap_alloc2_new w9 (.cells #[.int .u8 3, .int .i64 0, .int .u64 9221120237041090560, .string ⟨#[]⟩] 28) (.cells #[.int .u8 3, .int .i64 0, .int .u64 4602678819172646912, .string ⟨#[]⟩] 28))
  replace HX := hid ((HX.out.then_alloc (.cells #[.int .u8 3, .int .i64 0, .int .u64 9221120237041090560, .string ⟨#[]⟩] 28)).then_alloc (.cells #[.int .u8 3, .int .i64 0, .int .u64 4602678819172646912, .string ⟨#[]⟩] 28))
  refine gen_wp (fun W => Hid (W.heap[w9.heap.size]? = some (.cells #[.int .u8 3, .int .i64 0, .int .u64 9221120237041090560, .string ⟨#[]⟩] 28 (0, 0))) ∧ Hid (W.heap[w9.heap.size + 1]? = some (.cells #[.int .u8 3, .int .i64 0, .int .u64 4602678819172646912, .string ⟨#[]⟩] 28 (0, 0))) ∧ Hid (Ext w W)) ⟨HT1, HT2, HX⟩ ?_
  clear HT1 HT2 HX
  rintro w3 ⟨HT1, HT2, HX⟩
  obtain ⟨g1, hg1⟩ : ∃ g1, g1 = w9.heap.size := ⟨_, rfl⟩
  rw [← hg1] at HT1 HT2 ⊢
  clear hg1
  refine wp_region_deep (LeS w3.heap.size awkZ awkS) (awkD w3.heap.size) awkR (by kernel_rfl) LeS.trans (LeS.refl _ _ _) (LeS.of (Ext.drew _) (Nat.le_refl _)) (awkD_st _) (awkD_rd _) (by kernel_rfl) ?_ ?_
  · rintro ⟨tmps, df⟩ wr hle hsz hfr i o ho hty
    have h2 : tmps[2]?.getD undef = .pointer (some ⟨g1 + 1, 0, none⟩) := (gd _ _).symm.trans (hfr 2 (by kernel_rfl))
    have hb3 : g1 + 1 < w3.heap.size := (box4 HT2.out).2.2
    obtain ⟨⟨p0, p1, p2, p3⟩, _, _⟩ := box4 (hle.block hb3 HT2.out)
    have hbr : w3.heap.size ≤ wr.heap.size := hle.1.size
    have hn : tmps.size = 103 := hsz
    clear hfr
    match i, ho with
    | 0, ho =>
      obtain rfl := (Option.some.inj ho)
      clear hty ho
      refine dstep_call 28 #[.int .i64 1] (wanted_free rfl) ?_ ?_
      · simp [execOp, Act.eval, go_sem]
      · exact (ci1 _).mono fun e w' h => ⟨_, h.1, LeS.of h.2 hbr, put_same _ 12 _ (by rw [hn]; decide)⟩
    | 1, ho =>
      obtain rfl := (Option.some.inj ho)
      clear hty ho
      refine dstep_run (.agg #[.int .u8 3, .int .i64 0, .int .u64 4602678819172646912, .string ⟨#[]⟩]) wr (wanted_free rfl) ?_ (LeS.refl _ _ _ _) (put_same _ 13 _ (by rw [hn]; decide))
      simp [execOp, Act.eval, h2, p0, p1, p2, p3, go_sem]
    | 2, ho =>
      have h12 : tmps[12]?.getD undef = .agg #[.int .u8 1, .int .i64 1, .int .u64 0, .string ⟨#[]⟩] := (gd _ _).symm.trans (hty 0 (by obtain rfl := (Option.some.inj ho); kernel_rfl))
      have h13 : tmps[13]?.getD undef = .agg #[.int .u8 3, .int .i64 0, .int .u64 4602678819172646912, .string ⟨#[]⟩] := (gd _ _).symm.trans (hty 1 (by obtain rfl := (Option.some.inj ho); kernel_rfl))
      obtain rfl := (Option.some.inj ho)
      clear hty ho
      refine dstep_call 13 #[.agg #[.int .u8 1, .int .i64 1, .int .u64 0, .string ⟨#[]⟩], .agg #[.int .u8 3, .int .i64 0, .int .u64 4602678819172646912, .string ⟨#[]⟩]] (wanted_free rfl) ?_ ?_
      · simp [execOp, Act.eval, h12, h13, go_sem]
      · exact (cp1 _).mono fun e w' h => ⟨_, h.1, LeS.of h.2 hbr, put_same _ 14 _ (by rw [hn]; decide)⟩
    | 3, ho =>
      have h14 : tmps[14]?.getD undef = .tuple #[.agg #[.int .u8 3, .int .i64 0, .int .u64 4609434218613702656, .string ⟨#[]⟩], .bool true] := (gd _ _).symm.trans (hty 2 (by obtain rfl := (Option.some.inj ho); kernel_rfl))
      obtain rfl := (Option.some.inj ho)
      clear hty ho
      refine dstep_run (.tuple #[.agg #[.int .u8 3, .int .i64 0, .int .u64 4609434218613702656, .string ⟨#[]⟩], .bool true]) wr (wanted_free rfl) ?_ (LeS.refl _ _ _ _) (put_same _ 11 _ (by rw [hn]; decide))
      simp [execOp, Act.eval, h14, go_sem]
    | 4, ho =>
      have h11 : tmps[11]?.getD undef = .tuple #[.agg #[.int .u8 3, .int .i64 0, .int .u64 4609434218613702656, .string ⟨#[]⟩], .bool true] := (gd _ _).symm.trans (hty 3 (by obtain rfl := (Option.some.inj ho); kernel_rfl))
      obtain rfl := (Option.some.inj ho)
      clear hty ho
      refine dstep_run (.agg #[.int .u8 3, .int .i64 0, .int .u64 4609434218613702656, .string ⟨#[]⟩]) wr (wanted_free rfl) ?_ (LeS.refl _ _ _ _) (put_same _ 15 _ (by rw [hn]; decide))
      simp [execOp, Act.eval, h11, go_sem]
    | 5, ho =>
      have h11 : tmps[11]?.getD undef = .tuple #[.agg #[.int .u8 3, .int .i64 0, .int .u64 4609434218613702656, .string ⟨#[]⟩], .bool true] := (gd _ _).symm.trans (hty 3 (by obtain rfl := (Option.some.inj ho); kernel_rfl))
      obtain rfl := (Option.some.inj ho)
      clear hty ho
      refine dstep_run (.bool true) wr (wanted_free rfl) ?_ (LeS.refl _ _ _ _) (put_same _ 16 _ (by rw [hn]; decide))
      simp [execOp, Act.eval, h11, go_sem]
    | 6, ho =>
      obtain rfl := (Option.some.inj ho)
      clear hty ho
      refine dstep_run (.pointer (some ⟨wr.heap.size, 0, none⟩)) (wr.alloc awkZ) (wanted_free rfl) ?_ (LeS.of (Ext.alloc _ _) hbr) ⟨wr.heap.size, put_same _ 3 _ (by rw [hn]; decide), hbr, Or.inl (heap_alloc_new _ _)⟩
      simp [execOp, awkZ, go_sem]
    | 7, ho =>
      obtain ⟨g, h3, hg, hrow⟩ : ∃ g, tmps[3]?.getD undef = .pointer (some ⟨g, 0, none⟩) ∧ w3.heap.size ≤ g ∧ (wr.heap[g]? = some awkZ ∨ wr.heap[g]? = some awkS) := by
        obtain ⟨g, q1, q2, q3⟩ := hty 6 (by obtain rfl := (Option.some.inj ho); kernel_rfl)
        exact ⟨g, (gd _ _).symm.trans q1, q2, q3⟩
      have h15 : tmps[15]?.getD undef = .agg #[.int .u8 3, .int .i64 0, .int .u64 4609434218613702656, .string ⟨#[]⟩] := (gd _ _).symm.trans (hty 4 (by obtain rfl := (Option.some.inj ho); kernel_rfl))
      obtain rfl := (Option.some.inj ho)
      clear hty ho
      obtain ⟨st1, st2⟩ := awk_store hg hrow
      refine dstep_store _ (wanted_free rfl) ?_ st1 ⟨g, (gd _ _).trans h3, hg, st2⟩
      have hf : (∃ a b c d, wr.cell? ⟨g, 0, none⟩ = some a ∧ wr.cell? ⟨g, 1, none⟩ = some b ∧ wr.cell? ⟨g, 2, none⟩ = some c ∧ wr.cell? ⟨g, 3, none⟩ = some d) ∧ (wr.frozen? ⟨g, 0, none⟩ = false ∧ wr.frozen? ⟨g, 1, none⟩ = false ∧ wr.frozen? ⟨g, 2, none⟩ = false ∧ wr.frozen? ⟨g, 3, none⟩ = false) := by
        rcases hrow with hrow | hrow
        · obtain ⟨⟨a1, a2, a3, a4⟩, f, _⟩ := box4 hrow; exact ⟨⟨_, _, _, _, a1, a2, a3, a4⟩, f⟩
        · obtain ⟨⟨a1, a2, a3, a4⟩, f, _⟩ := box4 hrow; exact ⟨⟨_, _, _, _, a1, a2, a3, a4⟩, f⟩
      obtain ⟨⟨a, b, c, d, a1, a2, a3, a4⟩, f1, f2, f3, f4⟩ := hf
      simp [execOp, Act.eval, h3, h15, a1, a2, a3, a4, f1, f2, f3, f4, go_sem]
    | 8, ho =>
      have h16 : tmps[16]?.getD undef = .bool true := (gd _ _).symm.trans (hty 5 (by obtain rfl := (Option.some.inj ho); kernel_rfl))
      obtain rfl := (Option.some.inj ho)
      clear hty ho
      refine dstep_run (.bool true) wr (wanted_free rfl) ?_ (LeS.refl _ _ _ _) (put_same _ 4 _ (by rw [hn]; decide))
      simp [execOp, Act.eval, h16, go_sem]
    | (i + 9), hi => exact absurd hi (by simp)
  · rintro ⟨tmps, df⟩ w5 hle hdf hs hfr hty
    obtain ⟨g, h3, hg, hrow⟩ := hty 7 (by decide)
    have h4 : tmps[4]?.getD undef = .bool true := (gd _ _).symm.trans (hty 8 (by decide))
    replace h3 : tmps[3]?.getD undef = .pointer (some ⟨g, 0, none⟩) := (gd _ _).symm.trans h3
    have hfe := frame_eq (tmps := tmps) [3, 4, 11, 12, 13, 14, 15, 16] hs (fun t ht => (gd _ _).symm.trans ((hfr t ht).trans (gd _ _))) (by kernel_rfl)
    rw [hfe]
    have hd0 : df = [] := hdf
    subst hd0
    clear hfe hfr hs hty hdf
    simp only [List.foldl_cons, List.foldl_nil]
    rw [h3, h4]
    generalize tmps[11]?.getD undef = x11
    generalize tmps[12]?.getD undef = x12
    generalize tmps[13]?.getD undef = x13
    generalize tmps[14]?.getD undef = x14
    generalize tmps[15]?.getD undef = x15
    generalize tmps[16]?.getD undef = x16
    clear h3 h4
    have hb1 : g1 < w3.heap.size := (box4 HT1.out).2.2
    replace HT1 := hid (hle.block hb1 HT1.out)
    replace HX := hid (HX.out.trans hle.1)
    have HT3 : Hid (w5.heap[g]? = some (.cells #[.int .u8 3, .int .i64 0, .int .u64 4609434218613702656, .string ⟨#[]⟩] 28 (0, 0))) := hrow
    clear hle hrow HT2 hb1 hg
    simp only [List.setIfInBounds_toArray, List.set_cons_succ, List.set_cons_zero]
    obtain ⟨⟨p0, p1, p2, p3⟩, _, pz⟩ := box4 HT1.out
    obtain ⟨⟨q0, q1, q2, q3⟩, _, qz⟩ := box4 HT3.out
    go_wp2_with (first | ((with_reducible show Calls _ 27 #[.int .u64 9221120237041090560] _ _); refine (cr1 _).mono ?_; rintro e w9 ⟨rfl, hx⟩; (first | replace HX := hid (HX.out.trans hx) | replace HX := hid ((HX.out.then_alloc _).trans hx)); (first | replace HT1 := hid (hx.block HT1.out) | replace HT1 := hid (hx.block ((Ext.alloc _ _).block HT1.out))); (first | replace HT3 := hid (hx.block HT3.out) | replace HT3 := hid (hx.block ((Ext.alloc _ _).block HT3.out))); clear hx p0 p1 p2 p3 pz q0 q1 q2 q3 qz; obtain ⟨⟨p0, p1, p2, p3⟩, _, pz⟩ := box4 HT1.out; obtain ⟨⟨q0, q1, q2, q3⟩, _, qz⟩ := box4 HT3.out) | ((with_reducible show Calls _ 27 #[.int .u64 4602678819172646912] _ _); refine (cr2 _).mono ?_; rintro e w9 ⟨rfl, hx⟩; (first | replace HX := hid (HX.out.trans hx) | replace HX := hid ((HX.out.then_alloc _).trans hx)); (first | replace HT1 := hid (hx.block HT1.out) | replace HT1 := hid (hx.block ((Ext.alloc _ _).block HT1.out))); (first | replace HT3 := hid (hx.block HT3.out) | replace HT3 := hid (hx.block ((Ext.alloc _ _).block HT3.out))); clear hx p0 p1 p2 p3 pz q0 q1 q2 q3 qz; obtain ⟨⟨p0, p1, p2, p3⟩, _, pz⟩ := box4 HT1.out; obtain ⟨⟨q0, q1, q2, q3⟩, _, qz⟩ := box4 HT3.out) | ((with_reducible show Calls _ 27 #[.int .u64 4845873199050653696] _ _); refine (cr3 _).mono ?_; rintro e w9 ⟨rfl, hx⟩; (first | replace HX := hid (HX.out.trans hx) | replace HX := hid ((HX.out.then_alloc _).trans hx)); (first | replace HT1 := hid (hx.block HT1.out) | replace HT1 := hid (hx.block ((Ext.alloc _ _).block HT1.out))); (first | replace HT3 := hid (hx.block HT3.out) | replace HT3 := hid (hx.block ((Ext.alloc _ _).block HT3.out))); clear hx p0 p1 p2 p3 pz q0 q1 q2 q3 qz; obtain ⟨⟨p0, p1, p2, p3⟩, _, pz⟩ := box4 HT1.out; obtain ⟨⟨q0, q1, q2, q3⟩, _, qz⟩ := box4 HT3.out) | ((with_reducible show Calls _ 27 #[.int .u64 0] _ _); refine (cr4 _).mono ?_; rintro e w9 ⟨rfl, hx⟩; (first | replace HX := hid (HX.out.trans hx) | replace HX := hid ((HX.out.then_alloc _).trans hx)); (first | replace HT1 := hid (hx.block HT1.out) | replace HT1 := hid (hx.block ((Ext.alloc _ _).block HT1.out))); (first | replace HT3 := hid (hx.block HT3.out) | replace HT3 := hid (hx.block ((Ext.alloc _ _).block HT3.out))); clear hx p0 p1 p2 p3 pz q0 q1 q2 q3 qz; obtain ⟨⟨p0, p1, p2, p3⟩, _, pz⟩ := box4 HT1.out; obtain ⟨⟨q0, q1, q2, q3⟩, _, qz⟩ := box4 HT3.out) | ((with_reducible show Calls _ 27 #[.int .u64 9223372036854775808] _ _); refine (cr5 _).mono ?_; rintro e w9 ⟨rfl, hx⟩; (first | replace HX := hid (HX.out.trans hx) | replace HX := hid ((HX.out.then_alloc _).trans hx)); (first | replace HT1 := hid (hx.block HT1.out) | replace HT1 := hid (hx.block ((Ext.alloc _ _).block HT1.out))); (first | replace HT3 := hid (hx.block HT3.out) | replace HT3 := hid (hx.block ((Ext.alloc _ _).block HT3.out))); clear hx p0 p1 p2 p3 pz q0 q1 q2 q3 qz; obtain ⟨⟨p0, p1, p2, p3⟩, _, pz⟩ := box4 HT1.out; obtain ⟨⟨q0, q1, q2, q3⟩, _, qz⟩ := box4 HT3.out) | ((with_reducible show Calls _ 27 #[.int .u64 4609434218613702656] _ _); refine (cr6 _).mono ?_; rintro e w9 ⟨rfl, hx⟩; (first | replace HX := hid (HX.out.trans hx) | replace HX := hid ((HX.out.then_alloc _).trans hx)); (first | replace HT1 := hid (hx.block HT1.out) | replace HT1 := hid (hx.block ((Ext.alloc _ _).block HT1.out))); (first | replace HT3 := hid (hx.block HT3.out) | replace HT3 := hid (hx.block ((Ext.alloc _ _).block HT3.out))); clear hx p0 p1 p2 p3 pz q0 q1 q2 q3 qz; obtain ⟨⟨p0, p1, p2, p3⟩, _, pz⟩ := box4 HT1.out; obtain ⟨⟨q0, q1, q2, q3⟩, _, qz⟩ := box4 HT3.out) | ((with_reducible show Calls _ 28 #[.int .i64 1] _ _); refine (ci1 _).mono ?_; rintro e w9 ⟨rfl, hx⟩; (first | replace HX := hid (HX.out.trans hx) | replace HX := hid ((HX.out.then_alloc _).trans hx)); (first | replace HT1 := hid (hx.block HT1.out) | replace HT1 := hid (hx.block ((Ext.alloc _ _).block HT1.out))); (first | replace HT3 := hid (hx.block HT3.out) | replace HT3 := hid (hx.block ((Ext.alloc _ _).block HT3.out))); clear hx p0 p1 p2 p3 pz q0 q1 q2 q3 qz; obtain ⟨⟨p0, p1, p2, p3⟩, _, pz⟩ := box4 HT1.out; obtain ⟨⟨q0, q1, q2, q3⟩, _, qz⟩ := box4 HT3.out) | ((with_reducible show Calls _ 28 #[.int .i64 3] _ _); refine (ci2 _).mono ?_; rintro e w9 ⟨rfl, hx⟩; (first | replace HX := hid (HX.out.trans hx) | replace HX := hid ((HX.out.then_alloc _).trans hx)); (first | replace HT1 := hid (hx.block HT1.out) | replace HT1 := hid (hx.block ((Ext.alloc _ _).block HT1.out))); (first | replace HT3 := hid (hx.block HT3.out) | replace HT3 := hid (hx.block ((Ext.alloc _ _).block HT3.out))); clear hx p0 p1 p2 p3 pz q0 q1 q2 q3 qz; obtain ⟨⟨p0, p1, p2, p3⟩, _, pz⟩ := box4 HT1.out; obtain ⟨⟨q0, q1, q2, q3⟩, _, qz⟩ := box4 HT3.out) | ((with_reducible show Calls _ 28 #[.int .i64 9007199254740993] _ _); refine (ci4 _).mono ?_; rintro e w9 ⟨rfl, hx⟩; (first | replace HX := hid (HX.out.trans hx) | replace HX := hid ((HX.out.then_alloc _).trans hx)); (first | replace HT1 := hid (hx.block HT1.out) | replace HT1 := hid (hx.block ((Ext.alloc _ _).block HT1.out))); (first | replace HT3 := hid (hx.block HT3.out) | replace HT3 := hid (hx.block ((Ext.alloc _ _).block HT3.out))); clear hx p0 p1 p2 p3 pz q0 q1 q2 q3 qz; obtain ⟨⟨p0, p1, p2, p3⟩, _, pz⟩ := box4 HT1.out; obtain ⟨⟨q0, q1, q2, q3⟩, _, qz⟩ := box4 HT3.out) | ((with_reducible show Calls _ 28 #[.int .i64 (-2)] _ _); refine (ci5 _).mono ?_; rintro e w9 ⟨rfl, hx⟩; (first | replace HX := hid (HX.out.trans hx) | replace HX := hid ((HX.out.then_alloc _).trans hx)); (first | replace HT1 := hid (hx.block HT1.out) | replace HT1 := hid (hx.block ((Ext.alloc _ _).block HT1.out))); (first | replace HT3 := hid (hx.block HT3.out) | replace HT3 := hid (hx.block ((Ext.alloc _ _).block HT3.out))); clear hx p0 p1 p2 p3 pz q0 q1 q2 q3 qz; obtain ⟨⟨p0, p1, p2, p3⟩, _, pz⟩ := box4 HT1.out; obtain ⟨⟨q0, q1, q2, q3⟩, _, qz⟩ := box4 HT3.out) | ((with_reducible show Calls _ 30 #[.string ⟨#[97]⟩] _ _); refine (ct1 _).mono ?_; rintro e w9 ⟨rfl, hx⟩; (first | replace HX := hid (HX.out.trans hx) | replace HX := hid ((HX.out.then_alloc _).trans hx)); (first | replace HT1 := hid (hx.block HT1.out) | replace HT1 := hid (hx.block ((Ext.alloc _ _).block HT1.out))); (first | replace HT3 := hid (hx.block HT3.out) | replace HT3 := hid (hx.block ((Ext.alloc _ _).block HT3.out))); clear hx p0 p1 p2 p3 pz q0 q1 q2 q3 qz; obtain ⟨⟨p0, p1, p2, p3⟩, _, pz⟩ := box4 HT1.out; obtain ⟨⟨q0, q1, q2, q3⟩, _, qz⟩ := box4 HT3.out) | ((with_reducible show Calls _ 30 #[.string ⟨#[97, 98]⟩] _ _); refine (ct2 _).mono ?_; rintro e w9 ⟨rfl, hx⟩; (first | replace HX := hid (HX.out.trans hx) | replace HX := hid ((HX.out.then_alloc _).trans hx)); (first | replace HT1 := hid (hx.block HT1.out) | replace HT1 := hid (hx.block ((Ext.alloc _ _).block HT1.out))); (first | replace HT3 := hid (hx.block HT3.out) | replace HT3 := hid (hx.block ((Ext.alloc _ _).block HT3.out))); clear hx p0 p1 p2 p3 pz q0 q1 q2 q3 qz; obtain ⟨⟨p0, p1, p2, p3⟩, _, pz⟩ := box4 HT1.out; obtain ⟨⟨q0, q1, q2, q3⟩, _, qz⟩ := box4 HT3.out) | ((with_reducible show Calls _ 29 #[.bool false] _ _); refine (cf1 _).mono ?_; rintro e w9 ⟨rfl, hx⟩; (first | replace HX := hid (HX.out.trans hx) | replace HX := hid ((HX.out.then_alloc _).trans hx)); (first | replace HT1 := hid (hx.block HT1.out) | replace HT1 := hid (hx.block ((Ext.alloc _ _).block HT1.out))); (first | replace HT3 := hid (hx.block HT3.out) | replace HT3 := hid (hx.block ((Ext.alloc _ _).block HT3.out))); clear hx p0 p1 p2 p3 pz q0 q1 q2 q3 qz; obtain ⟨⟨p0, p1, p2, p3⟩, _, pz⟩ := box4 HT1.out; obtain ⟨⟨q0, q1, q2, q3⟩, _, qz⟩ := box4 HT3.out) | ((with_reducible show Calls _ 29 #[.bool true] _ _); refine (cf2 _).mono ?_; rintro e w9 ⟨rfl, hx⟩; (first | replace HX := hid (HX.out.trans hx) | replace HX := hid ((HX.out.then_alloc _).trans hx)); (first | replace HT1 := hid (hx.block HT1.out) | replace HT1 := hid (hx.block ((Ext.alloc _ _).block HT1.out))); (first | replace HT3 := hid (hx.block HT3.out) | replace HT3 := hid (hx.block ((Ext.alloc _ _).block HT3.out))); clear hx p0 p1 p2 p3 pz q0 q1 q2 q3 qz; obtain ⟨⟨p0, p1, p2, p3⟩, _, pz⟩ := box4 HT1.out; obtain ⟨⟨q0, q1, q2, q3⟩, _, qz⟩ := box4 HT3.out) | ((with_reducible show Calls _ 11 #[.int .u8 5, .agg #[.int .u8 1, .int .i64 9007199254740993, .int .u64 0, .string ⟨#[]⟩], .agg #[.int .u8 3, .int .i64 0, .int .u64 4845873199050653696, .string ⟨#[]⟩]] _ _); refine (ch1 _).mono ?_; rintro e w9 ⟨rfl, hx⟩; (first | replace HX := hid (HX.out.trans hx) | replace HX := hid ((HX.out.then_alloc _).trans hx)); (first | replace HT1 := hid (hx.block HT1.out) | replace HT1 := hid (hx.block ((Ext.alloc _ _).block HT1.out))); (first | replace HT3 := hid (hx.block HT3.out) | replace HT3 := hid (hx.block ((Ext.alloc _ _).block HT3.out))); clear hx p0 p1 p2 p3 pz q0 q1 q2 q3 qz; obtain ⟨⟨p0, p1, p2, p3⟩, _, pz⟩ := box4 HT1.out; obtain ⟨⟨q0, q1, q2, q3⟩, _, qz⟩ := box4 HT3.out) | ((with_reducible show Calls _ 11 #[.int .u8 2, .agg #[.int .u8 3, .int .i64 0, .int .u64 9221120237041090560, .string ⟨#[]⟩], .agg #[.int .u8 3, .int .i64 0, .int .u64 9221120237041090560, .string ⟨#[]⟩]] _ _); refine (ch2 _).mono ?_; rintro e w9 ⟨rfl, hx⟩; (first | replace HX := hid (HX.out.trans hx) | replace HX := hid ((HX.out.then_alloc _).trans hx)); (first | replace HT1 := hid (hx.block HT1.out) | replace HT1 := hid (hx.block ((Ext.alloc _ _).block HT1.out))); (first | replace HT3 := hid (hx.block HT3.out) | replace HT3 := hid (hx.block ((Ext.alloc _ _).block HT3.out))); clear hx p0 p1 p2 p3 pz q0 q1 q2 q3 qz; obtain ⟨⟨p0, p1, p2, p3⟩, _, pz⟩ := box4 HT1.out; obtain ⟨⟨q0, q1, q2, q3⟩, _, qz⟩ := box4 HT3.out) | ((with_reducible show Calls _ 11 #[.int .u8 1, .agg #[.int .u8 3, .int .i64 0, .int .u64 9221120237041090560, .string ⟨#[]⟩], .agg #[.int .u8 3, .int .i64 0, .int .u64 9221120237041090560, .string ⟨#[]⟩]] _ _); refine (ch3 _).mono ?_; rintro e w9 ⟨rfl, hx⟩; (first | replace HX := hid (HX.out.trans hx) | replace HX := hid ((HX.out.then_alloc _).trans hx)); (first | replace HT1 := hid (hx.block HT1.out) | replace HT1 := hid (hx.block ((Ext.alloc _ _).block HT1.out))); (first | replace HT3 := hid (hx.block HT3.out) | replace HT3 := hid (hx.block ((Ext.alloc _ _).block HT3.out))); clear hx p0 p1 p2 p3 pz q0 q1 q2 q3 qz; obtain ⟨⟨p0, p1, p2, p3⟩, _, pz⟩ := box4 HT1.out; obtain ⟨⟨q0, q1, q2, q3⟩, _, qz⟩ := box4 HT3.out) | ((with_reducible show Calls _ 11 #[.int .u8 1, .agg #[.int .u8 3, .int .i64 0, .int .u64 0, .string ⟨#[]⟩], .agg #[.int .u8 3, .int .i64 0, .int .u64 9223372036854775808, .string ⟨#[]⟩]] _ _); refine (ch4 _).mono ?_; rintro e w9 ⟨rfl, hx⟩; (first | replace HX := hid (HX.out.trans hx) | replace HX := hid ((HX.out.then_alloc _).trans hx)); (first | replace HT1 := hid (hx.block HT1.out) | replace HT1 := hid (hx.block ((Ext.alloc _ _).block HT1.out))); (first | replace HT3 := hid (hx.block HT3.out) | replace HT3 := hid (hx.block ((Ext.alloc _ _).block HT3.out))); clear hx p0 p1 p2 p3 pz q0 q1 q2 q3 qz; obtain ⟨⟨p0, p1, p2, p3⟩, _, pz⟩ := box4 HT1.out; obtain ⟨⟨q0, q1, q2, q3⟩, _, qz⟩ := box4 HT3.out) | ((with_reducible show Calls _ 11 #[.int .u8 3, .agg #[.int .u8 2, .int .i64 0, .int .u64 0, .string ⟨#[]⟩], .agg #[.int .u8 2, .int .i64 1, .int .u64 0, .string ⟨#[]⟩]] _ _); refine (ch5 _).mono ?_; rintro e w9 ⟨rfl, hx⟩; (first | replace HX := hid (HX.out.trans hx) | replace HX := hid ((HX.out.then_alloc _).trans hx)); (first | replace HT1 := hid (hx.block HT1.out) | replace HT1 := hid (hx.block ((Ext.alloc _ _).block HT1.out))); (first | replace HT3 := hid (hx.block HT3.out) | replace HT3 := hid (hx.block ((Ext.alloc _ _).block HT3.out))); clear hx p0 p1 p2 p3 pz q0 q1 q2 q3 qz; obtain ⟨⟨p0, p1, p2, p3⟩, _, pz⟩ := box4 HT1.out; obtain ⟨⟨q0, q1, q2, q3⟩, _, qz⟩ := box4 HT3.out) | ((with_reducible show Calls _ 11 #[.int .u8 2, .agg #[.int .u8 4, .int .i64 0, .int .u64 0, .string ⟨#[97]⟩], .agg #[.int .u8 1, .int .i64 1, .int .u64 0, .string ⟨#[]⟩]] _ _); refine (ch6 _).mono ?_; rintro e w9 ⟨rfl, hx⟩; (first | replace HX := hid (HX.out.trans hx) | replace HX := hid ((HX.out.then_alloc _).trans hx)); (first | replace HT1 := hid (hx.block HT1.out) | replace HT1 := hid (hx.block ((Ext.alloc _ _).block HT1.out))); (first | replace HT3 := hid (hx.block HT3.out) | replace HT3 := hid (hx.block ((Ext.alloc _ _).block HT3.out))); clear hx p0 p1 p2 p3 pz q0 q1 q2 q3 qz; obtain ⟨⟨p0, p1, p2, p3⟩, _, pz⟩ := box4 HT1.out; obtain ⟨⟨q0, q1, q2, q3⟩, _, qz⟩ := box4 HT3.out) | ((with_reducible show Calls _ 11 #[.int .u8 4, .agg #[.int .u8 4, .int .i64 0, .int .u64 0, .string ⟨#[97]⟩], .agg #[.int .u8 4, .int .i64 0, .int .u64 0, .string ⟨#[97, 98]⟩]] _ _); refine (ch7 _).mono ?_; rintro e w9 ⟨rfl, hx⟩; (first | replace HX := hid (HX.out.trans hx) | replace HX := hid ((HX.out.then_alloc _).trans hx)); (first | replace HT1 := hid (hx.block HT1.out) | replace HT1 := hid (hx.block ((Ext.alloc _ _).block HT1.out))); (first | replace HT3 := hid (hx.block HT3.out) | replace HT3 := hid (hx.block ((Ext.alloc _ _).block HT3.out))); clear hx p0 p1 p2 p3 pz q0 q1 q2 q3 qz; obtain ⟨⟨p0, p1, p2, p3⟩, _, pz⟩ := box4 HT1.out; obtain ⟨⟨q0, q1, q2, q3⟩, _, qz⟩ := box4 HT3.out) | ((with_reducible show Calls _ 13 #[.agg #[.int .u8 1, .int .i64 1, .int .u64 0, .string ⟨#[]⟩], .agg #[.int .u8 3, .int .i64 0, .int .u64 4602678819172646912, .string ⟨#[]⟩]] _ _); refine (cp1 _).mono ?_; rintro e w9 ⟨rfl, hx⟩; (first | replace HX := hid (HX.out.trans hx) | replace HX := hid ((HX.out.then_alloc _).trans hx)); (first | replace HT1 := hid (hx.block HT1.out) | replace HT1 := hid (hx.block ((Ext.alloc _ _).block HT1.out))); (first | replace HT3 := hid (hx.block HT3.out) | replace HT3 := hid (hx.block ((Ext.alloc _ _).block HT3.out))); clear hx p0 p1 p2 p3 pz q0 q1 q2 q3 qz; obtain ⟨⟨p0, p1, p2, p3⟩, _, pz⟩ := box4 HT1.out; obtain ⟨⟨q0, q1, q2, q3⟩, _, qz⟩ := box4 HT3.out) | ((with_reducible show Calls _ 15 #[.agg #[.int .u8 1, .int .i64 1, .int .u64 0, .string ⟨#[]⟩], .agg #[.int .u8 1, .int .i64 3, .int .u64 0, .string ⟨#[]⟩]] _ _); refine (cp2 _).mono ?_; rintro e w9 ⟨rfl, hx⟩; (first | replace HX := hid (HX.out.trans hx) | replace HX := hid ((HX.out.then_alloc _).trans hx)); (first | replace HT1 := hid (hx.block HT1.out) | replace HT1 := hid (hx.block ((Ext.alloc _ _).block HT1.out))); (first | replace HT3 := hid (hx.block HT3.out) | replace HT3 := hid (hx.block ((Ext.alloc _ _).block HT3.out))); clear hx p0 p1 p2 p3 pz q0 q1 q2 q3 qz; obtain ⟨⟨p0, p1, p2, p3⟩, _, pz⟩ := box4 HT1.out; obtain ⟨⟨q0, q1, q2, q3⟩, _, qz⟩ := box4 HT3.out) | ((with_reducible show Calls _ 13 #[.agg #[.int .u8 1, .int .i64 4611686018427387904, .int .u64 0, .string ⟨#[]⟩], .agg #[.int .u8 1, .int .i64 1, .int .u64 0, .string ⟨#[]⟩]] _ _); refine (cp3 _).mono ?_; rintro e w9 ⟨rfl, hx⟩; (first | replace HX := hid (HX.out.trans hx) | replace HX := hid ((HX.out.then_alloc _).trans hx)); (first | replace HT1 := hid (hx.block HT1.out) | replace HT1 := hid (hx.block ((Ext.alloc _ _).block HT1.out))); (first | replace HT3 := hid (hx.block HT3.out) | replace HT3 := hid (hx.block ((Ext.alloc _ _).block HT3.out))); clear hx p0 p1 p2 p3 pz q0 q1 q2 q3 qz; obtain ⟨⟨p0, p1, p2, p3⟩, _, pz⟩ := box4 HT1.out; obtain ⟨⟨q0, q1, q2, q3⟩, _, qz⟩ := box4 HT3.out) | ((with_reducible show Calls _ 17 #[.int .u8 6] _ _); refine (cs1 _).mono ?_; rintro e w9 ⟨rfl, hx⟩; (first | replace HX := hid (HX.out.trans hx) | replace HX := hid ((HX.out.then_alloc _).trans hx)); (first | replace HT1 := hid (hx.block HT1.out) | replace HT1 := hid (hx.block ((Ext.alloc _ _).block HT1.out))); (first | replace HT3 := hid (hx.block HT3.out) | replace HT3 := hid (hx.block ((Ext.alloc _ _).block HT3.out))); clear hx p0 p1 p2 p3 pz q0 q1 q2 q3 qz; obtain ⟨⟨p0, p1, p2, p3⟩, _, pz⟩ := box4 HT1.out; obtain ⟨⟨q0, q1, q2, q3⟩, _, qz⟩ := box4 HT3.out) | ((with_reducible show Calls _ 19 #[.string ⟨#[33, 61]⟩] _ _); refine (cs2 _).mono ?_; rintro e w9 ⟨rfl, hx⟩; (first | replace HX := hid (HX.out.trans hx) | replace HX := hid ((HX.out.then_alloc _).trans hx)); (first | replace HT1 := hid (hx.block HT1.out) | replace HT1 := hid (hx.block ((Ext.alloc _ _).block HT1.out))); (first | replace HT3 := hid (hx.block HT3.out) | replace HT3 := hid (hx.block ((Ext.alloc _ _).block HT3.out))); clear hx p0 p1 p2 p3 pz q0 q1 q2 q3 qz; obtain ⟨⟨p0, p1, p2, p3⟩, _, pz⟩ := box4 HT1.out; obtain ⟨⟨q0, q1, q2, q3⟩, _, qz⟩ := box4 HT3.out) | ((with_reducible show Calls _ 21 #[.int .u8 3, .int .u8 1, .int .u8 3] _ _); refine (cs3 _).mono ?_; rintro e w9 ⟨rfl, hx⟩; (first | replace HX := hid (HX.out.trans hx) | replace HX := hid ((HX.out.then_alloc _).trans hx)); (first | replace HT1 := hid (hx.block HT1.out) | replace HT1 := hid (hx.block ((Ext.alloc _ _).block HT1.out))); (first | replace HT3 := hid (hx.block HT3.out) | replace HT3 := hid (hx.block ((Ext.alloc _ _).block HT3.out))); clear hx p0 p1 p2 p3 pz q0 q1 q2 q3 qz; obtain ⟨⟨p0, p1, p2, p3⟩, _, pz⟩ := box4 HT1.out; obtain ⟨⟨q0, q1, q2, q3⟩, _, qz⟩ := box4 HT3.out) | ((with_reducible show Calls _ 21 #[.int .u8 3, .int .u8 2, .int .u8 2] _ _); refine (cs4 _).mono ?_; rintro e w9 ⟨rfl, hx⟩; (first | replace HX := hid (HX.out.trans hx) | replace HX := hid ((HX.out.then_alloc _).trans hx)); (first | replace HT1 := hid (hx.block HT1.out) | replace HT1 := hid (hx.block ((Ext.alloc _ _).block HT1.out))); (first | replace HT3 := hid (hx.block HT3.out) | replace HT3 := hid (hx.block ((Ext.alloc _ _).block HT3.out))); clear hx p0 p1 p2 p3 pz q0 q1 q2 q3 qz; obtain ⟨⟨p0, p1, p2, p3⟩, _, pz⟩ := box4 HT1.out; obtain ⟨⟨q0, q1, q2, q3⟩, _, qz⟩ := box4 HT3.out) | ((with_reducible show Calls _ 23 #[.int .u8 1, .int .u8 3] _ _); refine (cs5 _).mono ?_; rintro e w9 ⟨rfl, hx⟩; (first | replace HX := hid (HX.out.trans hx) | replace HX := hid ((HX.out.then_alloc _).trans hx)); (first | replace HT1 := hid (hx.block HT1.out) | replace HT1 := hid (hx.block ((Ext.alloc _ _).block HT1.out))); (first | replace HT3 := hid (hx.block HT3.out) | replace HT3 := hid (hx.block ((Ext.alloc _ _).block HT3.out))); clear hx p0 p1 p2 p3 pz q0 q1 q2 q3 qz; obtain ⟨⟨p0, p1, p2, p3⟩, _, pz⟩ := box4 HT1.out; obtain ⟨⟨q0, q1, q2, q3⟩, _, qz⟩ := box4 HT3.out))
    have HT5 := hid (heap_alloc_new w9 (.cells #[.int .u8 1, .int .i64 (-2), .int .u64 0, .string ⟨#[]⟩] 28))
    obtain ⟨g5, hg5⟩ : ∃ g5, g5 = w9.heap.size := ⟨_, rfl⟩
    rw [← hg5] at HT5 ⊢
    clear hg5
    refine (ci3 _).mono ?_
    rintro e w9 ⟨rfl, hx⟩
    replace HX := hid ((HX.out.then_alloc _).trans hx)
    replace HT1 := hid (hx.block ((Ext.alloc _ _).block HT1.out))
    replace HT3 := hid (hx.block ((Ext.alloc _ _).block HT3.out))
    replace HT5 := hid (hx.block HT5.out)
    clear hx p0 p1 p2 p3 pz q0 q1 q2 q3 qz
    obtain ⟨⟨p0, p1, p2, p3⟩, _, pz⟩ := box4 HT1.out
    obtain ⟨⟨q0, q1, q2, q3⟩, _, qz⟩ := box4 HT3.out
    obtain ⟨⟨r0, r1, r2, r3⟩, _, rz⟩ := box4 HT5.out
    go_wp2_with (first | ((with_reducible show Calls _ 27 #[.int .u64 9221120237041090560] _ _); refine (cr1 _).mono ?_; rintro e w9 ⟨rfl, hx⟩; (first | replace HX := hid (HX.out.trans hx) | replace HX := hid ((HX.out.then_alloc _).trans hx)); (first | replace HT1 := hid (hx.block HT1.out) | replace HT1 := hid (hx.block ((Ext.alloc _ _).block HT1.out))); (first | replace HT3 := hid (hx.block HT3.out) | replace HT3 := hid (hx.block ((Ext.alloc _ _).block HT3.out))); (first | replace HT5 := hid (hx.block HT5.out) | replace HT5 := hid (hx.block ((Ext.alloc _ _).block HT5.out))); clear hx p0 p1 p2 p3 pz q0 q1 q2 q3 qz r0 r1 r2 r3 rz; obtain ⟨⟨p0, p1, p2, p3⟩, _, pz⟩ := box4 HT1.out; obtain ⟨⟨q0, q1, q2, q3⟩, _, qz⟩ := box4 HT3.out; obtain ⟨⟨r0, r1, r2, r3⟩, _, rz⟩ := box4 HT5.out) | ((with_reducible show Calls _ 27 #[.int .u64 4602678819172646912] _ _); refine (cr2 _).mono ?_; rintro e w9 ⟨rfl, hx⟩; (first | replace HX := hid (HX.out.trans hx) | replace HX := hid ((HX.out.then_alloc _).trans hx)); (first | replace HT1 := hid (hx.block HT1.out) | replace HT1 := hid (hx.block ((Ext.alloc _ _).block HT1.out))); (first | replace HT3 := hid (hx.block HT3.out) | replace HT3 := hid (hx.block ((Ext.alloc _ _).block HT3.out))); (first | replace HT5 := hid (hx.block HT5.out) | replace HT5 := hid (hx.block ((Ext.alloc _ _).block HT5.out))); clear hx p0 p1 p2 p3 pz q0 q1 q2 q3 qz r0 r1 r2 r3 rz; obtain ⟨⟨p0, p1, p2, p3⟩, _, pz⟩ := box4 HT1.out; obtain ⟨⟨q0, q1, q2, q3⟩, _, qz⟩ := box4 HT3.out; obtain ⟨⟨r0, r1, r2, r3⟩, _, rz⟩ := box4 HT5.out) | ((with_reducible show Calls _ 27 #[.int .u64 4845873199050653696] _ _); refine (cr3 _).mono ?_; rintro e w9 ⟨rfl, hx⟩; (first | replace HX := hid (HX.out.trans hx) | replace HX := hid ((HX.out.then_alloc _).trans hx)); (first | replace HT1 := hid (hx.block HT1.out) | replace HT1 := hid (hx.block ((Ext.alloc _ _).block HT1.out))); (first | replace HT3 := hid (hx.block HT3.out) | replace HT3 := hid (hx.block ((Ext.alloc _ _).block HT3.out))); (first | replace HT5 := hid (hx.block HT5.out) | replace HT5 := hid (hx.block ((Ext.alloc _ _).block HT5.out))); clear hx p0 p1 p2 p3 pz q0 q1 q2 q3 qz r0 r1 r2 r3 rz; obtain ⟨⟨p0, p1, p2, p3⟩, _, pz⟩ := box4 HT1.out; obtain ⟨⟨q0, q1, q2, q3⟩, _, qz⟩ := box4 HT3.out; obtain ⟨⟨r0, r1, r2, r3⟩, _, rz⟩ := box4 HT5.out) | ((with_reducible show Calls _ 27 #[.int .u64 0] _ _); refine (cr4 _).mono ?_; rintro e w9 ⟨rfl, hx⟩; (first | replace HX := hid (HX.out.trans hx) | replace HX := hid ((HX.out.then_alloc _).trans hx)); (first | replace HT1 := hid (hx.block HT1.out) | replace HT1 := hid (hx.block ((Ext.alloc _ _).block HT1.out))); (first | replace HT3 := hid (hx.block HT3.out) | replace HT3 := hid (hx.block ((Ext.alloc _ _).block HT3.out))); (first | replace HT5 := hid (hx.block HT5.out) | replace HT5 := hid (hx.block ((Ext.alloc _ _).block HT5.out))); clear hx p0 p1 p2 p3 pz q0 q1 q2 q3 qz r0 r1 r2 r3 rz; obtain ⟨⟨p0, p1, p2, p3⟩, _, pz⟩ := box4 HT1.out; obtain ⟨⟨q0, q1, q2, q3⟩, _, qz⟩ := box4 HT3.out; obtain ⟨⟨r0, r1, r2, r3⟩, _, rz⟩ := box4 HT5.out) | ((with_reducible show Calls _ 27 #[.int .u64 9223372036854775808] _ _); refine (cr5 _).mono ?_; rintro e w9 ⟨rfl, hx⟩; (first | replace HX := hid (HX.out.trans hx) | replace HX := hid ((HX.out.then_alloc _).trans hx)); (first | replace HT1 := hid (hx.block HT1.out) | replace HT1 := hid (hx.block ((Ext.alloc _ _).block HT1.out))); (first | replace HT3 := hid (hx.block HT3.out) | replace HT3 := hid (hx.block ((Ext.alloc _ _).block HT3.out))); (first | replace HT5 := hid (hx.block HT5.out) | replace HT5 := hid (hx.block ((Ext.alloc _ _).block HT5.out))); clear hx p0 p1 p2 p3 pz q0 q1 q2 q3 qz r0 r1 r2 r3 rz; obtain ⟨⟨p0, p1, p2, p3⟩, _, pz⟩ := box4 HT1.out; obtain ⟨⟨q0, q1, q2, q3⟩, _, qz⟩ := box4 HT3.out; obtain ⟨⟨r0, r1, r2, r3⟩, _, rz⟩ := box4 HT5.out) | ((with_reducible show Calls _ 27 #[.int .u64 4609434218613702656] _ _); refine (cr6 _).mono ?_; rintro e w9 ⟨rfl, hx⟩; (first | replace HX := hid (HX.out.trans hx) | replace HX := hid ((HX.out.then_alloc _).trans hx)); (first | replace HT1 := hid (hx.block HT1.out) | replace HT1 := hid (hx.block ((Ext.alloc _ _).block HT1.out))); (first | replace HT3 := hid (hx.block HT3.out) | replace HT3 := hid (hx.block ((Ext.alloc _ _).block HT3.out))); (first | replace HT5 := hid (hx.block HT5.out) | replace HT5 := hid (hx.block ((Ext.alloc _ _).block HT5.out))); clear hx p0 p1 p2 p3 pz q0 q1 q2 q3 qz r0 r1 r2 r3 rz; obtain ⟨⟨p0, p1, p2, p3⟩, _, pz⟩ := box4 HT1.out; obtain ⟨⟨q0, q1, q2, q3⟩, _, qz⟩ := box4 HT3.out; obtain ⟨⟨r0, r1, r2, r3⟩, _, rz⟩ := box4 HT5.out) | ((with_reducible show Calls _ 28 #[.int .i64 1] _ _); refine (ci1 _).mono ?_; rintro e w9 ⟨rfl, hx⟩; (first | replace HX := hid (HX.out.trans hx) | replace HX := hid ((HX.out.then_alloc _).trans hx)); (first | replace HT1 := hid (hx.block HT1.out) | replace HT1 := hid (hx.block ((Ext.alloc _ _).block HT1.out))); (first | replace HT3 := hid (hx.block HT3.out) | replace HT3 := hid (hx.block ((Ext.alloc _ _).block HT3.out))); (first | replace HT5 := hid (hx.block HT5.out) | replace HT5 := hid (hx.block ((Ext.alloc _ _).block HT5.out))); clear hx p0 p1 p2 p3 pz q0 q1 q2 q3 qz r0 r1 r2 r3 rz; obtain ⟨⟨p0, p1, p2, p3⟩, _, pz⟩ := box4 HT1.out; obtain ⟨⟨q0, q1, q2, q3⟩, _, qz⟩ := box4 HT3.out; obtain ⟨⟨r0, r1, r2, r3⟩, _, rz⟩ := box4 HT5.out) | ((with_reducible show Calls _ 28 #[.int .i64 3] _ _); refine (ci2 _).mono ?_; rintro e w9 ⟨rfl, hx⟩; (first | replace HX := hid (HX.out.trans hx) | replace HX := hid ((HX.out.then_alloc _).trans hx)); (first | replace HT1 := hid (hx.block HT1.out) | replace HT1 := hid (hx.block ((Ext.alloc _ _).block HT1.out))); (first | replace HT3 := hid (hx.block HT3.out) | replace HT3 := hid (hx.block ((Ext.alloc _ _).block HT3.out))); (first | replace HT5 := hid (hx.block HT5.out) | replace HT5 := hid (hx.block ((Ext.alloc _ _).block HT5.out))); clear hx p0 p1 p2 p3 pz q0 q1 q2 q3 qz r0 r1 r2 r3 rz; obtain ⟨⟨p0, p1, p2, p3⟩, _, pz⟩ := box4 HT1.out; obtain ⟨⟨q0, q1, q2, q3⟩, _, qz⟩ := box4 HT3.out; obtain ⟨⟨r0, r1, r2, r3⟩, _, rz⟩ := box4 HT5.out) | ((with_reducible show Calls _ 28 #[.int .i64 4611686018427387904] _ _); refine (ci3 _).mono ?_; rintro e w9 ⟨rfl, hx⟩; (first | replace HX := hid (HX.out.trans hx) | replace HX := hid ((HX.out.then_alloc _).trans hx)); (first | replace HT1 := hid (hx.block HT1.out) | replace HT1 := hid (hx.block ((Ext.alloc _ _).block HT1.out))); (first | replace HT3 := hid (hx.block HT3.out) | replace HT3 := hid (hx.block ((Ext.alloc _ _).block HT3.out))); (first | replace HT5 := hid (hx.block HT5.out) | replace HT5 := hid (hx.block ((Ext.alloc _ _).block HT5.out))); clear hx p0 p1 p2 p3 pz q0 q1 q2 q3 qz r0 r1 r2 r3 rz; obtain ⟨⟨p0, p1, p2, p3⟩, _, pz⟩ := box4 HT1.out; obtain ⟨⟨q0, q1, q2, q3⟩, _, qz⟩ := box4 HT3.out; obtain ⟨⟨r0, r1, r2, r3⟩, _, rz⟩ := box4 HT5.out) | ((with_reducible show Calls _ 28 #[.int .i64 9007199254740993] _ _); refine (ci4 _).mono ?_; rintro e w9 ⟨rfl, hx⟩; (first | replace HX := hid (HX.out.trans hx) | replace HX := hid ((HX.out.then_alloc _).trans hx)); (first | replace HT1 := hid (hx.block HT1.out) | replace HT1 := hid (hx.block ((Ext.alloc _ _).block HT1.out))); (first | replace HT3 := hid (hx.block HT3.out) | replace HT3 := hid (hx.block ((Ext.alloc _ _).block HT3.out))); (first | replace HT5 := hid (hx.block HT5.out) | replace HT5 := hid (hx.block ((Ext.alloc _ _).block HT5.out))); clear hx p0 p1 p2 p3 pz q0 q1 q2 q3 qz r0 r1 r2 r3 rz; obtain ⟨⟨p0, p1, p2, p3⟩, _, pz⟩ := box4 HT1.out; obtain ⟨⟨q0, q1, q2, q3⟩, _, qz⟩ := box4 HT3.out; obtain ⟨⟨r0, r1, r2, r3⟩, _, rz⟩ := box4 HT5.out) | ((with_reducible show Calls _ 28 #[.int .i64 (-2)] _ _); refine (ci5 _).mono ?_; rintro e w9 ⟨rfl, hx⟩; (first | replace HX := hid (HX.out.trans hx) | replace HX := hid ((HX.out.then_alloc _).trans hx)); (first | replace HT1 := hid (hx.block HT1.out) | replace HT1 := hid (hx.block ((Ext.alloc _ _).block HT1.out))); (first | replace HT3 := hid (hx.block HT3.out) | replace HT3 := hid (hx.block ((Ext.alloc _ _).block HT3.out))); (first | replace HT5 := hid (hx.block HT5.out) | replace HT5 := hid (hx.block ((Ext.alloc _ _).block HT5.out))); clear hx p0 p1 p2 p3 pz q0 q1 q2 q3 qz r0 r1 r2 r3 rz; obtain ⟨⟨p0, p1, p2, p3⟩, _, pz⟩ := box4 HT1.out; obtain ⟨⟨q0, q1, q2, q3⟩, _, qz⟩ := box4 HT3.out; obtain ⟨⟨r0, r1, r2, r3⟩, _, rz⟩ := box4 HT5.out) | ((with_reducible show Calls _ 30 #[.string ⟨#[97]⟩] _ _); refine (ct1 _).mono ?_; rintro e w9 ⟨rfl, hx⟩; (first | replace HX := hid (HX.out.trans hx) | replace HX := hid ((HX.out.then_alloc _).trans hx)); (first | replace HT1 := hid (hx.block HT1.out) | replace HT1 := hid (hx.block ((Ext.alloc _ _).block HT1.out))); (first | replace HT3 := hid (hx.block HT3.out) | replace HT3 := hid (hx.block ((Ext.alloc _ _).block HT3.out))); (first | replace HT5 := hid (hx.block HT5.out) | replace HT5 := hid (hx.block ((Ext.alloc _ _).block HT5.out))); clear hx p0 p1 p2 p3 pz q0 q1 q2 q3 qz r0 r1 r2 r3 rz; obtain ⟨⟨p0, p1, p2, p3⟩, _, pz⟩ := box4 HT1.out; obtain ⟨⟨q0, q1, q2, q3⟩, _, qz⟩ := box4 HT3.out; obtain ⟨⟨r0, r1, r2, r3⟩, _, rz⟩ := box4 HT5.out) | ((with_reducible show Calls _ 30 #[.string ⟨#[97, 98]⟩] _ _); refine (ct2 _).mono ?_; rintro e w9 ⟨rfl, hx⟩; (first | replace HX := hid (HX.out.trans hx) | replace HX := hid ((HX.out.then_alloc _).trans hx)); (first | replace HT1 := hid (hx.block HT1.out) | replace HT1 := hid (hx.block ((Ext.alloc _ _).block HT1.out))); (first | replace HT3 := hid (hx.block HT3.out) | replace HT3 := hid (hx.block ((Ext.alloc _ _).block HT3.out))); (first | replace HT5 := hid (hx.block HT5.out) | replace HT5 := hid (hx.block ((Ext.alloc _ _).block HT5.out))); clear hx p0 p1 p2 p3 pz q0 q1 q2 q3 qz r0 r1 r2 r3 rz; obtain ⟨⟨p0, p1, p2, p3⟩, _, pz⟩ := box4 HT1.out; obtain ⟨⟨q0, q1, q2, q3⟩, _, qz⟩ := box4 HT3.out; obtain ⟨⟨r0, r1, r2, r3⟩, _, rz⟩ := box4 HT5.out) | ((with_reducible show Calls _ 29 #[.bool false] _ _); refine (cf1 _).mono ?_; rintro e w9 ⟨rfl, hx⟩; (first | replace HX := hid (HX.out.trans hx) | replace HX := hid ((HX.out.then_alloc _).trans hx)); (first | replace HT1 := hid (hx.block HT1.out) | replace HT1 := hid (hx.block ((Ext.alloc _ _).block HT1.out))); (first | replace HT3 := hid (hx.block HT3.out) | replace HT3 := hid (hx.block ((Ext.alloc _ _).block HT3.out))); (first | replace HT5 := hid (hx.block HT5.out) | replace HT5 := hid (hx.block ((Ext.alloc _ _).block HT5.out))); clear hx p0 p1 p2 p3 pz q0 q1 q2 q3 qz r0 r1 r2 r3 rz; obtain ⟨⟨p0, p1, p2, p3⟩, _, pz⟩ := box4 HT1.out; obtain ⟨⟨q0, q1, q2, q3⟩, _, qz⟩ := box4 HT3.out; obtain ⟨⟨r0, r1, r2, r3⟩, _, rz⟩ := box4 HT5.out) | ((with_reducible show Calls _ 29 #[.bool true] _ _); refine (cf2 _).mono ?_; rintro e w9 ⟨rfl, hx⟩; (first | replace HX := hid (HX.out.trans hx) | replace HX := hid ((HX.out.then_alloc _).trans hx)); (first | replace HT1 := hid (hx.block HT1.out) | replace HT1 := hid (hx.block ((Ext.alloc _ _).block HT1.out))); (first | replace HT3 := hid (hx.block HT3.out) | replace HT3 := hid (hx.block ((Ext.alloc _ _).block HT3.out))); (first | replace HT5 := hid (hx.block HT5.out) | replace HT5 := hid (hx.block ((Ext.alloc _ _).block HT5.out))); clear hx p0 p1 p2 p3 pz q0 q1 q2 q3 qz r0 r1 r2 r3 rz; obtain ⟨⟨p0, p1, p2, p3⟩, _, pz⟩ := box4 HT1.out; obtain ⟨⟨q0, q1, q2, q3⟩, _, qz⟩ := box4 HT3.out; obtain ⟨⟨r0, r1, r2, r3⟩, _, rz⟩ := box4 HT5.out) | ((with_reducible show Calls _ 11 #[.int .u8 5, .agg #[.int .u8 1, .int .i64 9007199254740993, .int .u64 0, .string ⟨#[]⟩], .agg #[.int .u8 3, .int .i64 0, .int .u64 4845873199050653696, .string ⟨#[]⟩]] _ _); refine (ch1 _).mono ?_; rintro e w9 ⟨rfl, hx⟩; (first | replace HX := hid (HX.out.trans hx) | replace HX := hid ((HX.out.then_alloc _).trans hx)); (first | replace HT1 := hid (hx.block HT1.out) | replace HT1 := hid (hx.block ((Ext.alloc _ _).block HT1.out))); (first | replace HT3 := hid (hx.block HT3.out) | replace HT3 := hid (hx.block ((Ext.alloc _ _).block HT3.out))); (first | replace HT5 := hid (hx.block HT5.out) | replace HT5 := hid (hx.block ((Ext.alloc _ _).block HT5.out))); clear hx p0 p1 p2 p3 pz q0 q1 q2 q3 qz r0 r1 r2 r3 rz; obtain ⟨⟨p0, p1, p2, p3⟩, _, pz⟩ := box4 HT1.out; obtain ⟨⟨q0, q1, q2, q3⟩, _, qz⟩ := box4 HT3.out; obtain ⟨⟨r0, r1, r2, r3⟩, _, rz⟩ := box4 HT5.out) | ((with_reducible show Calls _ 11 #[.int .u8 2, .agg #[.int .u8 3, .int .i64 0, .int .u64 9221120237041090560, .string ⟨#[]⟩], .agg #[.int .u8 3, .int .i64 0, .int .u64 9221120237041090560, .string ⟨#[]⟩]] _ _); refine (ch2 _).mono ?_; rintro e w9 ⟨rfl, hx⟩; (first | replace HX := hid (HX.out.trans hx) | replace HX := hid ((HX.out.then_alloc _).trans hx)); (first | replace HT1 := hid (hx.block HT1.out) | replace HT1 := hid (hx.block ((Ext.alloc _ _).block HT1.out))); (first | replace HT3 := hid (hx.block HT3.out) | replace HT3 := hid (hx.block ((Ext.alloc _ _).block HT3.out))); (first | replace HT5 := hid (hx.block HT5.out) | replace HT5 := hid (hx.block ((Ext.alloc _ _).block HT5.out))); clear hx p0 p1 p2 p3 pz q0 q1 q2 q3 qz r0 r1 r2 r3 rz; obtain ⟨⟨p0, p1, p2, p3⟩, _, pz⟩ := box4 HT1.out; obtain ⟨⟨q0, q1, q2, q3⟩, _, qz⟩ := box4 HT3.out; obtain ⟨⟨r0, r1, r2, r3⟩, _, rz⟩ := box4 HT5.out) | ((with_reducible show Calls _ 11 #[.int .u8 1, .agg #[.int .u8 3, .int .i64 0, .int .u64 9221120237041090560, .string ⟨#[]⟩], .agg #[.int .u8 3, .int .i64 0, .int .u64 9221120237041090560, .string ⟨#[]⟩]] _ _); refine (ch3 _).mono ?_; rintro e w9 ⟨rfl, hx⟩; (first | replace HX := hid (HX.out.trans hx) | replace HX := hid ((HX.out.then_alloc _).trans hx)); (first | replace HT1 := hid (hx.block HT1.out) | replace HT1 := hid (hx.block ((Ext.alloc _ _).block HT1.out))); (first | replace HT3 := hid (hx.block HT3.out) | replace HT3 := hid (hx.block ((Ext.alloc _ _).block HT3.out))); (first | replace HT5 := hid (hx.block HT5.out) | replace HT5 := hid (hx.block ((Ext.alloc _ _).block HT5.out))); clear hx p0 p1 p2 p3 pz q0 q1 q2 q3 qz r0 r1 r2 r3 rz; obtain ⟨⟨p0, p1, p2, p3⟩, _, pz⟩ := box4 HT1.out; obtain ⟨⟨q0, q1, q2, q3⟩, _, qz⟩ := box4 HT3.out; obtain ⟨⟨r0, r1, r2, r3⟩, _, rz⟩ := box4 HT5.out) | ((with_reducible show Calls _ 11 #[.int .u8 1, .agg #[.int .u8 3, .int .i64 0, .int .u64 0, .string ⟨#[]⟩], .agg #[.int .u8 3, .int .i64 0, .int .u64 9223372036854775808, .string ⟨#[]⟩]] _ _); refine (ch4 _).mono ?_; rintro e w9 ⟨rfl, hx⟩; (first | replace HX := hid (HX.out.trans hx) | replace HX := hid ((HX.out.then_alloc _).trans hx)); (first | replace HT1 := hid (hx.block HT1.out) | replace HT1 := hid (hx.block ((Ext.alloc _ _).block HT1.out))); (first | replace HT3 := hid (hx.block HT3.out) | replace HT3 := hid (hx.block ((Ext.alloc _ _).block HT3.out))); (first | replace HT5 := hid (hx.block HT5.out) | replace HT5 := hid (hx.block ((Ext.alloc _ _).block HT5.out))); clear hx p0 p1 p2 p3 pz q0 q1 q2 q3 qz r0 r1 r2 r3 rz; obtain ⟨⟨p0, p1, p2, p3⟩, _, pz⟩ := box4 HT1.out; obtain ⟨⟨q0, q1, q2, q3⟩, _, qz⟩ := box4 HT3.out; obtain ⟨⟨r0, r1, r2, r3⟩, _, rz⟩ := box4 HT5.out) | ((with_reducible show Calls _ 11 #[.int .u8 3, .agg #[.int .u8 2, .int .i64 0, .int .u64 0, .string ⟨#[]⟩], .agg #[.int .u8 2, .int .i64 1, .int .u64 0, .string ⟨#[]⟩]] _ _); refine (ch5 _).mono ?_; rintro e w9 ⟨rfl, hx⟩; (first | replace HX := hid (HX.out.trans hx) | replace HX := hid ((HX.out.then_alloc _).trans hx)); (first | replace HT1 := hid (hx.block HT1.out) | replace HT1 := hid (hx.block ((Ext.alloc _ _).block HT1.out))); (first | replace HT3 := hid (hx.block HT3.out) | replace HT3 := hid (hx.block ((Ext.alloc _ _).block HT3.out))); (first | replace HT5 := hid (hx.block HT5.out) | replace HT5 := hid (hx.block ((Ext.alloc _ _).block HT5.out))); clear hx p0 p1 p2 p3 pz q0 q1 q2 q3 qz r0 r1 r2 r3 rz; obtain ⟨⟨p0, p1, p2, p3⟩, _, pz⟩ := box4 HT1.out; obtain ⟨⟨q0, q1, q2, q3⟩, _, qz⟩ := box4 HT3.out; obtain ⟨⟨r0, r1, r2, r3⟩, _, rz⟩ := box4 HT5.out) | ((with_reducible show Calls _ 11 #[.int .u8 2, .agg #[.int .u8 4, .int .i64 0, .int .u64 0, .string ⟨#[97]⟩], .agg #[.int .u8 1, .int .i64 1, .int .u64 0, .string ⟨#[]⟩]] _ _); refine (ch6 _).mono ?_; rintro e w9 ⟨rfl, hx⟩; (first | replace HX := hid (HX.out.trans hx) | replace HX := hid ((HX.out.then_alloc _).trans hx)); (first | replace HT1 := hid (hx.block HT1.out) | replace HT1 := hid (hx.block ((Ext.alloc _ _).block HT1.out))); (first | replace HT3 := hid (hx.block HT3.out) | replace HT3 := hid (hx.block ((Ext.alloc _ _).block HT3.out))); (first | replace HT5 := hid (hx.block HT5.out) | replace HT5 := hid (hx.block ((Ext.alloc _ _).block HT5.out))); clear hx p0 p1 p2 p3 pz q0 q1 q2 q3 qz r0 r1 r2 r3 rz; obtain ⟨⟨p0, p1, p2, p3⟩, _, pz⟩ := box4 HT1.out; obtain ⟨⟨q0, q1, q2, q3⟩, _, qz⟩ := box4 HT3.out; obtain ⟨⟨r0, r1, r2, r3⟩, _, rz⟩ := box4 HT5.out) | ((with_reducible show Calls _ 11 #[.int .u8 4, .agg #[.int .u8 4, .int .i64 0, .int .u64 0, .string ⟨#[97]⟩], .agg #[.int .u8 4, .int .i64 0, .int .u64 0, .string ⟨#[97, 98]⟩]] _ _); refine (ch7 _).mono ?_; rintro e w9 ⟨rfl, hx⟩; (first | replace HX := hid (HX.out.trans hx) | replace HX := hid ((HX.out.then_alloc _).trans hx)); (first | replace HT1 := hid (hx.block HT1.out) | replace HT1 := hid (hx.block ((Ext.alloc _ _).block HT1.out))); (first | replace HT3 := hid (hx.block HT3.out) | replace HT3 := hid (hx.block ((Ext.alloc _ _).block HT3.out))); (first | replace HT5 := hid (hx.block HT5.out) | replace HT5 := hid (hx.block ((Ext.alloc _ _).block HT5.out))); clear hx p0 p1 p2 p3 pz q0 q1 q2 q3 qz r0 r1 r2 r3 rz; obtain ⟨⟨p0, p1, p2, p3⟩, _, pz⟩ := box4 HT1.out; obtain ⟨⟨q0, q1, q2, q3⟩, _, qz⟩ := box4 HT3.out; obtain ⟨⟨r0, r1, r2, r3⟩, _, rz⟩ := box4 HT5.out) | ((with_reducible show Calls _ 13 #[.agg #[.int .u8 1, .int .i64 1, .int .u64 0, .string ⟨#[]⟩], .agg #[.int .u8 3, .int .i64 0, .int .u64 4602678819172646912, .string ⟨#[]⟩]] _ _); refine (cp1 _).mono ?_; rintro e w9 ⟨rfl, hx⟩; (first | replace HX := hid (HX.out.trans hx) | replace HX := hid ((HX.out.then_alloc _).trans hx)); (first | replace HT1 := hid (hx.block HT1.out) | replace HT1 := hid (hx.block ((Ext.alloc _ _).block HT1.out))); (first | replace HT3 := hid (hx.block HT3.out) | replace HT3 := hid (hx.block ((Ext.alloc _ _).block HT3.out))); (first | replace HT5 := hid (hx.block HT5.out) | replace HT5 := hid (hx.block ((Ext.alloc _ _).block HT5.out))); clear hx p0 p1 p2 p3 pz q0 q1 q2 q3 qz r0 r1 r2 r3 rz; obtain ⟨⟨p0, p1, p2, p3⟩, _, pz⟩ := box4 HT1.out; obtain ⟨⟨q0, q1, q2, q3⟩, _, qz⟩ := box4 HT3.out; obtain ⟨⟨r0, r1, r2, r3⟩, _, rz⟩ := box4 HT5.out) | ((with_reducible show Calls _ 15 #[.agg #[.int .u8 1, .int .i64 1, .int .u64 0, .string ⟨#[]⟩], .agg #[.int .u8 1, .int .i64 3, .int .u64 0, .string ⟨#[]⟩]] _ _); refine (cp2 _).mono ?_; rintro e w9 ⟨rfl, hx⟩; (first | replace HX := hid (HX.out.trans hx) | replace HX := hid ((HX.out.then_alloc _).trans hx)); (first | replace HT1 := hid (hx.block HT1.out) | replace HT1 := hid (hx.block ((Ext.alloc _ _).block HT1.out))); (first | replace HT3 := hid (hx.block HT3.out) | replace HT3 := hid (hx.block ((Ext.alloc _ _).block HT3.out))); (first | replace HT5 := hid (hx.block HT5.out) | replace HT5 := hid (hx.block ((Ext.alloc _ _).block HT5.out))); clear hx p0 p1 p2 p3 pz q0 q1 q2 q3 qz r0 r1 r2 r3 rz; obtain ⟨⟨p0, p1, p2, p3⟩, _, pz⟩ := box4 HT1.out; obtain ⟨⟨q0, q1, q2, q3⟩, _, qz⟩ := box4 HT3.out; obtain ⟨⟨r0, r1, r2, r3⟩, _, rz⟩ := box4 HT5.out) | ((with_reducible show Calls _ 13 #[.agg #[.int .u8 1, .int .i64 4611686018427387904, .int .u64 0, .string ⟨#[]⟩], .agg #[.int .u8 1, .int .i64 1, .int .u64 0, .string ⟨#[]⟩]] _ _); refine (cp3 _).mono ?_; rintro e w9 ⟨rfl, hx⟩; (first | replace HX := hid (HX.out.trans hx) | replace HX := hid ((HX.out.then_alloc _).trans hx)); (first | replace HT1 := hid (hx.block HT1.out) | replace HT1 := hid (hx.block ((Ext.alloc _ _).block HT1.out))); (first | replace HT3 := hid (hx.block HT3.out) | replace HT3 := hid (hx.block ((Ext.alloc _ _).block HT3.out))); (first | replace HT5 := hid (hx.block HT5.out) | replace HT5 := hid (hx.block ((Ext.alloc _ _).block HT5.out))); clear hx p0 p1 p2 p3 pz q0 q1 q2 q3 qz r0 r1 r2 r3 rz; obtain ⟨⟨p0, p1, p2, p3⟩, _, pz⟩ := box4 HT1.out; obtain ⟨⟨q0, q1, q2, q3⟩, _, qz⟩ := box4 HT3.out; obtain ⟨⟨r0, r1, r2, r3⟩, _, rz⟩ := box4 HT5.out) | ((with_reducible show Calls _ 17 #[.int .u8 6] _ _); refine (cs1 _).mono ?_; rintro e w9 ⟨rfl, hx⟩; (first | replace HX := hid (HX.out.trans hx) | replace HX := hid ((HX.out.then_alloc _).trans hx)); (first | replace HT1 := hid (hx.block HT1.out) | replace HT1 := hid (hx.block ((Ext.alloc _ _).block HT1.out))); (first | replace HT3 := hid (hx.block HT3.out) | replace HT3 := hid (hx.block ((Ext.alloc _ _).block HT3.out))); (first | replace HT5 := hid (hx.block HT5.out) | replace HT5 := hid (hx.block ((Ext.alloc _ _).block HT5.out))); clear hx p0 p1 p2 p3 pz q0 q1 q2 q3 qz r0 r1 r2 r3 rz; obtain ⟨⟨p0, p1, p2, p3⟩, _, pz⟩ := box4 HT1.out; obtain ⟨⟨q0, q1, q2, q3⟩, _, qz⟩ := box4 HT3.out; obtain ⟨⟨r0, r1, r2, r3⟩, _, rz⟩ := box4 HT5.out) | ((with_reducible show Calls _ 19 #[.string ⟨#[33, 61]⟩] _ _); refine (cs2 _).mono ?_; rintro e w9 ⟨rfl, hx⟩; (first | replace HX := hid (HX.out.trans hx) | replace HX := hid ((HX.out.then_alloc _).trans hx)); (first | replace HT1 := hid (hx.block HT1.out) | replace HT1 := hid (hx.block ((Ext.alloc _ _).block HT1.out))); (first | replace HT3 := hid (hx.block HT3.out) | replace HT3 := hid (hx.block ((Ext.alloc _ _).block HT3.out))); (first | replace HT5 := hid (hx.block HT5.out) | replace HT5 := hid (hx.block ((Ext.alloc _ _).block HT5.out))); clear hx p0 p1 p2 p3 pz q0 q1 q2 q3 qz r0 r1 r2 r3 rz; obtain ⟨⟨p0, p1, p2, p3⟩, _, pz⟩ := box4 HT1.out; obtain ⟨⟨q0, q1, q2, q3⟩, _, qz⟩ := box4 HT3.out; obtain ⟨⟨r0, r1, r2, r3⟩, _, rz⟩ := box4 HT5.out) | ((with_reducible show Calls _ 21 #[.int .u8 3, .int .u8 1, .int .u8 3] _ _); refine (cs3 _).mono ?_; rintro e w9 ⟨rfl, hx⟩; (first | replace HX := hid (HX.out.trans hx) | replace HX := hid ((HX.out.then_alloc _).trans hx)); (first | replace HT1 := hid (hx.block HT1.out) | replace HT1 := hid (hx.block ((Ext.alloc _ _).block HT1.out))); (first | replace HT3 := hid (hx.block HT3.out) | replace HT3 := hid (hx.block ((Ext.alloc _ _).block HT3.out))); (first | replace HT5 := hid (hx.block HT5.out) | replace HT5 := hid (hx.block ((Ext.alloc _ _).block HT5.out))); clear hx p0 p1 p2 p3 pz q0 q1 q2 q3 qz r0 r1 r2 r3 rz; obtain ⟨⟨p0, p1, p2, p3⟩, _, pz⟩ := box4 HT1.out; obtain ⟨⟨q0, q1, q2, q3⟩, _, qz⟩ := box4 HT3.out; obtain ⟨⟨r0, r1, r2, r3⟩, _, rz⟩ := box4 HT5.out) | ((with_reducible show Calls _ 21 #[.int .u8 3, .int .u8 2, .int .u8 2] _ _); refine (cs4 _).mono ?_; rintro e w9 ⟨rfl, hx⟩; (first | replace HX := hid (HX.out.trans hx) | replace HX := hid ((HX.out.then_alloc _).trans hx)); (first | replace HT1 := hid (hx.block HT1.out) | replace HT1 := hid (hx.block ((Ext.alloc _ _).block HT1.out))); (first | replace HT3 := hid (hx.block HT3.out) | replace HT3 := hid (hx.block ((Ext.alloc _ _).block HT3.out))); (first | replace HT5 := hid (hx.block HT5.out) | replace HT5 := hid (hx.block ((Ext.alloc _ _).block HT5.out))); clear hx p0 p1 p2 p3 pz q0 q1 q2 q3 qz r0 r1 r2 r3 rz; obtain ⟨⟨p0, p1, p2, p3⟩, _, pz⟩ := box4 HT1.out; obtain ⟨⟨q0, q1, q2, q3⟩, _, qz⟩ := box4 HT3.out; obtain ⟨⟨r0, r1, r2, r3⟩, _, rz⟩ := box4 HT5.out) | ((with_reducible show Calls _ 23 #[.int .u8 1, .int .u8 3] _ _); refine (cs5 _).mono ?_; rintro e w9 ⟨rfl, hx⟩; (first | replace HX := hid (HX.out.trans hx) | replace HX := hid ((HX.out.then_alloc _).trans hx)); (first | replace HT1 := hid (hx.block HT1.out) | replace HT1 := hid (hx.block ((Ext.alloc _ _).block HT1.out))); (first | replace HT3 := hid (hx.block HT3.out) | replace HT3 := hid (hx.block ((Ext.alloc _ _).block HT3.out))); (first | replace HT5 := hid (hx.block HT5.out) | replace HT5 := hid (hx.block ((Ext.alloc _ _).block HT5.out))); clear hx p0 p1 p2 p3 pz q0 q1 q2 q3 qz r0 r1 r2 r3 rz; obtain ⟨⟨p0, p1, p2, p3⟩, _, pz⟩ := box4 HT1.out; obtain ⟨⟨q0, q1, q2, q3⟩, _, qz⟩ := box4 HT3.out; obtain ⟨⟨r0, r1, r2, r3⟩, _, rz⟩ := box4 HT5.out))
    replace HT1 := hid ((Ext.alloc w9 (.cells #[.int .u8 0, .int .i64 0, .int .u64 0, .string ⟨#[]⟩] 28)).block HT1.out)
    replace HT3 := hid ((Ext.alloc w9 (.cells #[.int .u8 0, .int .i64 0, .int .u64 0, .string ⟨#[]⟩] 28)).block HT3.out)
    replace HT5 := hid ((Ext.alloc w9 (.cells #[.int .u8 0, .int .i64 0, .int .u64 0, .string ⟨#[]⟩] 28)).block HT5.out)
    replace HX := hid (HX.out.then_alloc (.cells #[.int .u8 0, .int .i64 0, .int .u64 0, .string ⟨#[]⟩] 28))
    clear p0 p1 p2 p3 pz q0 q1 q2 q3 qz r0 r1 r2 r3 rz
    refine wp_region_slots Ext (cawkG g1 g g5) (by kernel_rfl) Ext.trans Ext.refl (Ext.drew _) (cawkG_st _ _ _) (by kernel_rfl) ?_ ?_
    · intro tmps wr hle hfr j o ho hty
      have h1 : tmps[1]?.getD undef = .pointer (some ⟨g1, 0, none⟩) := hfr 1 (by kernel_rfl)
      have h3 : tmps[3]?.getD undef = .pointer (some ⟨g, 0, none⟩) := hfr 3 (by kernel_rfl)
      have h4 : tmps[4]?.getD undef = .bool true := hfr 4 (by kernel_rfl)
      have h5 : tmps[5]?.getD undef = .pointer (some ⟨g5, 0, none⟩) := hfr 5 (by kernel_rfl)
      have h6 : tmps[6]?.getD undef = .bool true := hfr 6 (by kernel_rfl)
      have h8 : tmps[8]?.getD undef = .bool false := hfr 8 (by kernel_rfl)
      obtain ⟨⟨p0, p1, p2, p3⟩, _, _⟩ := box4 (hle.block HT1.out)
      obtain ⟨⟨q0, q1, q2, q3⟩, _, _⟩ := box4 (hle.block HT3.out)
      obtain ⟨⟨r0, r1, r2, r3⟩, _, _⟩ := box4 (hle.block HT5.out)
      clear hfr
      match j, ho with
      | 0, ho =>
        obtain rfl := (Option.some.inj ho)
        clear hty ho
        refine step_call 28 #[.int .i64 9007199254740993] (wanted_free rfl) ?_ ?_
        · simp [execOp, Act.eval, go_sem]
        · exact (ci4 _).mono fun e w' h => ⟨_, h.1, h.2, rfl⟩
      | 1, ho =>
        obtain rfl := (Option.some.inj ho)
        clear hty ho
        refine step_call 27 #[.int .u64 4845873199050653696] (wanted_free rfl) ?_ ?_
        · simp [execOp, Act.eval, go_sem]
        · exact (cr3 _).mono fun e w' h => ⟨_, h.1, h.2, rfl⟩
      | 2, ho =>
        have h29 : tmps[29]?.getD undef = .agg #[.int .u8 1, .int .i64 9007199254740993, .int .u64 0, .string ⟨#[]⟩] := hty 0 29 rfl (by obtain rfl := (Option.some.inj ho); rfl)
        have h30 : tmps[30]?.getD undef = .agg #[.int .u8 3, .int .i64 0, .int .u64 4845873199050653696, .string ⟨#[]⟩] := hty 1 30 rfl (by obtain rfl := (Option.some.inj ho); rfl)
        obtain rfl := (Option.some.inj ho)
        clear hty ho
        refine step_call 11 #[.int .u8 5, .agg #[.int .u8 1, .int .i64 9007199254740993, .int .u64 0, .string ⟨#[]⟩], .agg #[.int .u8 3, .int .i64 0, .int .u64 4845873199050653696, .string ⟨#[]⟩]] (wanted_free rfl) ?_ ?_
        · simp [execOp, Act.eval, h29, h30, go_sem]
        · exact (ch1 _).mono fun e w' h => ⟨_, h.1, h.2, rfl⟩
      | 3, ho =>
        have h31 : tmps[31]?.getD undef = .bool true := hty 2 31 rfl (by obtain rfl := (Option.some.inj ho); rfl)
        obtain rfl := (Option.some.inj ho)
        clear hty ho
        refine step_pure (.bool true) (wanted_free rfl) ?_ (Ext.refl _) rfl
        simp [execOp, Act.eval, h31, go_sem]
      | 4, ho =>
        have h32 : tmps[32]?.getD undef = .bool true := hty 3 32 rfl (by obtain rfl := (Option.some.inj ho); rfl)
        obtain rfl := (Option.some.inj ho)
        clear hty ho
        refine step_pure (.agg #[.int .u8 3, .int .i64 0, .int .u64 9221120237041090560, .string ⟨#[]⟩]) (wanted_guard rfl rfl h32) ?_ (Ext.refl _) rfl
        simp [execOp, Act.eval, h1, p0, p1, p2, p3, go_sem]
      | 5, ho =>
        have h32 : tmps[32]?.getD undef = .bool true := hty 3 32 rfl (by obtain rfl := (Option.some.inj ho); rfl)
        obtain rfl := (Option.some.inj ho)
        clear hty ho
        refine step_pure (.agg #[.int .u8 3, .int .i64 0, .int .u64 9221120237041090560, .string ⟨#[]⟩]) (wanted_guard rfl rfl h32) ?_ (Ext.refl _) rfl
        simp [execOp, Act.eval, h1, p0, p1, p2, p3, go_sem]
      | 6, ho =>
        have h33 : tmps[33]?.getD undef = .agg #[.int .u8 3, .int .i64 0, .int .u64 9221120237041090560, .string ⟨#[]⟩] := hty 4 33 rfl (by obtain rfl := (Option.some.inj ho); rfl)
        have h34 : tmps[34]?.getD undef = .agg #[.int .u8 3, .int .i64 0, .int .u64 9221120237041090560, .string ⟨#[]⟩] := hty 5 34 rfl (by obtain rfl := (Option.some.inj ho); rfl)
        have h32 : tmps[32]?.getD undef = .bool true := hty 3 32 rfl (by obtain rfl := (Option.some.inj ho); rfl)
        obtain rfl := (Option.some.inj ho)
        clear hty ho
        refine step_call 11 #[.int .u8 2, .agg #[.int .u8 3, .int .i64 0, .int .u64 9221120237041090560, .string ⟨#[]⟩], .agg #[.int .u8 3, .int .i64 0, .int .u64 9221120237041090560, .string ⟨#[]⟩]] (wanted_guard rfl rfl h32) ?_ ?_
        · simp [execOp, Act.eval, h33, h34, go_sem]
        · exact (ch2 _).mono fun e w' h => ⟨_, h.1, h.2, rfl⟩
      | 7, ho =>
        have h32 : tmps[32]?.getD undef = .bool true := hty 3 32 rfl (by obtain rfl := (Option.some.inj ho); rfl)
        have h35 : tmps[35]?.getD undef = .bool true := hty 6 35 rfl (by obtain rfl := (Option.some.inj ho); rfl)
        obtain rfl := (Option.some.inj ho)
        clear hty ho
        refine step_pure (.bool true) (wanted_free rfl) ?_ (Ext.refl _) rfl
        simp [execOp, Act.eval, h32, h35, go_sem]
      | 8, ho =>
        have h36 : tmps[36]?.getD undef = .bool true := hty 7 36 rfl (by obtain rfl := (Option.some.inj ho); rfl)
        obtain rfl := (Option.some.inj ho)
        clear hty ho
        refine step_pure (.bool true) (wanted_free rfl) ?_ (Ext.refl _) rfl
        simp [execOp, Act.eval, h36, go_sem]
      | 9, ho =>
        have h37 : tmps[37]?.getD undef = .bool true := hty 8 37 rfl (by obtain rfl := (Option.some.inj ho); rfl)
        obtain rfl := (Option.some.inj ho)
        clear hty ho
        refine step_pure (.agg #[.int .u8 3, .int .i64 0, .int .u64 9221120237041090560, .string ⟨#[]⟩]) (wanted_guard rfl rfl h37) ?_ (Ext.refl _) rfl
        simp [execOp, Act.eval, h1, p0, p1, p2, p3, go_sem]
      | 10, ho =>
        have h37 : tmps[37]?.getD undef = .bool true := hty 8 37 rfl (by obtain rfl := (Option.some.inj ho); rfl)
        obtain rfl := (Option.some.inj ho)
        clear hty ho
        refine step_pure (.agg #[.int .u8 3, .int .i64 0, .int .u64 9221120237041090560, .string ⟨#[]⟩]) (wanted_guard rfl rfl h37) ?_ (Ext.refl _) rfl
        simp [execOp, Act.eval, h1, p0, p1, p2, p3, go_sem]
      | 11, ho =>
        have h38 : tmps[38]?.getD undef = .agg #[.int .u8 3, .int .i64 0, .int .u64 9221120237041090560, .string ⟨#[]⟩] := hty 9 38 rfl (by obtain rfl := (Option.some.inj ho); rfl)
        have h39 : tmps[39]?.getD undef = .agg #[.int .u8 3, .int .i64 0, .int .u64 9221120237041090560, .string ⟨#[]⟩] := hty 10 39 rfl (by obtain rfl := (Option.some.inj ho); rfl)
        have h37 : tmps[37]?.getD undef = .bool true := hty 8 37 rfl (by obtain rfl := (Option.some.inj ho); rfl)
        obtain rfl := (Option.some.inj ho)
        clear hty ho
        refine step_call 11 #[.int .u8 1, .agg #[.int .u8 3, .int .i64 0, .int .u64 9221120237041090560, .string ⟨#[]⟩], .agg #[.int .u8 3, .int .i64 0, .int .u64 9221120237041090560, .string ⟨#[]⟩]] (wanted_guard rfl rfl h37) ?_ ?_
        · simp [execOp, Act.eval, h38, h39, go_sem]
        · exact (ch3 _).mono fun e w' h => ⟨_, h.1, h.2, rfl⟩
      | 12, ho =>
        have h40 : tmps[40]?.getD undef = .bool false := hty 11 40 rfl (by obtain rfl := (Option.some.inj ho); rfl)
        have h37 : tmps[37]?.getD undef = .bool true := hty 8 37 rfl (by obtain rfl := (Option.some.inj ho); rfl)
        obtain rfl := (Option.some.inj ho)
        clear hty ho
        refine step_pure (.bool true) (wanted_guard rfl rfl h37) ?_ (Ext.refl _) rfl
        simp [execOp, Act.eval, h40, go_sem]
      | 13, ho =>
        have h37 : tmps[37]?.getD undef = .bool true := hty 8 37 rfl (by obtain rfl := (Option.some.inj ho); rfl)
        have h41 : tmps[41]?.getD undef = .bool true := hty 12 41 rfl (by obtain rfl := (Option.some.inj ho); rfl)
        obtain rfl := (Option.some.inj ho)
        clear hty ho
        refine step_pure (.bool true) (wanted_free rfl) ?_ (Ext.refl _) rfl
        simp [execOp, Act.eval, h37, h41, go_sem]
      | 14, ho =>
        have h42 : tmps[42]?.getD undef = .bool true := hty 13 42 rfl (by obtain rfl := (Option.some.inj ho); rfl)
        obtain rfl := (Option.some.inj ho)
        clear hty ho
        refine step_pure (.bool true) (wanted_free rfl) ?_ (Ext.refl _) rfl
        simp [execOp, Act.eval, h42, go_sem]
      | 15, ho =>
        have h43 : tmps[43]?.getD undef = .bool true := hty 14 43 rfl (by obtain rfl := (Option.some.inj ho); rfl)
        obtain rfl := (Option.some.inj ho)
        clear hty ho
        refine step_call 27 #[.int .u64 0] (wanted_guard rfl rfl h43) ?_ ?_
        · simp [execOp, Act.eval, go_sem]
        · exact (cr4 _).mono fun e w' h => ⟨_, h.1, h.2, rfl⟩
      | 16, ho =>
        have h43 : tmps[43]?.getD undef = .bool true := hty 14 43 rfl (by obtain rfl := (Option.some.inj ho); rfl)
        obtain rfl := (Option.some.inj ho)
        clear hty ho
        refine step_call 27 #[.int .u64 9223372036854775808] (wanted_guard rfl rfl h43) ?_ ?_
        · simp [execOp, Act.eval, go_sem]
        · exact (cr5 _).mono fun e w' h => ⟨_, h.1, h.2, rfl⟩
      | 17, ho =>
        have h44 : tmps[44]?.getD undef = .agg #[.int .u8 3, .int .i64 0, .int .u64 0, .string ⟨#[]⟩] := hty 15 44 rfl (by obtain rfl := (Option.some.inj ho); rfl)
        have h45 : tmps[45]?.getD undef = .agg #[.int .u8 3, .int .i64 0, .int .u64 9223372036854775808, .string ⟨#[]⟩] := hty 16 45 rfl (by obtain rfl := (Option.some.inj ho); rfl)
        have h43 : tmps[43]?.getD undef = .bool true := hty 14 43 rfl (by obtain rfl := (Option.some.inj ho); rfl)
        obtain rfl := (Option.some.inj ho)
        clear hty ho
        refine step_call 11 #[.int .u8 1, .agg #[.int .u8 3, .int .i64 0, .int .u64 0, .string ⟨#[]⟩], .agg #[.int .u8 3, .int .i64 0, .int .u64 9223372036854775808, .string ⟨#[]⟩]] (wanted_guard rfl rfl h43) ?_ ?_
        · simp [execOp, Act.eval, h44, h45, go_sem]
        · exact (ch4 _).mono fun e w' h => ⟨_, h.1, h.2, rfl⟩
      | 18, ho =>
        have h43 : tmps[43]?.getD undef = .bool true := hty 14 43 rfl (by obtain rfl := (Option.some.inj ho); rfl)
        have h46 : tmps[46]?.getD undef = .bool true := hty 17 46 rfl (by obtain rfl := (Option.some.inj ho); rfl)
        obtain rfl := (Option.some.inj ho)
        clear hty ho
        refine step_pure (.bool true) (wanted_free rfl) ?_ (Ext.refl _) rfl
        simp [execOp, Act.eval, h43, h46, go_sem]
      | 19, ho =>
        have h47 : tmps[47]?.getD undef = .bool true := hty 18 47 rfl (by obtain rfl := (Option.some.inj ho); rfl)
        obtain rfl := (Option.some.inj ho)
        clear hty ho
        refine step_pure (.bool true) (wanted_free rfl) ?_ (Ext.refl _) rfl
        simp [execOp, Act.eval, h47, go_sem]
      | 20, ho =>
        have h48 : tmps[48]?.getD undef = .bool true := hty 19 48 rfl (by obtain rfl := (Option.some.inj ho); rfl)
        obtain rfl := (Option.some.inj ho)
        clear hty ho
        refine step_call 29 #[.bool false] (wanted_guard rfl rfl h48) ?_ ?_
        · simp [execOp, Act.eval, go_sem]
        · exact (cf1 _).mono fun e w' h => ⟨_, h.1, h.2, rfl⟩
      | 21, ho =>
        have h48 : tmps[48]?.getD undef = .bool true := hty 19 48 rfl (by obtain rfl := (Option.some.inj ho); rfl)
        obtain rfl := (Option.some.inj ho)
        clear hty ho
        refine step_call 29 #[.bool true] (wanted_guard rfl rfl h48) ?_ ?_
        · simp [execOp, Act.eval, go_sem]
        · exact (cf2 _).mono fun e w' h => ⟨_, h.1, h.2, rfl⟩
      | 22, ho =>
        have h49 : tmps[49]?.getD undef = .agg #[.int .u8 2, .int .i64 0, .int .u64 0, .string ⟨#[]⟩] := hty 20 49 rfl (by obtain rfl := (Option.some.inj ho); rfl)
        have h50 : tmps[50]?.getD undef = .agg #[.int .u8 2, .int .i64 1, .int .u64 0, .string ⟨#[]⟩] := hty 21 50 rfl (by obtain rfl := (Option.some.inj ho); rfl)
        have h48 : tmps[48]?.getD undef = .bool true := hty 19 48 rfl (by obtain rfl := (Option.some.inj ho); rfl)
        obtain rfl := (Option.some.inj ho)
        clear hty ho
        refine step_call 11 #[.int .u8 3, .agg #[.int .u8 2, .int .i64 0, .int .u64 0, .string ⟨#[]⟩], .agg #[.int .u8 2, .int .i64 1, .int .u64 0, .string ⟨#[]⟩]] (wanted_guard rfl rfl h48) ?_ ?_
        · simp [execOp, Act.eval, h49, h50, go_sem]
        · exact (ch5 _).mono fun e w' h => ⟨_, h.1, h.2, rfl⟩
      | 23, ho =>
        have h51 : tmps[51]?.getD undef = .bool false := hty 22 51 rfl (by obtain rfl := (Option.some.inj ho); rfl)
        have h48 : tmps[48]?.getD undef = .bool true := hty 19 48 rfl (by obtain rfl := (Option.some.inj ho); rfl)
        obtain rfl := (Option.some.inj ho)
        clear hty ho
        refine step_pure (.bool true) (wanted_guard rfl rfl h48) ?_ (Ext.refl _) rfl
        simp [execOp, Act.eval, h51, go_sem]
      | 24, ho =>
        have h48 : tmps[48]?.getD undef = .bool true := hty 19 48 rfl (by obtain rfl := (Option.some.inj ho); rfl)
        have h52 : tmps[52]?.getD undef = .bool true := hty 23 52 rfl (by obtain rfl := (Option.some.inj ho); rfl)
        obtain rfl := (Option.some.inj ho)
        clear hty ho
        refine step_pure (.bool true) (wanted_free rfl) ?_ (Ext.refl _) rfl
        simp [execOp, Act.eval, h48, h52, go_sem]
      | 25, ho =>
        have h53 : tmps[53]?.getD undef = .bool true := hty 24 53 rfl (by obtain rfl := (Option.some.inj ho); rfl)
        obtain rfl := (Option.some.inj ho)
        clear hty ho
        refine step_pure (.bool true) (wanted_free rfl) ?_ (Ext.refl _) rfl
        simp [execOp, Act.eval, h53, go_sem]
      | 26, ho =>
        have h54 : tmps[54]?.getD undef = .bool true := hty 25 54 rfl (by obtain rfl := (Option.some.inj ho); rfl)
        obtain rfl := (Option.some.inj ho)
        clear hty ho
        refine step_call 30 #[.string ⟨#[97]⟩] (wanted_guard rfl rfl h54) ?_ ?_
        · simp [execOp, Act.eval, go_sem]
        · exact (ct1 _).mono fun e w' h => ⟨_, h.1, h.2, rfl⟩
      | 27, ho =>
        have h54 : tmps[54]?.getD undef = .bool true := hty 25 54 rfl (by obtain rfl := (Option.some.inj ho); rfl)
        obtain rfl := (Option.some.inj ho)
        clear hty ho
        refine step_call 28 #[.int .i64 1] (wanted_guard rfl rfl h54) ?_ ?_
        · simp [execOp, Act.eval, go_sem]
        · exact (ci1 _).mono fun e w' h => ⟨_, h.1, h.2, rfl⟩
      | 28, ho =>
        have h55 : tmps[55]?.getD undef = .agg #[.int .u8 4, .int .i64 0, .int .u64 0, .string ⟨#[97]⟩] := hty 26 55 rfl (by obtain rfl := (Option.some.inj ho); rfl)
        have h56 : tmps[56]?.getD undef = .agg #[.int .u8 1, .int .i64 1, .int .u64 0, .string ⟨#[]⟩] := hty 27 56 rfl (by obtain rfl := (Option.some.inj ho); rfl)
        have h54 : tmps[54]?.getD undef = .bool true := hty 25 54 rfl (by obtain rfl := (Option.some.inj ho); rfl)
        obtain rfl := (Option.some.inj ho)
        clear hty ho
        refine step_call 11 #[.int .u8 2, .agg #[.int .u8 4, .int .i64 0, .int .u64 0, .string ⟨#[97]⟩], .agg #[.int .u8 1, .int .i64 1, .int .u64 0, .string ⟨#[]⟩]] (wanted_guard rfl rfl h54) ?_ ?_
        · simp [execOp, Act.eval, h55, h56, go_sem]
        · exact (ch6 _).mono fun e w' h => ⟨_, h.1, h.2, rfl⟩
      | 29, ho =>
        have h54 : tmps[54]?.getD undef = .bool true := hty 25 54 rfl (by obtain rfl := (Option.some.inj ho); rfl)
        have h57 : tmps[57]?.getD undef = .bool true := hty 28 57 rfl (by obtain rfl := (Option.some.inj ho); rfl)
        obtain rfl := (Option.some.inj ho)
        clear hty ho
        refine step_pure (.bool true) (wanted_free rfl) ?_ (Ext.refl _) rfl
        simp [execOp, Act.eval, h54, h57, go_sem]
      | 30, ho =>
        have h58 : tmps[58]?.getD undef = .bool true := hty 29 58 rfl (by obtain rfl := (Option.some.inj ho); rfl)
        obtain rfl := (Option.some.inj ho)
        clear hty ho
        refine step_pure (.bool true) (wanted_free rfl) ?_ (Ext.refl _) rfl
        simp [execOp, Act.eval, h58, go_sem]
      | 31, ho =>
        have h59 : tmps[59]?.getD undef = .bool true := hty 30 59 rfl (by obtain rfl := (Option.some.inj ho); rfl)
        obtain rfl := (Option.some.inj ho)
        clear hty ho
        refine step_call 30 #[.string ⟨#[97]⟩] (wanted_guard rfl rfl h59) ?_ ?_
        · simp [execOp, Act.eval, go_sem]
        · exact (ct1 _).mono fun e w' h => ⟨_, h.1, h.2, rfl⟩
      | 32, ho =>
        have h59 : tmps[59]?.getD undef = .bool true := hty 30 59 rfl (by obtain rfl := (Option.some.inj ho); rfl)
        obtain rfl := (Option.some.inj ho)
        clear hty ho
        refine step_call 30 #[.string ⟨#[97, 98]⟩] (wanted_guard rfl rfl h59) ?_ ?_
        · simp [execOp, Act.eval, go_sem]
        · exact (ct2 _).mono fun e w' h => ⟨_, h.1, h.2, rfl⟩
      | 33, ho =>
        have h60 : tmps[60]?.getD undef = .agg #[.int .u8 4, .int .i64 0, .int .u64 0, .string ⟨#[97]⟩] := hty 31 60 rfl (by obtain rfl := (Option.some.inj ho); rfl)
        have h61 : tmps[61]?.getD undef = .agg #[.int .u8 4, .int .i64 0, .int .u64 0, .string ⟨#[97, 98]⟩] := hty 32 61 rfl (by obtain rfl := (Option.some.inj ho); rfl)
        have h59 : tmps[59]?.getD undef = .bool true := hty 30 59 rfl (by obtain rfl := (Option.some.inj ho); rfl)
        obtain rfl := (Option.some.inj ho)
        clear hty ho
        refine step_call 11 #[.int .u8 4, .agg #[.int .u8 4, .int .i64 0, .int .u64 0, .string ⟨#[97]⟩], .agg #[.int .u8 4, .int .i64 0, .int .u64 0, .string ⟨#[97, 98]⟩]] (wanted_guard rfl rfl h59) ?_ ?_
        · simp [execOp, Act.eval, h60, h61, go_sem]
        · exact (ch7 _).mono fun e w' h => ⟨_, h.1, h.2, rfl⟩
      | 34, ho =>
        have h59 : tmps[59]?.getD undef = .bool true := hty 30 59 rfl (by obtain rfl := (Option.some.inj ho); rfl)
        have h62 : tmps[62]?.getD undef = .bool true := hty 33 62 rfl (by obtain rfl := (Option.some.inj ho); rfl)
        obtain rfl := (Option.some.inj ho)
        clear hty ho
        refine step_pure (.bool true) (wanted_free rfl) ?_ (Ext.refl _) rfl
        simp [execOp, Act.eval, h59, h62, go_sem]
      | 35, ho =>
        have h63 : tmps[63]?.getD undef = .bool true := hty 34 63 rfl (by obtain rfl := (Option.some.inj ho); rfl)
        obtain rfl := (Option.some.inj ho)
        clear hty ho
        refine step_pure (.bool true) (wanted_free rfl) ?_ (Ext.refl _) rfl
        simp [execOp, Act.eval, h63, go_sem]
      | 36, ho =>
        have h64 : tmps[64]?.getD undef = .bool true := hty 35 64 rfl (by obtain rfl := (Option.some.inj ho); rfl)
        obtain rfl := (Option.some.inj ho)
        clear hty ho
        refine step_pure (.bool true) (wanted_guard rfl rfl h64) ?_ (Ext.refl _) rfl
        simp [execOp, Act.eval, h4, go_sem]
      | 37, ho =>
        have h64 : tmps[64]?.getD undef = .bool true := hty 35 64 rfl (by obtain rfl := (Option.some.inj ho); rfl)
        have h65 : tmps[65]?.getD undef = .bool true := hty 36 65 rfl (by obtain rfl := (Option.some.inj ho); rfl)
        obtain rfl := (Option.some.inj ho)
        clear hty ho
        refine step_pure (.bool true) (wanted_free rfl) ?_ (Ext.refl _) rfl
        simp [execOp, Act.eval, h64, h65, go_sem]
      | 38, ho =>
        have h66 : tmps[66]?.getD undef = .bool true := hty 37 66 rfl (by obtain rfl := (Option.some.inj ho); rfl)
        obtain rfl := (Option.some.inj ho)
        clear hty ho
        refine step_pure (.bool true) (wanted_free rfl) ?_ (Ext.refl _) rfl
        simp [execOp, Act.eval, h66, go_sem]
      | 39, ho =>
        have h67 : tmps[67]?.getD undef = .bool true := hty 38 67 rfl (by obtain rfl := (Option.some.inj ho); rfl)
        obtain rfl := (Option.some.inj ho)
        clear hty ho
        refine step_pure (.agg #[.int .u8 3, .int .i64 0, .int .u64 4609434218613702656, .string ⟨#[]⟩]) (wanted_guard rfl rfl h67) ?_ (Ext.refl _) rfl
        simp [execOp, Act.eval, h3, q0, q1, q2, q3, go_sem]
      | 40, ho =>
        have h67 : tmps[67]?.getD undef = .bool true := hty 38 67 rfl (by obtain rfl := (Option.some.inj ho); rfl)
        obtain rfl := (Option.some.inj ho)
        clear hty ho
        refine step_call 27 #[.int .u64 4609434218613702656] (wanted_guard rfl rfl h67) ?_ ?_
        · simp [execOp, Act.eval, go_sem]
        · exact (cr6 _).mono fun e w' h => ⟨_, h.1, h.2, rfl⟩
      | 41, ho =>
        have h68 : tmps[68]?.getD undef = .agg #[.int .u8 3, .int .i64 0, .int .u64 4609434218613702656, .string ⟨#[]⟩] := hty 39 68 rfl (by obtain rfl := (Option.some.inj ho); rfl)
        have h69 : tmps[69]?.getD undef = .agg #[.int .u8 3, .int .i64 0, .int .u64 4609434218613702656, .string ⟨#[]⟩] := hty 40 69 rfl (by obtain rfl := (Option.some.inj ho); rfl)
        have h67 : tmps[67]?.getD undef = .bool true := hty 38 67 rfl (by obtain rfl := (Option.some.inj ho); rfl)
        obtain rfl := (Option.some.inj ho)
        clear hty ho
        refine step_pure (.bool true) (wanted_guard rfl rfl h67) ?_ (Ext.refl _) rfl
        simp [execOp, Act.eval, h68, h69, go_sem]
      | 42, ho =>
        have h67 : tmps[67]?.getD undef = .bool true := hty 38 67 rfl (by obtain rfl := (Option.some.inj ho); rfl)
        have h70 : tmps[70]?.getD undef = .bool true := hty 41 70 rfl (by obtain rfl := (Option.some.inj ho); rfl)
        obtain rfl := (Option.some.inj ho)
        clear hty ho
        refine step_pure (.bool true) (wanted_free rfl) ?_ (Ext.refl _) rfl
        simp [execOp, Act.eval, h67, h70, go_sem]
      | 43, ho =>
        have h71 : tmps[71]?.getD undef = .bool true := hty 42 71 rfl (by obtain rfl := (Option.some.inj ho); rfl)
        obtain rfl := (Option.some.inj ho)
        clear hty ho
        refine step_pure (.bool true) (wanted_free rfl) ?_ (Ext.refl _) rfl
        simp [execOp, Act.eval, h71, go_sem]
      | 44, ho =>
        have h72 : tmps[72]?.getD undef = .bool true := hty 43 72 rfl (by obtain rfl := (Option.some.inj ho); rfl)
        obtain rfl := (Option.some.inj ho)
        clear hty ho
        refine step_pure (.bool true) (wanted_guard rfl rfl h72) ?_ (Ext.refl _) rfl
        simp [execOp, Act.eval, h6, go_sem]
      | 45, ho =>
        have h72 : tmps[72]?.getD undef = .bool true := hty 43 72 rfl (by obtain rfl := (Option.some.inj ho); rfl)
        have h73 : tmps[73]?.getD undef = .bool true := hty 44 73 rfl (by obtain rfl := (Option.some.inj ho); rfl)
        obtain rfl := (Option.some.inj ho)
        clear hty ho
        refine step_pure (.bool true) (wanted_free rfl) ?_ (Ext.refl _) rfl
        simp [execOp, Act.eval, h72, h73, go_sem]
      | 46, ho =>
        have h74 : tmps[74]?.getD undef = .bool true := hty 45 74 rfl (by obtain rfl := (Option.some.inj ho); rfl)
        obtain rfl := (Option.some.inj ho)
        clear hty ho
        refine step_pure (.bool true) (wanted_free rfl) ?_ (Ext.refl _) rfl
        simp [execOp, Act.eval, h74, go_sem]
      | 47, ho =>
        have h75 : tmps[75]?.getD undef = .bool true := hty 46 75 rfl (by obtain rfl := (Option.some.inj ho); rfl)
        obtain rfl := (Option.some.inj ho)
        clear hty ho
        refine step_pure (.agg #[.int .u8 1, .int .i64 (-2), .int .u64 0, .string ⟨#[]⟩]) (wanted_guard rfl rfl h75) ?_ (Ext.refl _) rfl
        simp [execOp, Act.eval, h5, r0, r1, r2, r3, go_sem]
      | 48, ho =>
        have h75 : tmps[75]?.getD undef = .bool true := hty 46 75 rfl (by obtain rfl := (Option.some.inj ho); rfl)
        obtain rfl := (Option.some.inj ho)
        clear hty ho
        refine step_call 28 #[.int .i64 (-2)] (wanted_guard rfl rfl h75) ?_ ?_
        · simp [execOp, Act.eval, go_sem]
        · exact (ci5 _).mono fun e w' h => ⟨_, h.1, h.2, rfl⟩
      | 49, ho =>
        have h76 : tmps[76]?.getD undef = .agg #[.int .u8 1, .int .i64 (-2), .int .u64 0, .string ⟨#[]⟩] := hty 47 76 rfl (by obtain rfl := (Option.some.inj ho); rfl)
        have h77 : tmps[77]?.getD undef = .agg #[.int .u8 1, .int .i64 (-2), .int .u64 0, .string ⟨#[]⟩] := hty 48 77 rfl (by obtain rfl := (Option.some.inj ho); rfl)
        have h75 : tmps[75]?.getD undef = .bool true := hty 46 75 rfl (by obtain rfl := (Option.some.inj ho); rfl)
        obtain rfl := (Option.some.inj ho)
        clear hty ho
        refine step_pure (.bool true) (wanted_guard rfl rfl h75) ?_ (Ext.refl _) rfl
        simp [execOp, Act.eval, h76, h77, go_sem]
      | 50, ho =>
        have h75 : tmps[75]?.getD undef = .bool true := hty 46 75 rfl (by obtain rfl := (Option.some.inj ho); rfl)
        have h78 : tmps[78]?.getD undef = .bool true := hty 49 78 rfl (by obtain rfl := (Option.some.inj ho); rfl)
        obtain rfl := (Option.some.inj ho)
        clear hty ho
        refine step_pure (.bool true) (wanted_free rfl) ?_ (Ext.refl _) rfl
        simp [execOp, Act.eval, h75, h78, go_sem]
      | 51, ho =>
        have h79 : tmps[79]?.getD undef = .bool true := hty 50 79 rfl (by obtain rfl := (Option.some.inj ho); rfl)
        obtain rfl := (Option.some.inj ho)
        clear hty ho
        refine step_pure (.bool true) (wanted_free rfl) ?_ (Ext.refl _) rfl
        simp [execOp, Act.eval, h79, go_sem]
      | 52, ho =>
        have h80 : tmps[80]?.getD undef = .bool true := hty 51 80 rfl (by obtain rfl := (Option.some.inj ho); rfl)
        obtain rfl := (Option.some.inj ho)
        clear hty ho
        refine step_pure (.bool false) (wanted_guard rfl rfl h80) ?_ (Ext.refl _) rfl
        simp [execOp, Act.eval, h8, go_sem]
      | 53, ho =>
        have h81 : tmps[81]?.getD undef = .bool false := hty 52 81 rfl (by obtain rfl := (Option.some.inj ho); rfl)
        have h80 : tmps[80]?.getD undef = .bool true := hty 51 80 rfl (by obtain rfl := (Option.some.inj ho); rfl)
        obtain rfl := (Option.some.inj ho)
        clear hty ho
        refine step_pure (.bool true) (wanted_guard rfl rfl h80) ?_ (Ext.refl _) rfl
        simp [execOp, Act.eval, h81, go_sem]
      | 54, ho =>
        have h80 : tmps[80]?.getD undef = .bool true := hty 51 80 rfl (by obtain rfl := (Option.some.inj ho); rfl)
        have h82 : tmps[82]?.getD undef = .bool true := hty 53 82 rfl (by obtain rfl := (Option.some.inj ho); rfl)
        obtain rfl := (Option.some.inj ho)
        clear hty ho
        refine step_pure (.bool true) (wanted_free rfl) ?_ (Ext.refl _) rfl
        simp [execOp, Act.eval, h80, h82, go_sem]
      | 55, ho =>
        have h83 : tmps[83]?.getD undef = .bool true := hty 54 83 rfl (by obtain rfl := (Option.some.inj ho); rfl)
        obtain rfl := (Option.some.inj ho)
        clear hty ho
        refine step_pure (.bool true) (wanted_free rfl) ?_ (Ext.refl _) rfl
        simp [execOp, Act.eval, h83, go_sem]
      | 56, ho =>
        have h84 : tmps[84]?.getD undef = .bool true := hty 55 84 rfl (by obtain rfl := (Option.some.inj ho); rfl)
        obtain rfl := (Option.some.inj ho)
        clear hty ho
        refine step_call 17 #[.int .u8 6] (wanted_guard rfl rfl h84) ?_ ?_
        · simp [execOp, Act.eval, go_sem]
        · exact (cs1 _).mono fun e w' h => ⟨_, h.1, h.2, rfl⟩
      | 57, ho =>
        have h85 : tmps[85]?.getD undef = .string ⟨#[62, 61]⟩ := hty 56 85 rfl (by obtain rfl := (Option.some.inj ho); rfl)
        have h84 : tmps[84]?.getD undef = .bool true := hty 55 84 rfl (by obtain rfl := (Option.some.inj ho); rfl)
        obtain rfl := (Option.some.inj ho)
        clear hty ho
        refine step_pure (.bool true) (wanted_guard rfl rfl h84) ?_ (Ext.refl _) rfl
        simp [execOp, Act.eval, h85, go_sem]
      | 58, ho =>
        have h84 : tmps[84]?.getD undef = .bool true := hty 55 84 rfl (by obtain rfl := (Option.some.inj ho); rfl)
        have h86 : tmps[86]?.getD undef = .bool true := hty 57 86 rfl (by obtain rfl := (Option.some.inj ho); rfl)
        obtain rfl := (Option.some.inj ho)
        clear hty ho
        refine step_pure (.bool true) (wanted_free rfl) ?_ (Ext.refl _) rfl
        simp [execOp, Act.eval, h84, h86, go_sem]
      | 59, ho =>
        have h87 : tmps[87]?.getD undef = .bool true := hty 58 87 rfl (by obtain rfl := (Option.some.inj ho); rfl)
        obtain rfl := (Option.some.inj ho)
        clear hty ho
        refine step_pure (.bool true) (wanted_free rfl) ?_ (Ext.refl _) rfl
        simp [execOp, Act.eval, h87, go_sem]
      | 60, ho =>
        have h88 : tmps[88]?.getD undef = .bool true := hty 59 88 rfl (by obtain rfl := (Option.some.inj ho); rfl)
        obtain rfl := (Option.some.inj ho)
        clear hty ho
        refine step_call 19 #[.string ⟨#[33, 61]⟩] (wanted_guard rfl rfl h88) ?_ ?_
        · simp [execOp, Act.eval, go_sem]
        · exact (cs2 _).mono fun e w' h => ⟨_, h.1, h.2, rfl⟩
      | 61, ho =>
        have h89 : tmps[89]?.getD undef = .int .u8 2 := hty 60 89 rfl (by obtain rfl := (Option.some.inj ho); rfl)
        have h88 : tmps[88]?.getD undef = .bool true := hty 59 88 rfl (by obtain rfl := (Option.some.inj ho); rfl)
        obtain rfl := (Option.some.inj ho)
        clear hty ho
        refine step_pure (.bool true) (wanted_guard rfl rfl h88) ?_ (Ext.refl _) rfl
        simp [execOp, Act.eval, h89, go_sem]
      | 62, ho =>
        have h88 : tmps[88]?.getD undef = .bool true := hty 59 88 rfl (by obtain rfl := (Option.some.inj ho); rfl)
        have h90 : tmps[90]?.getD undef = .bool true := hty 61 90 rfl (by obtain rfl := (Option.some.inj ho); rfl)
        obtain rfl := (Option.some.inj ho)
        clear hty ho
        refine step_pure (.bool true) (wanted_free rfl) ?_ (Ext.refl _) rfl
        simp [execOp, Act.eval, h88, h90, go_sem]
      | 63, ho =>
        have h91 : tmps[91]?.getD undef = .bool true := hty 62 91 rfl (by obtain rfl := (Option.some.inj ho); rfl)
        obtain rfl := (Option.some.inj ho)
        clear hty ho
        refine step_pure (.bool true) (wanted_free rfl) ?_ (Ext.refl _) rfl
        simp [execOp, Act.eval, h91, go_sem]
      | 64, ho =>
        have h92 : tmps[92]?.getD undef = .bool true := hty 63 92 rfl (by obtain rfl := (Option.some.inj ho); rfl)
        obtain rfl := (Option.some.inj ho)
        clear hty ho
        refine step_call 21 #[.int .u8 3, .int .u8 1, .int .u8 3] (wanted_guard rfl rfl h92) ?_ ?_
        · simp [execOp, Act.eval, go_sem]
        · exact (cs3 _).mono fun e w' h => ⟨_, h.1, h.2, rfl⟩
      | 65, ho =>
        have h92 : tmps[92]?.getD undef = .bool true := hty 63 92 rfl (by obtain rfl := (Option.some.inj ho); rfl)
        have h93 : tmps[93]?.getD undef = .bool true := hty 64 93 rfl (by obtain rfl := (Option.some.inj ho); rfl)
        obtain rfl := (Option.some.inj ho)
        clear hty ho
        refine step_pure (.bool true) (wanted_free rfl) ?_ (Ext.refl _) rfl
        simp [execOp, Act.eval, h92, h93, go_sem]
      | 66, ho =>
        have h94 : tmps[94]?.getD undef = .bool true := hty 65 94 rfl (by obtain rfl := (Option.some.inj ho); rfl)
        obtain rfl := (Option.some.inj ho)
        clear hty ho
        refine step_pure (.bool true) (wanted_free rfl) ?_ (Ext.refl _) rfl
        simp [execOp, Act.eval, h94, go_sem]
      | 67, ho =>
        have h95 : tmps[95]?.getD undef = .bool true := hty 66 95 rfl (by obtain rfl := (Option.some.inj ho); rfl)
        obtain rfl := (Option.some.inj ho)
        clear hty ho
        refine step_call 21 #[.int .u8 3, .int .u8 2, .int .u8 2] (wanted_guard rfl rfl h95) ?_ ?_
        · simp [execOp, Act.eval, go_sem]
        · exact (cs4 _).mono fun e w' h => ⟨_, h.1, h.2, rfl⟩
      | 68, ho =>
        have h96 : tmps[96]?.getD undef = .bool false := hty 67 96 rfl (by obtain rfl := (Option.some.inj ho); rfl)
        have h95 : tmps[95]?.getD undef = .bool true := hty 66 95 rfl (by obtain rfl := (Option.some.inj ho); rfl)
        obtain rfl := (Option.some.inj ho)
        clear hty ho
        refine step_pure (.bool true) (wanted_guard rfl rfl h95) ?_ (Ext.refl _) rfl
        simp [execOp, Act.eval, h96, go_sem]
      | 69, ho =>
        have h95 : tmps[95]?.getD undef = .bool true := hty 66 95 rfl (by obtain rfl := (Option.some.inj ho); rfl)
        have h97 : tmps[97]?.getD undef = .bool true := hty 68 97 rfl (by obtain rfl := (Option.some.inj ho); rfl)
        obtain rfl := (Option.some.inj ho)
        clear hty ho
        refine step_pure (.bool true) (wanted_free rfl) ?_ (Ext.refl _) rfl
        simp [execOp, Act.eval, h95, h97, go_sem]
      | 70, ho =>
        have h98 : tmps[98]?.getD undef = .bool true := hty 69 98 rfl (by obtain rfl := (Option.some.inj ho); rfl)
        obtain rfl := (Option.some.inj ho)
        clear hty ho
        refine step_pure (.bool true) (wanted_free rfl) ?_ (Ext.refl _) rfl
        simp [execOp, Act.eval, h98, go_sem]
      | 71, ho =>
        have h99 : tmps[99]?.getD undef = .bool true := hty 70 99 rfl (by obtain rfl := (Option.some.inj ho); rfl)
        obtain rfl := (Option.some.inj ho)
        clear hty ho
        refine step_call 23 #[.int .u8 1, .int .u8 3] (wanted_guard rfl rfl h99) ?_ ?_
        · simp [execOp, Act.eval, go_sem]
        · exact (cs5 _).mono fun e w' h => ⟨_, h.1, h.2, rfl⟩
      | 72, ho =>
        have h100 : tmps[100]?.getD undef = .int .u8 3 := hty 71 100 rfl (by obtain rfl := (Option.some.inj ho); rfl)
        have h99 : tmps[99]?.getD undef = .bool true := hty 70 99 rfl (by obtain rfl := (Option.some.inj ho); rfl)
        obtain rfl := (Option.some.inj ho)
        clear hty ho
        refine step_pure (.bool true) (wanted_guard rfl rfl h99) ?_ (Ext.refl _) rfl
        simp [execOp, Act.eval, h100, go_sem]
      | 73, ho =>
        have h99 : tmps[99]?.getD undef = .bool true := hty 70 99 rfl (by obtain rfl := (Option.some.inj ho); rfl)
        have h101 : tmps[101]?.getD undef = .bool true := hty 72 101 rfl (by obtain rfl := (Option.some.inj ho); rfl)
        obtain rfl := (Option.some.inj ho)
        clear hty ho
        refine step_pure (.bool true) (wanted_free rfl) ?_ (Ext.refl _) rfl
        simp [execOp, Act.eval, h99, h101, go_sem]
      | 74, ho =>
        have h102 : tmps[102]?.getD undef = .bool true := hty 73 102 rfl (by obtain rfl := (Option.some.inj ho); rfl)
        obtain rfl := (Option.some.inj ho)
        clear hty ho
        refine step_pure (.bool true) (wanted_free rfl) ?_ (Ext.refl _) rfl
        simp [execOp, Act.eval, h102, go_sem]
      | (j + 75), ho => exact absurd ho (by simp)
    · intro tmps w6 hle hs hfr hty
      have h0 : tmps[0]?.getD undef = .bool true := hty 74 0 rfl
      have hfe := frame_eq [29, 30, 31, 32, 33, 34, 35, 36, 37, 38, 39, 40, 41, 42, 43, 44, 45, 46, 47, 48, 49, 50, 51, 52, 53, 54, 55, 56, 57, 58, 59, 60, 61, 62, 63, 64, 65, 66, 67, 68, 69, 70, 71, 72, 73, 74, 75, 76, 77, 78, 79, 80, 81, 82, 83, 84, 85, 86, 87, 88, 89, 90, 91, 92, 93, 94, 95, 96, 97, 98, 99, 100, 101, 102, 0] hs hfr (by kernel_rfl)
      rw [hfe]
      clear hfe hfr hs hty
      simp only [List.foldl_cons, List.foldl_nil]
      generalize tmps[29]?.getD undef = x29
      generalize tmps[30]?.getD undef = x30
      generalize tmps[31]?.getD undef = x31
      generalize tmps[32]?.getD undef = x32
      generalize tmps[33]?.getD undef = x33
      generalize tmps[34]?.getD undef = x34
      generalize tmps[35]?.getD undef = x35
      generalize tmps[36]?.getD undef = x36
      generalize tmps[37]?.getD undef = x37
      generalize tmps[38]?.getD undef = x38
      generalize tmps[39]?.getD undef = x39
      generalize tmps[40]?.getD undef = x40
      generalize tmps[41]?.getD undef = x41
      generalize tmps[42]?.getD undef = x42
      generalize tmps[43]?.getD undef = x43
      generalize tmps[44]?.getD undef = x44
      generalize tmps[45]?.getD undef = x45
      generalize tmps[46]?.getD undef = x46
      generalize tmps[47]?.getD undef = x47
      generalize tmps[48]?.getD undef = x48
      generalize tmps[49]?.getD undef = x49
      generalize tmps[50]?.getD undef = x50
      generalize tmps[51]?.getD undef = x51
      generalize tmps[52]?.getD undef = x52
      generalize tmps[53]?.getD undef = x53
      generalize tmps[54]?.getD undef = x54
      generalize tmps[55]?.getD undef = x55
      generalize tmps[56]?.getD undef = x56
      generalize tmps[57]?.getD undef = x57
      generalize tmps[58]?.getD undef = x58
      generalize tmps[59]?.getD undef = x59
      generalize tmps[60]?.getD undef = x60
      generalize tmps[61]?.getD undef = x61
      generalize tmps[62]?.getD undef = x62
      generalize tmps[63]?.getD undef = x63
      generalize tmps[64]?.getD undef = x64
      generalize tmps[65]?.getD undef = x65
      generalize tmps[66]?.getD undef = x66
      generalize tmps[67]?.getD undef = x67
      generalize tmps[68]?.getD undef = x68
      generalize tmps[69]?.getD undef = x69
      generalize tmps[70]?.getD undef = x70
      generalize tmps[71]?.getD undef = x71
      generalize tmps[72]?.getD undef = x72
      generalize tmps[73]?.getD undef = x73
      generalize tmps[74]?.getD undef = x74
      generalize tmps[75]?.getD undef = x75
      generalize tmps[76]?.getD undef = x76
      generalize tmps[77]?.getD undef = x77
      generalize tmps[78]?.getD undef = x78
      generalize tmps[79]?.getD undef = x79
      generalize tmps[80]?.getD undef = x80
      generalize tmps[81]?.getD undef = x81
      generalize tmps[82]?.getD undef = x82
      generalize tmps[83]?.getD undef = x83
      generalize tmps[84]?.getD undef = x84
      generalize tmps[85]?.getD undef = x85
      generalize tmps[86]?.getD undef = x86
      generalize tmps[87]?.getD undef = x87
      generalize tmps[88]?.getD undef = x88
      generalize tmps[89]?.getD undef = x89
      generalize tmps[90]?.getD undef = x90
      generalize tmps[91]?.getD undef = x91
      generalize tmps[92]?.getD undef = x92
      generalize tmps[93]?.getD undef = x93
      generalize tmps[94]?.getD undef = x94
      generalize tmps[95]?.getD undef = x95
      generalize tmps[96]?.getD undef = x96
      generalize tmps[97]?.getD undef = x97
      generalize tmps[98]?.getD undef = x98
      generalize tmps[99]?.getD undef = x99
      generalize tmps[100]?.getD undef = x100
      generalize tmps[101]?.getD undef = x101
      generalize tmps[102]?.getD undef = x102
      rw [h0]
      clear h0
      simp only [List.setIfInBounds_toArray, List.set_cons_succ, List.set_cons_zero]
      replace HX := hid (HX.out.trans hle)
      clear hle
      go_wp2_with fail
      go_ret
      exact ⟨rfl, HX.out⟩
end Go.Proofs.Ytaahaehgdamkdaa
