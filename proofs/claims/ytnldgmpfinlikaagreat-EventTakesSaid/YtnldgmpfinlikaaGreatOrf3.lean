/- telltaleref01's readers, by their contracts. Conditions: the reach of a string. -/
import Derived.Test.YtnldgmpfinlikaaGreatGOct4
import Derived.Test.YtnldgmpfinlikaaGreatBase
namespace Go.Proofs.YtnldgmpfinlikaaGreat
open Go Go.RowKit

/-- what is behind p -/
def restOf (s : ByteArray) (p : Int) : ByteArray := if p < 0 ∨ s.size < p then ⟨#[]⟩ else s.extract p.toNat s.size

theorem restOf_size (s : ByteArray) (p : Int) : ((restOf s p).size : Int) = leftOf s p := by
  unfold restOf leftOf
  by_cases h : p < 0 ∨ s.size < p
  · rw [if_pos h, if_pos h]; rfl
  · rw [if_neg h, if_neg h, ByteArray.size_extract]; omega

set_option maxHeartbeats 400000 in
theorem rest_any (s : ByteArray) (p e : Int) (w : World) (_hs : s.size ≤ 9223372036854775807) :
    Calls Tryz.prog 84 #[.agg #[.string s, .int .i64 p, .int .i64 e]] w (Says w (.string (restOf s p))) := by
  by_cases he : p < 0
  · have hl : restOf s p = ⟨#[]⟩ := if_pos (Or.inl he)
    have HL := hid hl
    clear hl
    go_enter Tryz.func84, Tryz.ntmps84
    go_wp2
    go_ret
    exact ⟨by rw [HL.out]; rfl, (by repeat (first | exact Ext.refl _ | apply Ext.then_drew | apply Ext.then_alloc | (refine Ext.setCell ?_ (by simp) _)))⟩
  · by_cases hf : s.size < p
    · have hl : restOf s p = ⟨#[]⟩ := if_pos (Or.inr hf)
      have HL := hid hl
      clear hl
      go_enter Tryz.func84, Tryz.ntmps84
      go_wp2
      go_ret
      exact ⟨by rw [HL.out]; rfl, (by repeat (first | exact Ext.refl _ | apply Ext.then_drew | apply Ext.then_alloc | (refine Ext.setCell ?_ (by simp) _)))⟩
    · have hl : restOf s p = s.extract p.toNat s.size := if_neg (by omega)
      have HL := hid hl
      clear hl
      obtain ⟨q, rfl⟩ := Int.eq_ofNat_of_zero_le (show 0 ≤ p by omega)
      rw [Int.toNat_natCast] at HL
      go_enter Tryz.func84, Tryz.ntmps84
      go_wp2
      go_ret
      exact ⟨by rw [HL.out]; rfl, (by repeat (first | exact Ext.refl _ | apply Ext.then_drew | apply Ext.then_alloc | (refine Ext.setCell ?_ (by simp) _)))⟩

set_option maxHeartbeats 400000 in
theorem ropen_any (s : ByteArray) (w : World) :
    Calls Tryz.prog 69 #[.string s] w (Says w (rd s 0 0)) := by
  go_enter Tryz.func69, Tryz.ntmps69
  go_wp2
  exact bodyPost_ret (v := rd s 0 0) (by simp [results, rd, Tryz.results69, go_sem]) rfl ⟨rfl, (by repeat (first | exact Ext.refl _ | apply Ext.then_drew | apply Ext.then_alloc | (refine Ext.setCell ?_ (by simp) _)))⟩

theorem rest_take (s : ByteArray) (p : Int) (k : Nat) (hk : k ≤ (restOf s p).size) (hk0 : 0 < k) : (restOf s p).data.toList.take k = (takeB s p 0 k).data.toList := by
  have hsz := restOf_size s p
  have hl : ¬ leftOf s p < (k : Int) := by omega
  obtain ⟨_, _, h3⟩ := take_fine hl
  rw [h3]
  have hp : ¬ (p < 0 ∨ s.size < p) := by
    intro h
    have : leftOf s p = 0 := if_pos h
    omega
  have hlo : leftOf s p = s.size - p := if_neg hp
  unfold restOf cutOf
  rw [if_neg hp, ByteArray.data_extract, ByteArray.data_extract, Int.toNat_natCast, Array.toList_extract, Array.toList_extract, List.extract_eq_take_drop, List.extract_eq_take_drop, List.take_take]
  congr 1
  omega

end Go.Proofs.YtnldgmpfinlikaaGreat
