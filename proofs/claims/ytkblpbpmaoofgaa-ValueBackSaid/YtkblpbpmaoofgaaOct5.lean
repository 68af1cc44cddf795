/- octet.number, and the readers that use it, by their contracts. Conditions: the reach of a string. -/
import Derived.Test.YtkblpbpmaoofgaaOct4
namespace Go.Proofs.Ytkblpbpmaoofgaa
open Go Go.RowKit

theorem or_digit (x b : Nat) (hx : x ≤ 72057594037927935) (hb : b < 256) : bits .or .u64 ((x : Int) * 256) (IntKind.u64.wrap (b : Int)) = ((x * 256 + b : Nat) : Int) := by
  have h1 : IntKind.u64.wrap (b : Int) = (b : Int) := by
    rw [IntKind.wrap_u64]; omega
  rw [h1, show (x : Int) * 256 = ((x * 256 : Nat) : Int) from by omega, u64_or_nat _ _ (by omega) (by omega)]
  rw [nat_join 8 _ _ (by omega) (by omega)]

theorem worth_take (s : ByteArray) (k : Nat) (h : k < s.size) : worth (s.data.toList.take (k + 1)) = worth (s.data.toList.take k) * 256 + s[k].toNat := by
  rw [List.take_succ_eq_append_getElem (by rw [size_toList]; exact h), worth_snoc]
  rfl

set_option maxHeartbeats 400000 in
theorem number_any (s : ByteArray) (w : World) (hs : s.size ≤ 8) :
    Calls Try.prog 76 #[.string s] w (fun e w' => e = .returned (.int .u64 (worth s.data.toList)) ∧ w = w') := by
  go_enter Try.func76, Try.ntmps76
  go_wp2_with fail
  go_loop [3, 4] (fun x i => ∃ k : Nat, k ≤ s.size ∧ i = .int .i64 (k : Int) ∧ x = .int .u64 (worth (s.data.toList.take k))) (fun _ i => s.size - (intOf i).toNat)
  case atStart => exact ⟨0, Nat.zero_le _, rfl, rfl⟩
  case round =>
    obtain ⟨k, hk, rfl, rfl⟩ := hrel
    obtain ⟨x, hx⟩ : ∃ x, x = worth (s.data.toList.take k) := ⟨_, rfl⟩
    rw [← hx]
    by_cases hlt : k < s.size
    · have hxl : x ≤ 72057594037927935 := by
        have h1 := worth_lt (s.data.toList.take k)
        rw [← hx, List.length_take, size_toList, Nat.min_eq_left hk] at h1
        have h2 : 256 ^ k ≤ 256 ^ 7 := Nat.pow_le_pow_right (by omega) (by omega)
        omega
      have HX := hid hx
      clear hx
      go_wp2_with fail
      go_round
      case rel =>
        refine ⟨k + 1, by omega, by go_num, ?_⟩
        rw [or_digit x _ hxl (UInt8.toNat_lt _), worth_take s k hlt, ← HX.out]
      case measure => simp [intOf]; omega
    · have hke : k = s.size := by omega
      have HX := hid hx
      have HK := hid hke
      have hge : (s.size : Int) ≤ (k : Int) := by omega
      clear hx hke hlt
      go_wp2_with fail
      go_ret
      refine ⟨?_, rfl⟩
      have e : x = worth s.data.toList := by rw [HX.out, HK.out, List.take_of_length_le (by rw [size_toList]; exact Nat.le_refl _)]
      rw [← e]
      rfl

theorem cutOf_size (s : ByteArray) (p n : Nat) : (cutOf s p n).size ≤ n := by
  unfold cutOf
  rw [ByteArray.size_extract]
  omega

theorem takeB_size (s : ByteArray) (p e : Int) (n : Nat) : (takeB s p e n).size ≤ n := by
  unfold takeB
  split
  · exact Nat.zero_le _
  · split
    · exact Nat.zero_le _
    · have := cutOf_size s p.toNat n
      simpa using this

set_option maxHeartbeats 400000 in
theorem rdword_any (s : ByteArray) (p e : Int) (w : World) (hs : s.size ≤ 9223372036854775807) :
    Calls Try.prog 65 #[.agg #[.string s, .int .i64 p, .int .i64 e]] w (Says2 w (rd s (takeP s p e 8) (takeE s p e 8)) (.int .u64 (worth (takeB s p e 8).data.toList))) := by
  have hb := takeB_size s p e 8
  go_enter Try.func65, Try.ntmps65
  go_wp2_with fail
  refine (take_any s p e 8 _ hs (by omega) (fun _ h => absurd h (by omega))).mono ?_
  rintro e1 w1 ⟨rfl, hx⟩
  have hD := hid (hx.block (heap_alloc2_new w _ _))
  obtain ⟨⟨d0, d1, d2⟩, ⟨g0, g1, g2⟩, z1⟩ := box3 hD.out
  have HX := hid (((Ext.alloc w _).then_alloc _).trans hx)
  clear hx
  go_wp2_with fail
  go_region_with (go_at_call 76; refine (number_any _ _ hb).mono ?_; rintro e' w' ⟨rfl, rfl⟩)
  all_goals
    go_wp2_with fail
    refine bodyPost_ret (ret_cell_tmp rfl _ _ (w.heap.size + 1) 96 _ (0, 0) _ rfl ((heap_alloc_old _ _ (by simpa using z1)).trans (set3 hD.out)) Try.underlying96 rfl (by kernel_rfl)) rfl ⟨rfl, ?_⟩
    repeat (first | (with_reducible exact HX.out) | (with_reducible apply Ext.then_drew) | (with_reducible apply Ext.then_alloc) | (with_reducible refine Ext.setCell ?_ (by simp) _))

/-- what Num of a reader answers -/
def numE (s : ByteArray) (p e k : Int) : Int := if k < 1 ∨ 6 < k then (if e = 0 then 2 else e) else takeE s p e k
def numP (s : ByteArray) (p e k : Int) : Int := if k < 1 ∨ 6 < k then p else takeP s p e k
def numN (s : ByteArray) (p e k : Int) : Nat := if k < 1 ∨ 6 < k then 0 else worth (takeB s p e k).data.toList

set_option maxHeartbeats 400000 in
theorem rdnum_arg (s : ByteArray) (p e k : Int) (w : World) (hk : k < 1 ∨ 6 < k) :
    Calls Try.prog 64 #[.agg #[.string s, .int .i64 p, .int .i64 e], .int .i64 k] w (Says2 w (rd s (numP s p e k) (numE s p e k)) (.int .i64 (numN s p e k))) := by
  have hp : numP s p e k = p ∧ numE s p e k = (if e = 0 then 2 else e) ∧ numN s p e k = 0 := ⟨if_pos hk, if_pos hk, if_pos hk⟩
  have HP := hid hp
  clear hp
  rcases hk with hk | hk
  all_goals
    go_enter Try.func64, Try.ntmps64
    go_wp2_with fail
    refine (failed_any s p e 2 _).mono ?_
    rintro e1 w1 ⟨rfl, hx⟩
    obtain ⟨f, hf⟩ : ∃ f, f = (if e = 0 then 2 else e) := ⟨_, rfl⟩
    rw [← hf]
    have HF := hid hf
    clear hf
    have hD := hid (hx.block (heap_alloc2_new w _ _))
    obtain ⟨⟨d0, d1, d2⟩, ⟨g0, g1, g2⟩, z1⟩ := box3 hD.out
    have HX := hid (((Ext.alloc w _).then_alloc _).trans hx)
    clear hx
    go_wp2_with fail
    refine bodyPost_ret (ret_cell_tmp rfl _ _ (w.heap.size + 1) 96 _ (0, 0) _ rfl (set3 hD.out) Try.underlying96 rfl (by kernel_rfl)) rfl ⟨?_, ?_⟩
    · rw [HP.out.1, HP.out.2.1, HP.out.2.2, ← HF.out]; rfl
    · repeat (first | (with_reducible exact HX.out) | (with_reducible apply Ext.then_drew) | (with_reducible apply Ext.then_alloc) | (with_reducible refine Ext.setCell ?_ (by simp) _))

theorem worth_small (s : ByteArray) (p e : Int) (k : Nat) (hk : k ≤ 6) : worth (takeB s p e k).data.toList ≤ 281474976710655 := by
  have h1 := worth_lt (takeB s p e k).data.toList
  have h2 := takeB_size s p e k
  rw [size_toList] at h1
  have h3 : 256 ^ (takeB s p e k).size ≤ 256 ^ 6 := Nat.pow_le_pow_right (by omega) (by omega)
  omega

set_option maxHeartbeats 400000 in
theorem rdnum_take (s : ByteArray) (p e : Int) (k : Nat) (w : World) (hs : s.size ≤ 9223372036854775807) (hk1 : 1 ≤ k) (hk : k ≤ 6) :
    Calls Try.prog 64 #[.agg #[.string s, .int .i64 p, .int .i64 e], .int .i64 (k : Int)] w (Says2 w (rd s (numP s p e k) (numE s p e k)) (.int .i64 (numN s p e k))) := by
  have hp : numP s p e k = takeP s p e k ∧ numE s p e k = takeE s p e k ∧ numN s p e k = worth (takeB s p e k).data.toList := ⟨if_neg (by omega), if_neg (by omega), if_neg (by omega)⟩
  have HP := hid hp
  clear hp
  have hb := takeB_size s p e k
  have hw := worth_small s p e k hk
  have hwr : IntKind.i64.wrap (worth (takeB s p e k).data.toList : Int) = (worth (takeB s p e k).data.toList : Int) := IntWalk.i64_in _ (by omega)
  have HW := hid hwr
  clear hwr
  go_enter Try.func64, Try.ntmps64
  go_wp2_with fail
  refine (take_any s p e k _ hs (by omega) (fun _ h => absurd h (by omega))).mono ?_
  rintro e1 w1 ⟨rfl, hx⟩
  have hD := hid (hx.block (heap_alloc2_new w _ _))
  obtain ⟨⟨d0, d1, d2⟩, ⟨g0, g1, g2⟩, z1⟩ := box3 hD.out
  have HX := hid (((Ext.alloc w _).then_alloc _).trans hx)
  clear hx
  go_wp2_with fail
  go_region_with (go_at_call 76; refine (number_any _ _ (by omega)).mono ?_; rintro e' w' ⟨rfl, rfl⟩)
  all_goals
    go_wp2_with fail
    refine bodyPost_ret (ret_cell_tmp rfl _ _ (w.heap.size + 1) 96 _ (0, 0) _ rfl ((heap_alloc_old _ _ (by simpa using z1)).trans (set3 hD.out)) Try.underlying96 rfl (by kernel_rfl)) rfl ⟨?_, ?_⟩
    · rw [HP.out.1, HP.out.2.1, HP.out.2.2]
      show Ending.returned (.tuple #[_, .int .i64 (IntKind.i64.wrap _)]) = _
      rw [HW.out]
    · repeat (first | (with_reducible exact HX.out) | (with_reducible apply Ext.then_drew) | (with_reducible apply Ext.then_alloc) | (with_reducible refine Ext.setCell ?_ (by simp) _))

theorem rdnum_any (s : ByteArray) (p e k : Int) (w : World) (hs : s.size ≤ 9223372036854775807) :
    Calls Try.prog 64 #[.agg #[.string s, .int .i64 p, .int .i64 e], .int .i64 k] w (Says2 w (rd s (numP s p e k) (numE s p e k)) (.int .i64 (numN s p e k))) := by
  by_cases hk : k < 1 ∨ 6 < k
  · exact rdnum_arg s p e k w hk
  · obtain ⟨k, rfl⟩ := Int.eq_ofNat_of_zero_le (show 0 ≤ k by omega)
    exact rdnum_take s p e k w hs (by omega) (by omega)

end Go.Proofs.Ytkblpbpmaoofgaa
