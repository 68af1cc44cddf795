/- Several texts in one: Oct4, Oct5, Orf2. Conditions: those of each. -/
import Derived.Test.YtnldgmpfinlikaaGreatBase
/- octet's readers, by their contracts. Conditions: the reach of a string. -/
namespace Go.Proofs.YtnldgmpfinlikaaGreat
open Go Go.RowKit

/-- a reader -/
abbrev rd (s : ByteArray) (p e : Int) : Value := .agg #[.string s, .int .i64 p, .int .i64 e]

set_option maxHeartbeats 400000 in
theorem failed_any (s : ByteArray) (p e f : Int) (w : World) :
    Calls Tryz.prog 104 #[.agg #[.string s, .int .i64 p, .int .i64 e], .int .i64 f] w (Says w (rd s p (if e = 0 then f else e))) := by
  by_cases he : e = 0
  · go_enter Tryz.func104, Tryz.ntmps104
    go_wp2
    exact bodyPost_ret (v := rd s p f) (by simp [results, rd, Tryz.results104, go_sem]) rfl ⟨rfl, (by repeat (first | exact Ext.refl _ | apply Ext.then_drew | apply Ext.then_alloc | (refine Ext.setCell ?_ (by simp) _)))⟩
  · go_enter Tryz.func104, Tryz.ntmps104
    go_wp2
    exact bodyPost_ret (v := rd s p e) (by simp [results, rd, Tryz.results104, go_sem]) rfl ⟨rfl, (by repeat (first | exact Ext.refl _ | apply Ext.then_drew | apply Ext.then_alloc | (refine Ext.setCell ?_ (by simp) _)))⟩

/-- how many are left -/
def leftOf (s : ByteArray) (p : Int) : Int := if p < 0 ∨ s.size < p then 0 else s.size - p

set_option maxHeartbeats 400000 in
theorem left_any (s : ByteArray) (p e : Int) (w : World) (hs : s.size ≤ 9223372036854775807) :
    Calls Tryz.prog 108 #[.agg #[.string s, .int .i64 p, .int .i64 e]] w (Says w (.int .i64 (leftOf s p))) := by
  by_cases he : p < 0
  · have hl : leftOf s p = 0 := if_pos (Or.inl he)
    have HL := hid hl
    clear hl
    go_enter Tryz.func108, Tryz.ntmps108
    go_wp2
    go_ret
    exact ⟨by rw [HL.out]; rfl, (by repeat (first | exact Ext.refl _ | apply Ext.then_drew | apply Ext.then_alloc | (refine Ext.setCell ?_ (by simp) _)))⟩
  · by_cases hf : s.size < p
    · have hl : leftOf s p = 0 := if_pos (Or.inr hf)
      have HL := hid hl
      clear hl
      go_enter Tryz.func108, Tryz.ntmps108
      go_wp2
      go_ret
      exact ⟨by rw [HL.out]; rfl, (by repeat (first | exact Ext.refl _ | apply Ext.then_drew | apply Ext.then_alloc | (refine Ext.setCell ?_ (by simp) _)))⟩
    · have hl : leftOf s p = s.size - p := if_neg (by omega)
      have HL := hid hl
      clear hl
      go_enter Tryz.func108, Tryz.ntmps108
      go_wp2
      go_ret
      exact ⟨by rw [HL.out]; rfl, (by repeat (first | exact Ext.refl _ | apply Ext.then_drew | apply Ext.then_alloc | (refine Ext.setCell ?_ (by simp) _)))⟩

/-- the n bytes behind p -/
def cutOf (s : ByteArray) (p n : Nat) : ByteArray := s.extract p (p + n)

/-- what take answers: where the reader is then, its error, the bytes -/
def takeP (s : ByteArray) (p e n : Int) : Int := if e ≠ 0 then p else if leftOf s p < n then p else p + n
def takeE (s : ByteArray) (p e n : Int) : Int := if e ≠ 0 then e else if leftOf s p < n then 3 else 0
def takeB (s : ByteArray) (p e n : Int) : ByteArray := if e ≠ 0 then ⟨#[]⟩ else if leftOf s p < n then ⟨#[]⟩ else cutOf s p.toNat n.toNat
theorem take_err {s : ByteArray} {p e n : Int} (h : e ≠ 0) : takeP s p e n = p ∧ takeE s p e n = e ∧ takeB s p e n = ⟨#[]⟩ := ⟨if_pos h, if_pos h, if_pos h⟩
theorem take_cut {s : ByteArray} {p n : Int} (h : leftOf s p < n) : takeP s p 0 n = p ∧ takeE s p 0 n = 3 ∧ takeB s p 0 n = ⟨#[]⟩ :=
  ⟨(if_neg (by omega)).trans (if_pos h), (if_neg (by omega)).trans (if_pos h), (if_neg (by omega)).trans (if_pos h)⟩
theorem take_fine {s : ByteArray} {p n : Int} (h : ¬ leftOf s p < n) : takeP s p 0 n = p + n ∧ takeE s p 0 n = 0 ∧ takeB s p 0 n = cutOf s p.toNat n.toNat :=
  ⟨(if_neg (by omega)).trans (if_neg h), (if_neg (by omega)).trans (if_neg h), (if_neg (by omega)).trans (if_neg h)⟩

/-- a box of three cells that is there -/
theorem box3 {w1 : World} {g : Nat} {a b c : Value} {t : TypeId} (h : w1.heap[g]? = some (.cells #[a, b, c] t (0, 0))) :
    (w1.cell? ⟨g, 0, none⟩ = some a ∧ w1.cell? ⟨g, 1, none⟩ = some b ∧ w1.cell? ⟨g, 2, none⟩ = some c) ∧ (w1.frozen? ⟨g, 0, none⟩ = false ∧ w1.frozen? ⟨g, 1, none⟩ = false ∧ w1.frozen? ⟨g, 2, none⟩ = false) ∧ g < w1.heap.size :=
  ⟨⟨cell_of_row _ _ 0 _ _ _ h, cell_of_row _ _ 1 _ _ _ h, cell_of_row _ _ 2 _ _ _ h⟩, ⟨frozen_of_row _ _ 0 _ _ h, frozen_of_row _ _ 1 _ _ h, frozen_of_row _ _ 2 _ _ h⟩, (Array.getElem?_eq_some_iff.1 h).1⟩

/-- two values are told, and nothing that was there has turned -/
def Says2 (w : World) (v u : Value) (e : Ending) (w' : World) : Prop := e = .returned (.tuple #[v, u]) ∧ Ext w w'

set_option maxHeartbeats 400000 in
theorem take_any (s : ByteArray) (p e : Int) (n : Nat) (w : World) (hs : s.size ≤ 9223372036854775807) (hn : n ≤ 65535) (hv : e = 0 → n = 0 → 0 ≤ p ∧ p ≤ s.size) :
    Calls Tryz.prog 105 #[.agg #[.string s, .int .i64 p, .int .i64 e], .int .i64 (n : Int)] w (Says2 w (rd s (takeP s p e n) (takeE s p e n)) (.string (takeB s p e n))) := by
  by_cases he : e = 0
  · subst he
    by_cases hl : leftOf s p < n
    · have hl' := take_cut hl
      have HL := hid hl'
      clear hl'
      go_enter Tryz.func105, Tryz.ntmps105
      go_wp2_with fail
      refine (left_any s p 0 _ hs).mono ?_
      rintro e w1 ⟨rfl, hx⟩
      obtain ⟨⟨c0, c1, c2⟩, ⟨f0, f1, f2⟩, z0⟩ := box3 (hx.block (heap_alloc2_old w _ _))
      obtain ⟨⟨d0, d1, d2⟩, ⟨g0, g1, g2⟩, z1⟩ := box3 (hx.block (heap_alloc2_new w _ _))
      have HX := hid (((Ext.alloc w _).then_alloc _).trans hx)
      clear hx
      go_wp2_with fail
      refine (failed_any s p 0 3 _).mono ?_
      rintro e w2 ⟨rfl, hx⟩
      replace d0 := hx.cell d0
      replace d1 := hx.cell d1
      replace d2 := hx.cell d2
      replace g0 := (hx.frozen (p := ⟨w.heap.size + 1, 0, none⟩) z1).trans g0
      replace g1 := (hx.frozen (p := ⟨w.heap.size + 1, 1, none⟩) z1).trans g1
      replace g2 := (hx.frozen (p := ⟨w.heap.size + 1, 2, none⟩) z1).trans g2
      replace z1 := Nat.lt_of_lt_of_le z1 hx.size
      replace HX := hid (HX.out.trans hx)
      clear hx c0 c1 c2 f0 f1 f2
      go_wp2_with fail
      refine bodyPost_ret (v := .tuple #[rd s p 3, .string (⟨#[]⟩ : ByteArray)]) (by simp [results, rd, Tryz.results105, go_sem, d0, d1, d2]) rfl ?_
      rw [HL.out.1, HL.out.2.1, HL.out.2.2]
      exact ⟨rfl, by refine Ext.setCell (Ext.setCell (Ext.setCell HX.out ?_ _) ?_ _) ?_ _ <;> simp⟩
    · have hl' := take_fine hl
      have HL := hid hl'
      clear hl'
      have h0 : 0 ≤ p := by
        rcases Nat.eq_zero_or_pos n with hz | hz
        · exact (hv rfl hz).1
        · unfold leftOf at hl; split at hl <;> omega
      have h1 : p + n ≤ s.size := by
        rcases Nat.eq_zero_or_pos n with hz | hz
        · have := (hv rfl hz).2; omega
        · unfold leftOf at hl; split at hl <;> omega
      have hlo : leftOf s p = s.size - p := by unfold leftOf; rw [if_neg (by omega)]
      have hge : (n : Int) ≤ leftOf s p := by omega
      clear hl
      obtain ⟨q, rfl⟩ := Int.eq_ofNat_of_zero_le h0
      rw [Int.toNat_natCast, Int.toNat_natCast] at HL
      have HLO := hid hlo
      clear hlo
      go_enter Tryz.func105, Tryz.ntmps105
      go_wp2_with fail
      refine (left_any s q 0 _ hs).mono ?_
      rintro e w1 ⟨rfl, hx⟩
      obtain ⟨⟨c0, c1, c2⟩, ⟨f0, f1, f2⟩, z0⟩ := box3 (hx.block (heap_alloc2_old w _ _))
      obtain ⟨⟨d0, d1, d2⟩, ⟨g0, g1, g2⟩, z1⟩ := box3 (hx.block (heap_alloc2_new w _ _))
      have HX := hid (((Ext.alloc w _).then_alloc _).trans hx)
      clear hx
      go_wp2_with fail
      refine bodyPost_ret (v := .tuple #[rd s (q + n) 0, .string (cutOf s q n)]) (by simp [results, rd, cutOf, Tryz.results105, go_sem, d0, d1, d2]) rfl ?_
      rw [HL.out.1, HL.out.2.1, HL.out.2.2]
      exact ⟨rfl, by refine Ext.setCell (Ext.setCell (Ext.setCell (Ext.setCell HX.out ?_ _) ?_ _) ?_ _) ?_ _ <;> simp⟩
  · have hl' := take_err (s := s) (p := p) (n := n) he
    have HL := hid hl'
    clear hl'
    go_enter Tryz.func105, Tryz.ntmps105
    go_wp2_with fail
    refine (failed_any s p e 3 _).mono ?_
    rintro e w1 ⟨rfl, hx⟩
    rw [if_neg he]
    obtain ⟨⟨d0, d1, d2⟩, ⟨g0, g1, g2⟩, z1⟩ := box3 (hx.block (heap_alloc2_new w _ _))
    have HX := hid (((Ext.alloc w _).then_alloc _).trans hx)
    clear hx
    go_wp2_with fail
    refine bodyPost_ret (v := .tuple #[rd s p e, .string (⟨#[]⟩ : ByteArray)]) (by simp [results, rd, Tryz.results105, go_sem, d0, d1, d2]) rfl ?_
    rw [HL.out.1, HL.out.2.1, HL.out.2.2]
    exact ⟨rfl, by refine Ext.setCell (Ext.setCell (Ext.setCell HX.out ?_ _) ?_ _) ?_ _ <;> simp⟩
end Go.Proofs.YtnldgmpfinlikaaGreat

/- octet.number, and the readers that use it, by their contracts. Conditions: the reach of a string. -/
namespace Go.Proofs.YtnldgmpfinlikaaGreat
open Go Go.RowKit

theorem or_digit (x b : Nat) (hx : x ≤ 72057594037927935) (hb : b < 256) : bits .or .u64 ((x : Int) * 256) (IntKind.u64.wrap (b : Int)) = ((x * 256 + b : Nat) : Int) := by
  have h1 : IntKind.u64.wrap (b : Int) = (b : Int) := by
    rw [IntKind.wrap_u64]; omega
  rw [h1, show (x : Int) * 256 = ((x * 256 : Nat) : Int) from by omega, u64_or_nat _ _ (by omega) (by omega)]
  rw [nat_join 8 _ _ (by omega) (by omega)]

theorem worth_take (s : ByteArray) (k : Nat) (h : k < s.size) : worth (s.data.toList.take (k + 1)) = worth (s.data.toList.take k) * 256 + s[k].toNat := by
  rw [List.take_succ_eq_append_getElem (by rw [size_toList]; exact h), worth_snoc]
  rfl

set_option maxHeartbeats 400000 in
theorem number_any (s : ByteArray) (w : World) (hs : s.size ≤ 8) :
    Calls Tryz.prog 106 #[.string s] w (fun e w' => e = .returned (.int .u64 (worth s.data.toList)) ∧ w = w') := by
  go_enter Tryz.func106, Tryz.ntmps106
  go_wp2_with fail
  go_loop [3, 4] (fun x i => ∃ k : Nat, k ≤ s.size ∧ i = .int .i64 (k : Int) ∧ x = .int .u64 (worth (s.data.toList.take k))) (fun _ i => s.size - (intOf i).toNat)
  case atStart => exact ⟨0, Nat.zero_le _, rfl, rfl⟩
  case round =>
    obtain ⟨k, hk, rfl, rfl⟩ := hrel
    obtain ⟨x, hx⟩ : ∃ x, x = worth (s.data.toList.take k) := ⟨_, rfl⟩
    rw [← hx]
    by_cases hlt : k < s.size
    · have hxl : x ≤ 72057594037927935 := by
        have h1 := worth_lt (s.data.toList.take k)
        rw [← hx, List.length_take, size_toList, Nat.min_eq_left hk] at h1
        have h2 : 256 ^ k ≤ 256 ^ 7 := Nat.pow_le_pow_right (by omega) (by omega)
        omega
      have HX := hid hx
      clear hx
      go_wp2_with fail
      go_round
      case rel =>
        refine ⟨k + 1, by omega, by go_num, ?_⟩
        rw [or_digit x _ hxl (UInt8.toNat_lt _), worth_take s k hlt, ← HX.out]
      case measure => simp [intOf]; omega
    · have hke : k = s.size := by omega
      have HX := hid hx
      have HK := hid hke
      have hge : (s.size : Int) ≤ (k : Int) := by omega
      clear hx hke hlt
      go_wp2_with fail
      go_ret
      refine ⟨?_, rfl⟩
      have e : x = worth s.data.toList := by rw [HX.out, HK.out, List.take_of_length_le (by rw [size_toList]; exact Nat.le_refl _)]
      rw [← e]
      rfl

theorem cutOf_size (s : ByteArray) (p n : Nat) : (cutOf s p n).size ≤ n := by
  unfold cutOf
  rw [ByteArray.size_extract]
  omega

theorem takeB_size (s : ByteArray) (p e : Int) (n : Nat) : (takeB s p e n).size ≤ n := by
  unfold takeB
  split
  · exact Nat.zero_le _
  · split
    · exact Nat.zero_le _
    · have := cutOf_size s p.toNat n
      simpa using this

set_option maxHeartbeats 400000 in
theorem rdword_any (s : ByteArray) (p e : Int) (w : World) (hs : s.size ≤ 9223372036854775807) :
    Calls Tryz.prog 100 #[.agg #[.string s, .int .i64 p, .int .i64 e]] w (Says2 w (rd s (takeP s p e 8) (takeE s p e 8)) (.int .u64 (worth (takeB s p e 8).data.toList))) := by
  have hb := takeB_size s p e 8
  go_enter Tryz.func100, Tryz.ntmps100
  go_wp2_with fail
  refine (take_any s p e 8 _ hs (by omega) (fun _ h => absurd h (by omega))).mono ?_
  rintro e1 w1 ⟨rfl, hx⟩
  have hD := hid (hx.block (heap_alloc2_new w _ _))
  obtain ⟨⟨d0, d1, d2⟩, ⟨g0, g1, g2⟩, z1⟩ := box3 hD.out
  have HX := hid (((Ext.alloc w _).then_alloc _).trans hx)
  clear hx
  go_wp2_with fail
  go_region_with (go_at_call 106; refine (number_any _ _ hb).mono ?_; rintro e' w' ⟨rfl, rfl⟩)
  all_goals
    go_wp2_with fail
    refine bodyPost_ret (ret_cell_tmp rfl _ _ (w.heap.size + 1) 155 _ (0, 0) _ rfl ((heap_alloc_old _ _ (by simpa using z1)).trans (set3 hD.out)) Tryz.underlying155 rfl (by kernel_rfl)) rfl ⟨rfl, ?_⟩
    repeat (first | (with_reducible exact HX.out) | (with_reducible apply Ext.then_drew) | (with_reducible apply Ext.then_alloc) | (with_reducible refine Ext.setCell ?_ (by simp) _))

/-- what Num of a reader answers -/
def numE (s : ByteArray) (p e k : Int) : Int := if k < 1 ∨ 6 < k then (if e = 0 then 2 else e) else takeE s p e k
def numP (s : ByteArray) (p e k : Int) : Int := if k < 1 ∨ 6 < k then p else takeP s p e k
def numN (s : ByteArray) (p e k : Int) : Nat := if k < 1 ∨ 6 < k then 0 else worth (takeB s p e k).data.toList

set_option maxHeartbeats 400000 in
theorem rdnum_arg (s : ByteArray) (p e k : Int) (w : World) (hk : k < 1 ∨ 6 < k) :
    Calls Tryz.prog 99 #[.agg #[.string s, .int .i64 p, .int .i64 e], .int .i64 k] w (Says2 w (rd s (numP s p e k) (numE s p e k)) (.int .i64 (numN s p e k))) := by
  have hp : numP s p e k = p ∧ numE s p e k = (if e = 0 then 2 else e) ∧ numN s p e k = 0 := ⟨if_pos hk, if_pos hk, if_pos hk⟩
  have HP := hid hp
  clear hp
  rcases hk with hk | hk
  all_goals
    go_enter Tryz.func99, Tryz.ntmps99
    go_wp2_with fail
    refine (failed_any s p e 2 _).mono ?_
    rintro e1 w1 ⟨rfl, hx⟩
    obtain ⟨f, hf⟩ : ∃ f, f = (if e = 0 then 2 else e) := ⟨_, rfl⟩
    rw [← hf]
    have HF := hid hf
    clear hf
    have hD := hid (hx.block (heap_alloc2_new w _ _))
    obtain ⟨⟨d0, d1, d2⟩, ⟨g0, g1, g2⟩, z1⟩ := box3 hD.out
    have HX := hid (((Ext.alloc w _).then_alloc _).trans hx)
    clear hx
    go_wp2_with fail
    refine bodyPost_ret (ret_cell_tmp rfl _ _ (w.heap.size + 1) 155 _ (0, 0) _ rfl (set3 hD.out) Tryz.underlying155 rfl (by kernel_rfl)) rfl ⟨?_, ?_⟩
    · rw [HP.out.1, HP.out.2.1, HP.out.2.2, ← HF.out]; rfl
    · repeat (first | (with_reducible exact HX.out) | (with_reducible apply Ext.then_drew) | (with_reducible apply Ext.then_alloc) | (with_reducible refine Ext.setCell ?_ (by simp) _))

theorem worth_small (s : ByteArray) (p e : Int) (k : Nat) (hk : k ≤ 6) : worth (takeB s p e k).data.toList ≤ 281474976710655 := by
  have h1 := worth_lt (takeB s p e k).data.toList
  have h2 := takeB_size s p e k
  rw [size_toList] at h1
  have h3 : 256 ^ (takeB s p e k).size ≤ 256 ^ 6 := Nat.pow_le_pow_right (by omega) (by omega)
  omega

set_option maxHeartbeats 400000 in
theorem rdnum_take (s : ByteArray) (p e : Int) (k : Nat) (w : World) (hs : s.size ≤ 9223372036854775807) (hk1 : 1 ≤ k) (hk : k ≤ 6) :
    Calls Tryz.prog 99 #[.agg #[.string s, .int .i64 p, .int .i64 e], .int .i64 (k : Int)] w (Says2 w (rd s (numP s p e k) (numE s p e k)) (.int .i64 (numN s p e k))) := by
  have hp : numP s p e k = takeP s p e k ∧ numE s p e k = takeE s p e k ∧ numN s p e k = worth (takeB s p e k).data.toList := ⟨if_neg (by omega), if_neg (by omega), if_neg (by omega)⟩
  have HP := hid hp
  clear hp
  have hb := takeB_size s p e k
  have hw := worth_small s p e k hk
  have hwr : IntKind.i64.wrap (worth (takeB s p e k).data.toList : Int) = (worth (takeB s p e k).data.toList : Int) := IntWalk.i64_in _ (by omega)
  have HW := hid hwr
  clear hwr
  go_enter Tryz.func99, Tryz.ntmps99
  go_wp2_with fail
  refine (take_any s p e k _ hs (by omega) (fun _ h => absurd h (by omega))).mono ?_
  rintro e1 w1 ⟨rfl, hx⟩
  have hD := hid (hx.block (heap_alloc2_new w _ _))
  obtain ⟨⟨d0, d1, d2⟩, ⟨g0, g1, g2⟩, z1⟩ := box3 hD.out
  have HX := hid (((Ext.alloc w _).then_alloc _).trans hx)
  clear hx
  go_wp2_with fail
  go_region_with (go_at_call 106; refine (number_any _ _ (by omega)).mono ?_; rintro e' w' ⟨rfl, rfl⟩)
  all_goals
    go_wp2_with fail
    refine bodyPost_ret (ret_cell_tmp rfl _ _ (w.heap.size + 1) 155 _ (0, 0) _ rfl ((heap_alloc_old _ _ (by simpa using z1)).trans (set3 hD.out)) Tryz.underlying155 rfl (by kernel_rfl)) rfl ⟨?_, ?_⟩
    · rw [HP.out.1, HP.out.2.1, HP.out.2.2]
      show Ending.returned (.tuple #[_, .int .i64 (IntKind.i64.wrap _)]) = _
      rw [HW.out]
    · repeat (first | (with_reducible exact HX.out) | (with_reducible apply Ext.then_drew) | (with_reducible apply Ext.then_alloc) | (with_reducible refine Ext.setCell ?_ (by simp) _))

theorem rdnum_any (s : ByteArray) (p e k : Int) (w : World) (hs : s.size ≤ 9223372036854775807) :
    Calls Tryz.prog 99 #[.agg #[.string s, .int .i64 p, .int .i64 e], .int .i64 k] w (Says2 w (rd s (numP s p e k) (numE s p e k)) (.int .i64 (numN s p e k))) := by
  by_cases hk : k < 1 ∨ 6 < k
  · exact rdnum_arg s p e k w hk
  · obtain ⟨k, rfl⟩ := Int.eq_ofNat_of_zero_le (show 0 ≤ k by omega)
    exact rdnum_take s p e k w hs (by omega) (by omega)

end Go.Proofs.YtnldgmpfinlikaaGreat

/- telltaleref01.Word and Text, by their contracts. Conditions: the reach of a slice. -/
namespace Go.Proofs.YtnldgmpfinlikaaGreat
open Go Go.RowKit

set_option maxHeartbeats 400000 in
theorem rword_any (A : Option Addr) (l : List UInt8) (c n : Nat) (w : World) (hl : Lies w A (bvs l)) (hlen : l.length ≤ 70368744177664) (h63 : n ≤ 18446744073709551615) :
    Calls Tryz.prog 60 #[.slice A l.length c, .int .u64 (n : Int)] w (Told1 w (l ++ be 8 n)) := by
  have HL := hid hl
  clear hl
  go_enter Tryz.func60, Tryz.ntmps60
  go_wp2_with fail
  go_loopw [5, 6, 1] (fun d i x wr => ∃ j : Nat, j ≤ 8 ∧ i = .int .i64 (j : Int) ∧ x = .int .u64 ((n / 256 ^ j : Nat) : Int) ∧ (∃ D C, d = .slice D j C ∧ Hid (Lies wr D (bvs (be j n)))) ∧ Ext w wr)
    (fun _ i _ _ => 8 - (intOf i).toNat)
  case atStart => exact ⟨0, by omega, rfl, by simp, ⟨none, 0, rfl, Lies.nil _ _⟩, Ext.refl w⟩
  case round =>
    obtain ⟨j, hj, rfl, rfl, ⟨D, C, rfl, hD⟩, hext⟩ := hrel
    obtain ⟨x, hx⟩ : ∃ x : Nat, x = n / 256 ^ j := ⟨_, rfl⟩
    rw [← hx]
    have hxl : x ≤ 18446744073709551615 := by rw [hx]; exact Nat.le_trans (Nat.div_le_self _ _) h63
    have HX := hid hx
    clear hx
    by_cases hjk : j < 8
    · go_wp2_with ((with_reducible show wpList _ _ _ (⟨some 16, _, _, _, _, _⟩ :: _) _ _); (refine wpList_append_lies _ rfl (.tmp 14) (.tmp 15) _ rfl w.heap.size 5 (.int .u8 0) 1 1 Tryz.underlying36 infoByte rfl (by omega) _ 1 _ rfl (own_build wr w.heap.size 5 1 1 _ hext.size (by simp [maxLen]) rfl) D j C (bvs (be j n)) rfl (by simp [bvs_length, be_length]) (hD.out.ext (Ext.alloc _ _)) (bvs_one _) (by simp only [maxLen]; omega) (by omega) (by have := hext.size; simp; omega) (fun v1 w1 ho1 hg1 hb1 => ?_)); have HO1 := hid ho1; have HE1 := hid (lit_ext hg1); clear ho1 hg1 hb1)
      go_roundw
      case rel =>
        obtain ⟨D', C', rfl, _, _, hD'⟩ := own_shape HO1.out
        refine ⟨j + 1, by omega, by go_num, ?_, ⟨D', C', by rw [Nat.add_comm], ?_⟩, hext.trans HE1.out⟩
        · rw [show n / 256 ^ (j + 1) = x / 256 from by rw [HX.out, Nat.div_div_eq_div_mul, ← Nat.pow_succ]]
          go_num
        · show Lies _ _ _
          rw [be_left, ← HX.out]
          have e : (bvs (UInt8.ofNat (x % 256) :: be j n)) = [Value.int IntKind.u8 ((x : Int) % 256)] ++ bvs (be j n) := by simp [bvs, bv]
          rw [e]
          exact hD'
      case measure => simp [intOf]; omega
    · have hjk' : j = 8 := by omega
      have HJ := hid hjk'
      clear hjk'
      go_wp2_with (first
        | ((with_reducible show wpList _ _ _ (⟨some 21, _, _, _, _, _⟩ :: _) _ _); (refine wpList_append_lies _ rfl (.tmp 19) (.tmp 20) _ rfl w.heap.size 5 (.int .u8 0) 1 1 Tryz.underlying36 infoByte rfl (by omega) _ 0 _ rfl (own_build wr w.heap.size 5 1 0 _ hext.size (by simp [maxLen]) rfl) A l.length c (bvs l) rfl (by simp [bvs_length]) (HL.out.ext (hext.trans (Ext.alloc _ _))) (bvs_one _) (by simp only [maxLen]; omega) (by omega) (by have := hext.size; simp; omega) (fun v1 w1 ho1 hg1 hb1 => ?_)); have HO1 := hid ho1; have HE1 := hid (lit_ext hg1); have HB1 := hid (lit_block hb1); clear ho1 hg1 hb1)
        | ((with_reducible show wpList _ _ _ (⟨some 23, _, _, _, _, _⟩ :: _) _ _); (refine wpList_append_lies _ rfl (.tmp 21) (.tmp 22) _ rfl w.heap.size 5 (.int .u8 0) 1 1 Tryz.underlying36 infoByte rfl (by omega) _ _ _ rfl HO1.out D j C (bvs (be j n)) rfl (by simp [bvs_length, be_length]) (hD.out.ext HE1.out) (bvs_one _) (by simp only [maxLen]; omega) (by omega) (by have := hext.size; have := HE1.out.size; omega) (fun v2 w2 ho2 hg2 hb2 => ?_)); have HO2 := hid ho2; have HE2 := hid (HE1.out.grown hg2 HB1.out); clear ho2 hg2 hb2))
      go_ret
      have h2 := HO2.out
      rw [HJ.out] at h2
      have h3 : (bvs (l ++ be 8 n)) = [] ++ bvs l ++ bvs (be 8 n) := by rw [bvs_append]; rfl
      exact Told1.mk (by rw [h3]; exact h2) (hext.trans HE2.out)

theorem rword_at (v : Value) (l q : List UInt8) (u : Nat) (w : World) (hq : l ++ be 8 u = q) (hv : Bytes w v l) (hlen : l.length ≤ 70368744177664) (hu : u ≤ 18446744073709551615) :
    Calls Tryz.prog 60 #[v, .int .u64 (u : Int)] w (Told1 w q) := by
  obtain ⟨A, c, rfl, hc, _, hl⟩ := hv
  subst hq
  exact rword_any A l c u w hl hlen hu
end Go.Proofs.YtnldgmpfinlikaaGreat

