/- hash.Add, Sum, Mix and Worker, and the document's own, by their contracts. Conditions: the reach of a text. -/
import Derived.Test.YtbgapkhcaideiaaBase
import Derived.Test.YtbgapkhcaideiaaHSpec
import Derived.Test.YtbgapkhcaideiaaVR1
import Derived.ScopeJumps
import Derived.WalkMore
import Derived.Laws.Bits64
import Derived.Laws.BitsAllLaws
namespace Go.Proofs.Ytbgapkhcaideiaa
open Go Go.RowKit

theorem turn_is (u k c : Nat) (hu : u < 18446744073709551616) : (bits .xor .u64 (u : Int) ((u : Int) / (k : Int)) * (c : Int)) % 18446744073709551616 = (turnH u k c : Int) := by
  rw [xorShift_u64 u k hu]
  unfold turnH
  omega

theorem mix_end (y : Nat) (hy : y < 18446744073709551616) : bits .xor .u64 (y : Int) ((y : Int) / 2147483648) = ((y ^^^ y / 2147483648 : Nat) : Int) := xorShift_u64 y 2147483648 hy
set_option maxHeartbeats 400000 in
theorem mix_any (u : Nat) (w : World) (hu : u ≤ 18446744073709551615) : Calls Try.prog 11 #[.int .u64 (u : Int)] w (Just w (.int .u64 (mixH u : Int))) := by
  go_enter Try.func11, Try.ntmps11
  go_wp2_with fail
  go_ret
  refine Just.mk_int ?_
  have e1 := turn_is u 1073741824 13787848793156543929 (by omega)
  have b1 := turnH_lt u 1073741824 13787848793156543929
  rw [← IntKind.wrap_u64] at e1
  have e1' : IntKind.u64.wrap (bits BinOp.xor IntKind.u64 (u : Int) ((u : Int) / 1073741824) * 13787848793156543929) = (turnH u 1073741824 13787848793156543929 : Int) := e1
  rw [e1']
  unfold mixH
  generalize turnH u 1073741824 13787848793156543929 = x at *
  have e2 := turn_is x 134217728 10723151780598845931 b1
  have b2 := turnH_lt x 134217728 10723151780598845931
  rw [← IntKind.wrap_u64] at e2
  have e2' : IntKind.u64.wrap (bits BinOp.xor IntKind.u64 (x : Int) ((x : Int) / 134217728) * 10723151780598845931) = (turnH x 134217728 10723151780598845931 : Int) := e2
  rw [e2']
  generalize turnH x 134217728 10723151780598845931 = y at *
  exact mix_end y b2

theorem step_is (u : Nat) (b : UInt8) (hu : u ≤ 18446744073709551615) : IntKind.u64.wrap (bits .xor .u64 (u : Int) (IntKind.u64.wrap (b.toNat : Int)) * 1099511628211) = (stepH u b : Int) := by
  have hb := b.toNat_lt
  rw [show IntKind.u64.wrap (b.toNat : Int) = (b.toNat : Int) by rw [IntKind.wrap_u64]; omega]
  rw [u64_xor_nat u b.toNat (by omega) (by omega), IntKind.wrap_u64]
  unfold stepH
  omega
theorem drop_byte (s : ByteArray) (q : Nat) (h : q < s.size) : s.data.toList.drop q = s[q] :: s.data.toList.drop (q + 1) := by
  rw [List.drop_eq_getElem_cons (by rw [size_toList]; exact h)]
  rfl
theorem drop_all (s : ByteArray) (q : Nat) (h : s.size ≤ q) : s.data.toList.drop q = [] := List.drop_eq_nil_of_le (by rw [size_toList]; exact h)

set_option maxRecDepth 100000 in
set_option maxHeartbeats 800000 in
theorem add_any (u : Nat) (s : ByteArray) (w : World) (hu : u ≤ 18446744073709551615) (hs : s.size ≤ 9223372036854775807) : Calls Try.prog 8 #[.int .u64 (u : Int), .string s] w (Just w (.int .u64 (addH u s.data.toList : Int))) := by
  obtain ⟨T, hT⟩ : ∃ T, T = addH u s.data.toList := ⟨_, rfl⟩
  rw [← hT]
  have HT := hid hT
  clear hT
  go_enter Try.func8, Try.ntmps8
  go_wp2_with fail
  refine wp_scope_jumps 0 (fun a' w' => w' = w ∧ ∃ (j v : Nat) (u6 u7 u8 u9 u10 u11 u12 u13 u14 u15 u16 u17 u18 : Value), a' = { tmps := #[.int .u64 (v : Int), .string s, undef, undef, .int .u64 0, .int .i64 (j : Int), u6, u7, u8, u9, u10, u11, u12, u13, u14, u15, u16, u17, u18, undef], defers := [] } ∧ j ≤ s.size ∧ v ≤ 18446744073709551615 ∧ Hid (T = addH v (s.data.toList.drop j))) (fun a' _ => s.size - (intOf (a'.tmps.getD 5 undef)).toNat) rfl ?_ ?_
  · by_cases hjs : 0 < s.size
    · have h1 := HT.out
      rw [show s.data.toList = s.data.toList.drop 0 from rfl, drop_byte s 0 hjs, addH_cons] at h1
      have H1 := hid h1
      have hst := hid (step_is u s[0] hu)
      have hlt := stepH_lt u s[0]
      clear h1
      go_wp2_with fail
      go_step3
      go_wp2_with fail
      go_step3
      rw [hst.out]
      exact ⟨rfl, rfl, 1, stepH u s[0], _, _, _, _, _, _, _, _, _, _, _, _, _, rfl, by omega, by omega, H1⟩
    · have h1 := HT.out
      rw [show s.data.toList = s.data.toList.drop 0 from rfl, drop_all s 0 (by omega)] at h1
      have H1 := hid h1
      clear h1
      go_wp2_with fail
      go_step3
      go_wp2_with fail
      simp only [Exit.jump]
      go_ret
      exact Just.mk_int (by rw [H1.out]; rfl)
  · rintro a' w' ⟨rfl, j, v, u6, u7, u8, u9, u10, u11, u12, u13, u14, u15, u16, u17, u18, rfl, hj, hv, hrel⟩
    by_cases hjs : j < s.size
    · have h1 := hrel.out
      rw [drop_byte s j hjs, addH_cons] at h1
      have H1 := hid h1
      have hst := hid (step_is v s[j] hv)
      have hlt := stepH_lt v s[j]
      clear h1 hrel
      go_wp2_with fail
      go_step3
      rw [hst.out]
      refine ⟨rfl, ⟨rfl, j + 1, stepH v s[j], _, _, _, _, _, _, _, _, _, _, _, _, _, rfl, by omega, by omega, H1⟩, ?_⟩
      simp [intOf]
      omega
    · have h1 := hrel.out
      rw [drop_all s j (by omega)] at h1
      have H1 := hid h1
      clear h1 hrel
      go_wp2_with fail
      simp only [Exit.jump]
      go_ret
      exact Just.mk_int (by rw [H1.out]; rfl)

set_option maxHeartbeats 400000 in
theorem hsum_any (s : ByteArray) (w : World) (hs : s.size ≤ 9223372036854775807) : Calls Try.prog 10 #[.string s] w (Just w (.int .u64 (addH 14695981039346656037 s.data.toList : Int))) := by
  have ka := fun W => add_any 14695981039346656037 s W (by decide) hs
  generalize addH 14695981039346656037 s.data.toList = T at *
  go_enter Try.func10, Try.ntmps10
  go_wp2_with ((with_reducible show Calls _ 8 _ _ _); refine (ka _).mono ?_; rintro e w1 ⟨rfl, rfl⟩)
  go_ret
  exact ⟨rfl, rfl⟩

theorem worker_low {l : List UInt8} {n : Int} (h : n < 1) : workerH l n = 0 := if_pos h
theorem worker_is {l : List UInt8} {n : Int} {M : Nat} (h : ¬ n < 1) (h1 : n ≤ 9223372036854775807) (hM : mixH (addH 14695981039346656037 l) = M) :
    wrap64 ((M : Int) % n) = workerH l n := by
  unfold workerH
  rw [if_neg h, hM]
  obtain ⟨m, rfl⟩ := Int.eq_ofNat_of_zero_le (show 0 ≤ n by omega)
  rw [Int.toNat_natCast, ← Int.natCast_emod]
  have h2 : M % m < m := Nat.mod_lt _ (by omega)
  generalize M % m = q at *
  unfold wrap64
  omega

set_option maxHeartbeats 400000 in
theorem worker_any (s : ByteArray) (n : Int) (w : World) (hs : s.size ≤ 9223372036854775807) (h0 : -9223372036854775808 ≤ n) (h1 : n ≤ 9223372036854775807) : Calls Try.prog 20 #[.string s, .int .i64 n] w (Just w (.int .i64 (workerH s.data.toList n))) := by
  by_cases h : n < 1
  · rw [worker_low h]
    go_enter Try.func20, Try.ntmps20
    go_wp2_with fail
    go_ret
    exact ⟨rfl, rfl⟩
  · have ks := fun W => hsum_any s W hs
    obtain ⟨M, hM⟩ : ∃ M, mixH (addH 14695981039346656037 s.data.toList) = M := ⟨_, rfl⟩
    have hw := hid (worker_is h h1 hM)
    have km := fun W => mix_any (addH 14695981039346656037 s.data.toList) W (by have := addH_lt (s := 14695981039346656037) (by decide) s.data.toList; omega)
    rw [hM] at km
    clear hM
    generalize workerH s.data.toList n = R at *
    generalize addH 14695981039346656037 s.data.toList = T at *
    go_enter Try.func20, Try.ntmps20
    go_wp2_with (first | ((with_reducible show Calls _ 10 _ _ _); refine (ks _).mono ?_; rintro e w1 ⟨rfl, rfl⟩) | ((with_reducible show Calls _ 11 _ _ _); refine (km _).mono ?_; rintro e w1 ⟨rfl, rfl⟩))
    go_ret
    exact Just.mk_int hw.out

def patH (l : List UInt8) : Int := match l with | [] => -1 | b :: _ => (b.toNat : Int)

theorem pat_none {s : ByteArray} (h : s.size = 0) : patH s.data.toList = -1 := by
  have e : s.data.toList = [] := List.eq_nil_of_length_eq_zero h
  rw [e]; rfl
theorem pat_some {s : ByteArray} (h : 0 < s.size) : patH s.data.toList = (s[0].toNat : Int) := by
  have e := drop_byte s 0 h
  rw [List.drop_zero] at e
  rw [e]; rfl

set_option maxHeartbeats 400000 in
theorem pattern_any (s : ByteArray) (w : World) (hs : s.size ≤ 9223372036854775807) : Calls Try.prog 18 #[.string s] w (Just w (.int .i64 (patH s.data.toList))) := by
  have he := text_empty s
  by_cases h : s.size = 0
  · rw [pat_none h]
    rw [decide_eq_true h] at he
    go_enter Try.func18, Try.ntmps18
    go_wp2_with fail
    go_ret
    exact ⟨rfl, rfl⟩
  · have h' : 0 < s.size := by omega
    rw [pat_some h']
    rw [decide_eq_false h] at he
    have hb := s[0].toNat_lt
    go_enter Try.func18, Try.ntmps18
    go_wp2_with fail
    go_ret
    exact Just.mk_int rfl

theorem bare_nat (n : Int) : ((bareH n).toNat : Int) = n % 256 := by
  unfold bareH
  rw [UInt8.toNat_ofNat']
  show (((n.emod 256).toNat % 2 ^ 8 : Nat) : Int) = n % 256
  have e : n.emod 256 = n % 256 := rfl
  rw [e]
  omega
theorem bare_cell (w : World) (x : Int) (b : UInt8) (h : x = (b.toNat : Int)) : (convert 39 9 (.slice (some ⟨w.heap.size, 0, none⟩) 1 1)).run Try.prog (w.alloc (.cells #[.int .u8 x] 5)) = .ok (.string ⟨#[b]⟩) (w.alloc (.cells #[.int .u8 x] 5)) := by
  subst h
  have hB : Bytes (w.alloc (.cells #[.int .u8 (b.toNat : Int)] 5)) (.slice (some ⟨w.heap.size, 0, none⟩) 1 1) [b] := Bytes.of_row (l := [b]) (t := 5) (fr := (0, 0)) (heap_alloc_new w (.cells #[.int .u8 (b.toNat : Int)] 5)) (by simp [maxLen])
  exact run_string_bytes Try.underlying39 Try.underlying5 Try.underlying9 hB

set_option maxHeartbeats 400000 in
theorem bare_any (n : Int) (w : World) (_ : -9223372036854775808 ≤ n) (_ : n ≤ 9223372036854775807) : Calls Try.prog 16 #[.int .i64 n] w (Says w (.string ⟨#[bareH n]⟩)) := by
  have hc := bare_cell w (n % 256) (bareH n) (bare_nat n).symm
  go_enter Try.func16, Try.ntmps16
  go_wp2_with fail
  go_ret
  exact ⟨rfl, Ext.alloc _ _⟩
end Go.Proofs.Ytbgapkhcaideiaa
