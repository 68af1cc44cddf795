/- OctetOne: the walk. -/
import Derived.Test.YtekkmpahienaeaaAwk
import Derived.Test.YtekkmpahienaeaaLess
import Derived.BigQuiet
import Derived.Deep.QuietTactic
namespace Go.Proofs.Ytekkmpahienaeaa
open Go Go.RowKit

theorem numSpec_ok (l : List UInt8) (k n : Nat) (h1 : 1 ≤ k) (h2 : k ≤ 6) (h3 : n < 256 ^ k) : numSpec l k n = (l ++ be k n, 0) := by
  unfold numSpec
  rw [if_neg (by omega), Int.toNat_natCast, Int.toNat_natCast, if_neg]
  rintro (h | h)
  · omega
  · have : ((256 ^ k : Nat) : Int) ≤ (n : Int) := by simpa using h
    omega

/-- what the slots of region 4 hold -/
def oneG (b m n : Nat) : Nat → Value → World → Prop
  | 0, v, _ => v = .pointer (some ⟨b, 0, none⟩)
  | 1, v, _ => v = .int .u64 (m : Int)
  | 2, v, w => Bytes w v (be 8 m)
  | 3, v, _ => v = .string ⟨(be 8 m).toArray⟩
  | 4, v, _ => v = .pointer (some ⟨b, 1, none⟩)
  | 5, v, _ => v = .int .u64 (n : Int)
  | 6, v, w => Bytes w v (be 8 n)
  | 7, v, _ => v = .string ⟨(be 8 n).toArray⟩
  | 8, v, _ => v = .string ⟨(be 8 m).toArray⟩
  | 9, v, _ => v = .string ⟨(be 8 n).toArray⟩
  | _, _, _ => True
theorem oneG_st (b m n : Nat) : ∀ k u x y, oneG b m n k u x → Ext x y → oneG b m n k u y := by
  intro k u x y h e
  unfold oneG at *
  split at h <;> first | exact h | exact Bytes.ext h e

set_option maxHeartbeats 1000000 in
theorem one_any (m n : Nat) (w : World) (hm : m ≤ 18446744073709551615) (hn : n ≤ 18446744073709551615) :
    Calls Try.prog 6 #[.agg #[.int .u64 (m : Int), .int .u64 (n : Int)]] w (Says w (.bool true)) := by
  go_enter Try.func6, Try.ntmps6
  go_wp2_with fail
  go_quiet (fail)
  obtain ⟨i, hi⟩ : ∃ i : Nat, i = m % 281474976710656 := ⟨_, rfl⟩
  obtain ⟨k, hk⟩ : ∃ k : Nat, k = n % 281474976710656 := ⟨_, rfl⟩
  have hil : i < 256 ^ 6 := by omega
  have hkl : k < 256 ^ 6 := by omega
  rw [show (m : Int) % 281474976710656 = (i : Int) from by omega, show (n : Int) % 281474976710656 = (k : Int) from by omega]
  have HI := hid hi
  have HK := hid hk
  clear hi hk
  have spi : numSpec [] 6 i = (be 6 i, 0) := numSpec_ok [] 6 i (by omega) (by omega) hil
  have spk : numSpec [] 6 k = (be 6 k, 0) := numSpec_ok [] 6 k (by omega) (by omega) hkl
  have SPI := hid spi
  have SPK := hid spk
  clear spi spk
  go_wp2_with fail
  refine (num_at _ [] 6 i _ _ SPI.out (Bytes.nil _) (by simp) (by omega)).mono ?_
  rintro e w1 ⟨r1, rfl, ho1, hx⟩
  have hbox := hid (hx.block (heap_alloc_new w _))
  have HX := hid (((Ext.alloc w _).trans (Ext.drewN _ nq)).trans hx)
  have B1 := hid (Bytes.of_own ho1)
  clear hx ho1
  go_wp2_with fail
  refine (num_at _ [] 6 k _ _ SPK.out (Bytes.nil _) (by simp) (by omega)).mono ?_
  rintro e w2 ⟨r2, rfl, ho2, hx⟩
  replace hbox := hid (hx.block hbox.out)
  replace HX := hid (HX.out.trans hx)
  replace B1 := hid (B1.out.ext hx)
  have B2 := hid (Bytes.of_own ho2)
  clear hx ho2
  go_wp2_with fail
  refine wp_region_slots Ext (oneG w.heap.size m n) (by kernel_rfl) Ext.trans Ext.refl (Ext.drew _) (oneG_st _ _ _) (by kernel_rfl) ?_ ?_
  · intro tmps wr hle hfr j o ho hty
    have h1 : tmps[1]?.getD undef = .pointer (some ⟨w.heap.size, 0, none⟩) := hfr 1 (by kernel_rfl)
    have hbx := hid (hle.block hbox.out)
    have hcell0 : wr.cell? ⟨w.heap.size, 0, none⟩ = some (.int .u64 (m : Int)) := cell_of_row _ _ 0 _ _ _ hbx.out
    have hcell1 : wr.cell? ⟨w.heap.size, 1, none⟩ = some (.int .u64 (n : Int)) := cell_of_row _ _ 1 _ _ _ hbx.out
    clear hfr
    match j, ho with
    | 0, ho =>
      obtain rfl := (Option.some.inj ho)
      clear hty ho
      refine step_pure (.pointer (some ⟨w.heap.size, 0, none⟩)) (wanted_free rfl) ?_ (Ext.refl _) rfl
      simp [execOp, Act.eval, h1, go_sem]
    | 1, ho =>
      have h29 : tmps[29]?.getD undef = .pointer (some ⟨w.heap.size, 0, none⟩) := hty 0 29 rfl (by obtain rfl := (Option.some.inj ho); rfl)
      obtain rfl := (Option.some.inj ho)
      clear hty ho
      refine step_pure (.int .u64 (m : Int)) (wanted_free rfl) ?_ (Ext.refl _) rfl
      simp [execOp, Act.eval, h29, hcell0, go_sem]
    | 2, ho =>
      have h30 : tmps[30]?.getD undef = .int .u64 (m : Int) := hty 1 30 rfl (by obtain rfl := (Option.some.inj ho); rfl)
      obtain rfl := (Option.some.inj ho)
      clear hty ho
      refine step_call 12 #[.slice none 0 0, .int .u64 (m : Int)] (wanted_free rfl) ?_ ?_
      · simp [execOp, Act.eval, h30, go_sem]
      · exact (word_at _ [] _ m _ rfl (Bytes.nil _) (by simp) (by omega)).mono fun e w' ⟨r, h1, h2, h3⟩ => ⟨r, h1, h3, Bytes.of_own h2⟩
    | 3, ho =>
      have h31 : Bytes wr (tmps[31]?.getD undef) (be 8 m) := hty 2 31 rfl (by obtain rfl := (Option.some.inj ho); rfl)
      obtain rfl := (Option.some.inj ho)
      clear hty ho
      refine step_pure (.string ⟨(be 8 m).toArray⟩) (wanted_free rfl) ?_ (Ext.refl _) rfl
      have hcv := run_string_bytes Try.underlying22 Try.underlying5 Try.underlying9 h31
      simp [execOp, Act.eval, hcv, go_sem]
    | 4, ho =>
      obtain rfl := (Option.some.inj ho)
      clear hty ho
      refine step_pure (.pointer (some ⟨w.heap.size, 1, none⟩)) (wanted_free rfl) ?_ (Ext.refl _) rfl
      simp [execOp, Act.eval, h1, go_sem]
    | 5, ho =>
      have h33 : tmps[33]?.getD undef = .pointer (some ⟨w.heap.size, 1, none⟩) := hty 4 33 rfl (by obtain rfl := (Option.some.inj ho); rfl)
      obtain rfl := (Option.some.inj ho)
      clear hty ho
      refine step_pure (.int .u64 (n : Int)) (wanted_free rfl) ?_ (Ext.refl _) rfl
      simp [execOp, Act.eval, h33, hcell1, go_sem]
    | 6, ho =>
      have h34 : tmps[34]?.getD undef = .int .u64 (n : Int) := hty 5 34 rfl (by obtain rfl := (Option.some.inj ho); rfl)
      obtain rfl := (Option.some.inj ho)
      clear hty ho
      refine step_call 12 #[.slice none 0 0, .int .u64 (n : Int)] (wanted_free rfl) ?_ ?_
      · simp [execOp, Act.eval, h34, go_sem]
      · exact (word_at _ [] _ n _ rfl (Bytes.nil _) (by simp) (by omega)).mono fun e w' ⟨r, h1, h2, h3⟩ => ⟨r, h1, h3, Bytes.of_own h2⟩
    | 7, ho =>
      have h35 : Bytes wr (tmps[35]?.getD undef) (be 8 n) := hty 6 35 rfl (by obtain rfl := (Option.some.inj ho); rfl)
      obtain rfl := (Option.some.inj ho)
      clear hty ho
      refine step_pure (.string ⟨(be 8 n).toArray⟩) (wanted_free rfl) ?_ (Ext.refl _) rfl
      have hcv := run_string_bytes Try.underlying22 Try.underlying5 Try.underlying9 h35
      simp [execOp, Act.eval, hcv, go_sem]
    | 8, ho =>
      have h32 : tmps[32]?.getD undef = .string ⟨(be 8 m).toArray⟩ := hty 3 32 rfl (by obtain rfl := (Option.some.inj ho); rfl)
      obtain rfl := (Option.some.inj ho)
      clear hty ho
      refine step_pure (.string ⟨(be 8 m).toArray⟩) (wanted_free rfl) ?_ (Ext.refl _) rfl
      simp [execOp, Act.eval, h32, go_sem]
    | 9, ho =>
      have h36 : tmps[36]?.getD undef = .string ⟨(be 8 n).toArray⟩ := hty 7 36 rfl (by obtain rfl := (Option.some.inj ho); rfl)
      obtain rfl := (Option.some.inj ho)
      clear hty ho
      refine step_pure (.string ⟨(be 8 n).toArray⟩) (wanted_free rfl) ?_ (Ext.refl _) rfl
      simp [execOp, Act.eval, h36, go_sem]
    | (j + 10), ho => exact absurd ho (by simp)
  · intro tmps w3 hle hs hfr hty
    have h9 : tmps[9]?.getD undef = .string ⟨(be 8 m).toArray⟩ := hty 8 9 rfl
    have h10 : tmps[10]?.getD undef = .string ⟨(be 8 n).toArray⟩ := hty 9 10 rfl
    have hfe := frame_eq [29, 30, 31, 32, 33, 34, 35, 36, 9, 10] hs hfr (by kernel_rfl)
    rw [hfe]
    clear hfe hfr hs hty
    simp only [List.foldl_cons, List.foldl_nil]
    generalize tmps[29]?.getD undef = x29
    generalize tmps[30]?.getD undef = x30
    generalize tmps[31]?.getD undef = x31
    generalize tmps[32]?.getD undef = x32
    generalize tmps[33]?.getD undef = x33
    generalize tmps[34]?.getD undef = x34
    generalize tmps[35]?.getD undef = x35
    generalize tmps[36]?.getD undef = x36
    rw [h9, h10]
    clear h9 h10
    simp only [List.setIfInBounds_toArray, List.set_cons_succ, List.set_cons_zero]
    replace hbox := hid (hle.block hbox.out)
    replace HX := hid (HX.out.trans hle)
    replace B1 := hid (B1.out.ext hle)
    replace B2 := hid (B2.out.ext hle)
    have hcell0 : w3.cell? ⟨w.heap.size, 0, none⟩ = some (.int .u64 (m : Int)) := cell_of_row _ _ 0 _ _ _ hbox.out
    have hcell1 : w3.cell? ⟨w.heap.size, 1, none⟩ = some (.int .u64 (n : Int)) := cell_of_row _ _ 1 _ _ _ hbox.out
    have hcv1 : (convert 22 9 r1).run Try.prog w3 = .ok (.string ⟨(be 6 i).toArray⟩) w3 :=
      run_string_bytes Try.underlying22 Try.underlying5 Try.underlying9 B1.out
    have hcv2 : (convert 22 9 r2).run Try.prog w3 = .ok (.string ⟨(be 6 k).toArray⟩) w3 :=
      run_string_bytes Try.underlying22 Try.underlying5 Try.underlying9 B2.out
    have e1 : Op.bytesLess (be 6 i) (be 6 k) = decide ((i : Int) < (k : Int)) := be_less_int 6 i k hil hkl
    have e2 : (be 6 i == be 6 k) = ((i : Int) == (k : Int)) := be_same_int 6 i k hil hkl
    have e3 : Op.bytesLess (be 8 m) (be 8 n) = decide ((m : Int) < (n : Int)) := be_less_int 8 m n (by omega) (by omega)
    have e4 : (be 8 m == be 8 n) = ((m : Int) == (n : Int)) := be_same_int 8 m n (by omega) (by omega)
    obtain ⟨A1, c1, hr1, _, _, _⟩ := B1.out
    rw [be_length] at hr1
    subst hr1
    clear hle hil hkl hm hn
    go_wp2_with fail
    refine (awake_any _).mono ?_
    rintro e w4 ⟨rfl, hx⟩
    go_wp2_with fail
    go_ret
    exact ⟨rfl, HX.out.trans hx⟩
end Go.Proofs.Ytekkmpahienaeaa
