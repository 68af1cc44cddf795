/- The document's sums, rounded, by their contracts. Conditions: none. -/
import Derived.Test.YtaahaehgdamkdaaRR1
import Derived.Deep.CutRange
namespace Go.Proofs.Ytaahaehgdamkdaa
open Go Go.RowKit

set_option maxHeartbeats 400000 in
theorem rscale_any (u : Nat) (w : World) (hu : u ≤ 18446744073709551615) : Calls Try.prog 63 #[.int .u64 (u : Int)] w (Just w (.int .i64 (scaleZ u : Int))) := by
  have h1 := fun W => rexp_any u W hu
  have hs : scaleZ u = max 1 (exZ u) := rfl
  have hx := ex_lt u
  generalize exZ u = x at *
  have HS := hid hs
  clear hs
  go_enter Try.func63, Try.ntmps63
  go_wp2_with ((with_reducible show Calls _ 84 _ _ _); refine (h1 _).mono ?_; rintro e w1 ⟨rfl, rfl⟩)
  all_goals go_ret
  all_goals exact Just.mk_int (by rw [HS.out]; omega)

set_option maxHeartbeats 400000 in
theorem rman_any (u : Nat) (w : World) (hu : u ≤ 18446744073709551615) : Calls Try.prog 64 #[.int .u64 (u : Int)] w (Just w (.int .u64 (manZ u : Int))) := by
  have h1 := fun W => rexp_any u W hu
  have h2 := fun W => rfrac_any u W hu
  have hs : manZ u = if exZ u = 0 then frZ u else 4503599627370496 + frZ u := rfl
  have hx := ex_lt u
  have hf := fr_lt u
  generalize exZ u = x at *
  generalize frZ u = f at *
  have HS := hid hs
  clear hs
  by_cases hx0 : x = 0
  all_goals
    go_enter Try.func64, Try.ntmps64
    go_wp2_with (first | ((with_reducible show Calls _ 84 _ _ _); refine (h1 _).mono ?_; rintro e w1 ⟨rfl, rfl⟩) | ((with_reducible show Calls _ 85 _ _ _); refine (h2 _).mono ?_; rintro e w1 ⟨rfl, rfl⟩))
    go_ret
    exact Just.mk_int (by rw [HS.out]; split <;> omega)

set_option maxHeartbeats 800000 in
theorem rdown_any (m n : Nat) (w : World) (hm : m ≤ 18446744073709551614) (hn : n ≤ 9223372036854775807) : Calls Try.prog 65 #[.int .u64 (m : Int), .int .i64 (n : Int)] w (Just w (.int .u64 (stk m n : Int))) := by
  go_enter Try.func65, Try.ntmps65
  go_wp2_with fail
  go_loopw [0, 5] (fun x i wr => ∃ j y : Nat, j ≤ n ∧ i = .int .i64 (j : Int) ∧ x = .int .u64 (y : Int) ∧ Hid (y = stk m j) ∧ wr = w)
    (fun _ i _ => n - (intOf i).toNat)
  case atStart => exact ⟨0, m, by omega, rfl, rfl, hid (stk_zero m).symm, rfl⟩
  case round =>
    obtain ⟨j, y, hj, rfl, rfl, hy, rfl⟩ := hrel
    have hyl : y ≤ 18446744073709551615 := by rw [hy.out]; have := stk_le m j; omega
    by_cases hjn : j < n ∧ 1 < y
    · obtain ⟨hjn, hy1⟩ := hjn
      have hstep := d1_stk m j
      rw [← hy.out] at hstep
      have HST := hid hstep
      clear hstep
      rcases Nat.mod_two_eq_zero_or_one y with h0 | h0
      · have h0' : (y : Int) % 2 = 0 := by omega
        have he := d1_even h0
        have HE := hid he
        clear he
        go_wp2_with fail
        go_roundw
        case rel =>
          refine ⟨j + 1, y / 2, by omega, rfl, congrArg _ (by omega), ?_, trivial⟩
          show _ = _
          rw [← HST.out, HE.out]
        case measure => simp [intOf]; omega
      · have h0' : (y : Int) % 2 = 1 := by omega
        have he := d1_odd h0
        have HE := hid he
        clear he
        go_wp2_with fail
        go_roundw
        case rel =>
          refine ⟨j + 1, y / 2 + (1 - y / 2 % 2), by omega, rfl, congrArg _ (by omega), ?_, trivial⟩
          show _ = _
          rw [← HST.out, HE.out]
        case measure => simp [intOf]; omega
    · have hend : stk m n = y := by
        rcases Nat.lt_or_ge j n with h1 | h1
        · have h2 : stk m j ≤ 1 := by rw [← hy.out]; omega
          have h3 := stk_stop h2 (n - j)
          rw [show j + (n - j) = n by omega] at h3
          rw [h3, hy.out]
        · have : j = n := by omega
          rw [hy.out, this]
      have HEND := hid hend
      clear hend
      by_cases hjn2 : j < n
      · have hy1 : ¬ 1 < y := by omega
        go_wp2_with fail
        go_ret
        exact Just.mk_int (by rw [HEND.out])
      · go_wp2_with fail
        go_ret
        exact Just.mk_int (by rw [HEND.out])

theorem rd_true (N : Nat) : rdZ true N = 9223372036854775808 + min (rnd N) 9218868437227405312 := by unfold rdZ wordZ; rw [if_pos rfl]
theorem rd_false (N : Nat) : rdZ false N = min (rnd N) 9218868437227405312 := by unfold rdZ wordZ; rw [if_neg (by decide)]

set_option maxRecDepth 100000 in
set_option maxHeartbeats 1600000 in
theorem rround_any (s : Bool) (m e N : Nat) (w : World) (hm : m < 4611686018427387904) (he : 1 ≤ e) (he2 : e ≤ 3000) (hn : Going m N e) :
    Calls Try.prog 67 #[.bool s, .int .u64 (m : Int), .int .i64 (e : Int)] w (Just w (.int .u64 (rdZ s N : Int))) := by
  have HG := hid hn
  clear hn
  go_enter Try.func67, Try.ntmps67
  go_wp2_with fail
  go_loopw [1, 2] (fun x y wr => ∃ M E i : Nat, x = .int .u64 (M : Int) ∧ y = .int .i64 (E : Int) ∧ E = e + i ∧ i ≤ 7 ∧ Hid (M ≤ 2 ^ (62 - i)) ∧ Hid (Going M N E) ∧ wr = w)
    (fun x _ _ => (intOf x).toNat)
  case atStart => exact ⟨m, e, 0, rfl, rfl, rfl, by omega, hid (by omega), hid HG.out, rfl⟩
  case round =>
    obtain ⟨M, E, i, rfl, rfl, hE, hi, hMi, hG, rfl⟩ := hrel
    have hE1 : 1 ≤ E := by omega
    have hE3 : E ≤ 3007 := by omega
    have HE := hid hE
    clear hE
    have hM62 : M ≤ 4611686018427387904 := Nat.le_trans hMi.out (Nat.pow_le_pow_right (by decide) (by omega : 62 - i ≤ 62))
    by_cases hM : 72057594037927936 ≤ M
    · have hi6 : i ≤ 6 := by
        rcases Nat.lt_or_ge 6 i with h1 | h1
        · have : 2 ^ (62 - i) ≤ 2 ^ 55 := Nat.pow_le_pow_right (by decide) (by omega)
          have := hMi.out
          omega
        · exact h1
      have hgd := hid (going_down hE1 hM hG.out)
      have hd := rdown_any M 1 wr (by omega) (by omega)
      rw [stk_one] at hd
      have hdl := d1_le M
      have hdi : d1 M ≤ 2 ^ (62 - (i + 1)) := by
        have h1 := hMi.out
        rw [show 62 - i = 62 - (i + 1) + 1 by omega, Nat.pow_succ] at h1
        omega
      have HDI := hid hdi
      clear hdi
      generalize d1 M = D at *
      have HD := hid hd
      clear hd
      have hMi2 : (72057594037927936 : Int) ≤ (M : Int) := by omega
      clear hM
      go_wp2_with fail
      refine HD.out.mono ?_
      rintro e1 w1 ⟨rfl, rfl⟩
      go_wp2_with fail
      go_roundw
      case rel => exact ⟨D, E + 1, i + 1, rfl, rfl, by have := HE.out; omega, by omega, HDI, hgd, trivial⟩
      case measure => simp [intOf]; omega
    · have hMi2 : ¬ (72057594037927936 : Int) ≤ (M : Int) := by omega
      clear hM
      go_wp2_with fail
      go_loopw [1, 2] (fun x y wq => ∃ M E : Nat, x = .int .u64 (M : Int) ∧ y = .int .i64 (E : Int) ∧ 1 ≤ E ∧ E ≤ 3007 ∧ (M : Int) < 72057594037927936 ∧ Hid (Near M N E) ∧ wq = wr)
        (fun _ y _ => (intOf y).toNat)
      case atStart => exact ⟨M, E, rfl, rfl, hE1, hE3, hMi2, hid (going_near hG.out), rfl⟩
      case round =>
        clear hM62 hMi2 hE1 hE3 HE hG hMi hi
        obtain ⟨M, E, rfl, rfl, hE1, hE3, hM56, hN, rfl⟩ := hrel
        by_cases hgo : (M : Int) < 36028797018963968 ∧ (1 : Int) < (E : Int)
        · obtain ⟨hM55, hE2⟩ := hgo
          have hup := hid (near_up (by omega) (by omega) hN.out)
          go_wp2_with fail
          go_roundw
          case rel => exact ⟨2 * M, E - 1, congrArg _ (by omega), congrArg _ (by omega), by omega, by omega, by omega, hup, trivial⟩
          case measure => simp [intOf]; omega
        · have hdone := near_done hE1 (by omega) (by omega) hN.out
          have hlo : (36028797018963968 : Int) ≤ (M : Int) ∨ E = 1 := by omega
          have HD := hid hdone
          have HLO := hid hlo
          clear hdone hlo
          have hM0 : 0 ≤ (M : Int) := by omega
          obtain ⟨k, hk1, hk2, hk3⟩ : ∃ k : Nat, (k : Int) = (M : Int) / 8 + (if (4 : Int) < (M : Int) % 8 ∨ ((M : Int) % 8 = 4 ∧ (M : Int) / 8 % 2 = 1) then 1 else 0) ∧ (k : Int) + ((E : Int) - 1) * 4503599627370496 = (rnd N : Int) ∧ (k : Int) ≤ 9007199254740992 := by
            refine ⟨M / 8 + (if 4 < M % 8 ∨ (M % 8 = 4 ∧ M / 8 % 2 = 1) then 1 else 0), ?_, ?_, ?_⟩
            · split <;> split <;> omega
            · have := HD.out
              split at this <;> split <;> omega
            · split <;> omega
          have HK := hid hk2
          have HK1 := hid hk1
          have HGO := hid hgo
          clear hk2 hk1 HD hgo HLO hm he he2 HG hM0
          by_cases hA : (M : Int) < 36028797018963968
          · have hE1' : ¬ (1 : Int) < (E : Int) := by have := HGO.out; omega
            by_cases c1 : (4 : Int) < (M : Int) % 8
            · have hk1 : (k : Int) = (M : Int) / 8 + 1 := by have := HK1.out; split at this <;> omega
              have HK2 := hid hk1
              clear hk1
              go_upto_if 39 with fail
              try clear c3
              try clear c2
              clear c1
              go_upto_if 43 with fail
              have hk1 := HK2.out
              rw [← hk1]
              have hkk := HK.out
              have hb : (4503599627370496 : Int) ≤ (k : Int) ∨ (E : Int) = 1 := by have := HGO.out; omega
              have HB := hid hb
              clear hk1 HK1 hb HGO hA hM56 HK2
              try clear hne
              try clear hE1'
              by_cases d1 : (k : Int) = 9007199254740992 <;> by_cases d2 : (4503599627370496 : Int) ≤ (k : Int) <;> by_cases d3 : (2047 : Int) ≤ (E : Int) <;> by_cases d4 : (2047 : Int) ≤ (E : Int) + 1 <;> cases s
              all_goals first
                | (exfalso; have := HB.out; omega)
                | (have HKK := hid hkk
                   clear hkk
                   go_wp2_with fail
                   go_ret
                   refine Just.mk_int ?_
                   have hkk := HKK.out
                   have hb := HB.out
                   rcases Nat.le_total (rnd N) 9218868437227405312 with h | h
                   all_goals first
                     | (rw [rd_true, Nat.min_eq_left h]; omega)
                     | (rw [rd_false, Nat.min_eq_left h]; omega)
                     | (rw [rd_true, Nat.min_eq_right h]; omega)
                     | (rw [rd_false, Nat.min_eq_right h]; omega))
            · by_cases c2 : (M : Int) % 8 = 4
              · by_cases c3 : (M : Int) / 8 % 2 = 1
                · have hk1 : (k : Int) = (M : Int) / 8 + 1 := by have := HK1.out; split at this <;> omega
                  have HK2 := hid hk1
                  clear hk1
                  go_upto_if 39 with fail
                  try clear c3
                  try clear c2
                  clear c1
                  go_upto_if 43 with fail
                  have hk1 := HK2.out
                  rw [← hk1]
                  have hkk := HK.out
                  have hb : (4503599627370496 : Int) ≤ (k : Int) ∨ (E : Int) = 1 := by have := HGO.out; omega
                  have HB := hid hb
                  clear hk1 HK1 hb HGO hA hM56 HK2
                  try clear hne
                  try clear hE1'
                  by_cases d1 : (k : Int) = 9007199254740992 <;> by_cases d2 : (4503599627370496 : Int) ≤ (k : Int) <;> by_cases d3 : (2047 : Int) ≤ (E : Int) <;> by_cases d4 : (2047 : Int) ≤ (E : Int) + 1 <;> cases s
                  all_goals first
                    | (exfalso; have := HB.out; omega)
                    | (have HKK := hid hkk
                       clear hkk
                       go_wp2_with fail
                       go_ret
                       refine Just.mk_int ?_
                       have hkk := HKK.out
                       have hb := HB.out
                       rcases Nat.le_total (rnd N) 9218868437227405312 with h | h
                       all_goals first
                         | (rw [rd_true, Nat.min_eq_left h]; omega)
                         | (rw [rd_false, Nat.min_eq_left h]; omega)
                         | (rw [rd_true, Nat.min_eq_right h]; omega)
                         | (rw [rd_false, Nat.min_eq_right h]; omega))
                · have c3b : ((M : Int) / 8 % 2 == 1) = false := by rw [beq_eq_false_iff_ne]; exact c3
                  have hk1 : (k : Int) = (M : Int) / 8 := by have := HK1.out; split at this <;> omega
                  have hne : ((M : Int) / 8 == 9007199254740992) = false := by rw [beq_eq_false_iff_ne]; omega
                  have HK2 := hid hk1
                  clear hk1
                  go_upto_if 39 with fail
                  clear c3b
                  try clear c3
                  try clear c2
                  clear c1
                  go_upto_if 43 with fail
                  have hk1 := HK2.out
                  rw [← hk1]
                  have hkk := HK.out
                  have hb : (4503599627370496 : Int) ≤ (k : Int) ∨ (E : Int) = 1 := by have := HGO.out; omega
                  have HB := hid hb
                  clear hk1 HK1 hb HGO hA hM56 HK2
                  try clear hne
                  try clear hE1'
                  by_cases d1 : (k : Int) = 9007199254740992 <;> by_cases d2 : (4503599627370496 : Int) ≤ (k : Int) <;> by_cases d3 : (2047 : Int) ≤ (E : Int) <;> by_cases d4 : (2047 : Int) ≤ (E : Int) + 1 <;> cases s
                  all_goals first
                    | (exfalso; have := HB.out; omega)
                    | (have HKK := hid hkk
                       clear hkk
                       go_wp2_with fail
                       go_ret
                       refine Just.mk_int ?_
                       have hkk := HKK.out
                       have hb := HB.out
                       rcases Nat.le_total (rnd N) 9218868437227405312 with h | h
                       all_goals first
                         | (rw [rd_true, Nat.min_eq_left h]; omega)
                         | (rw [rd_false, Nat.min_eq_left h]; omega)
                         | (rw [rd_true, Nat.min_eq_right h]; omega)
                         | (rw [rd_false, Nat.min_eq_right h]; omega))
              · have hk1 : (k : Int) = (M : Int) / 8 := by have := HK1.out; split at this <;> omega
                have hne : ((M : Int) / 8 == 9007199254740992) = false := by rw [beq_eq_false_iff_ne]; omega
                have HK2 := hid hk1
                clear hk1
                go_upto_if 39 with fail
                try clear c3
                try clear c2
                clear c1
                go_upto_if 43 with fail
                have hk1 := HK2.out
                rw [← hk1]
                have hkk := HK.out
                have hb : (4503599627370496 : Int) ≤ (k : Int) ∨ (E : Int) = 1 := by have := HGO.out; omega
                have HB := hid hb
                clear hk1 HK1 hb HGO hA hM56 HK2
                try clear hne
                try clear hE1'
                by_cases d1 : (k : Int) = 9007199254740992 <;> by_cases d2 : (4503599627370496 : Int) ≤ (k : Int) <;> by_cases d3 : (2047 : Int) ≤ (E : Int) <;> by_cases d4 : (2047 : Int) ≤ (E : Int) + 1 <;> cases s
                all_goals first
                  | (exfalso; have := HB.out; omega)
                  | (have HKK := hid hkk
                     clear hkk
                     go_wp2_with fail
                     go_ret
                     refine Just.mk_int ?_
                     have hkk := HKK.out
                     have hb := HB.out
                     rcases Nat.le_total (rnd N) 9218868437227405312 with h | h
                     all_goals first
                       | (rw [rd_true, Nat.min_eq_left h]; omega)
                       | (rw [rd_false, Nat.min_eq_left h]; omega)
                       | (rw [rd_true, Nat.min_eq_right h]; omega)
                       | (rw [rd_false, Nat.min_eq_right h]; omega))
          · skip
            by_cases c1 : (4 : Int) < (M : Int) % 8
            · have hk1 : (k : Int) = (M : Int) / 8 + 1 := by have := HK1.out; split at this <;> omega
              have HK2 := hid hk1
              clear hk1
              go_upto_if 39 with fail
              try clear c3
              try clear c2
              clear c1
              go_upto_if 43 with fail
              have hk1 := HK2.out
              rw [← hk1]
              have hkk := HK.out
              have hb : (4503599627370496 : Int) ≤ (k : Int) ∨ (E : Int) = 1 := by have := HGO.out; omega
              have HB := hid hb
              clear hk1 HK1 hb HGO hA hM56 HK2
              try clear hne
              try clear hE1'
              by_cases d1 : (k : Int) = 9007199254740992 <;> by_cases d2 : (4503599627370496 : Int) ≤ (k : Int) <;> by_cases d3 : (2047 : Int) ≤ (E : Int) <;> by_cases d4 : (2047 : Int) ≤ (E : Int) + 1 <;> cases s
              all_goals first
                | (exfalso; have := HB.out; omega)
                | (have HKK := hid hkk
                   clear hkk
                   go_wp2_with fail
                   go_ret
                   refine Just.mk_int ?_
                   have hkk := HKK.out
                   have hb := HB.out
                   rcases Nat.le_total (rnd N) 9218868437227405312 with h | h
                   all_goals first
                     | (rw [rd_true, Nat.min_eq_left h]; omega)
                     | (rw [rd_false, Nat.min_eq_left h]; omega)
                     | (rw [rd_true, Nat.min_eq_right h]; omega)
                     | (rw [rd_false, Nat.min_eq_right h]; omega))
            · by_cases c2 : (M : Int) % 8 = 4
              · by_cases c3 : (M : Int) / 8 % 2 = 1
                · have hk1 : (k : Int) = (M : Int) / 8 + 1 := by have := HK1.out; split at this <;> omega
                  have HK2 := hid hk1
                  clear hk1
                  go_upto_if 39 with fail
                  try clear c3
                  try clear c2
                  clear c1
                  go_upto_if 43 with fail
                  have hk1 := HK2.out
                  rw [← hk1]
                  have hkk := HK.out
                  have hb : (4503599627370496 : Int) ≤ (k : Int) ∨ (E : Int) = 1 := by have := HGO.out; omega
                  have HB := hid hb
                  clear hk1 HK1 hb HGO hA hM56 HK2
                  try clear hne
                  try clear hE1'
                  by_cases d1 : (k : Int) = 9007199254740992 <;> by_cases d2 : (4503599627370496 : Int) ≤ (k : Int) <;> by_cases d3 : (2047 : Int) ≤ (E : Int) <;> by_cases d4 : (2047 : Int) ≤ (E : Int) + 1 <;> cases s
                  all_goals first
                    | (exfalso; have := HB.out; omega)
                    | (have HKK := hid hkk
                       clear hkk
                       go_wp2_with fail
                       go_ret
                       refine Just.mk_int ?_
                       have hkk := HKK.out
                       have hb := HB.out
                       rcases Nat.le_total (rnd N) 9218868437227405312 with h | h
                       all_goals first
                         | (rw [rd_true, Nat.min_eq_left h]; omega)
                         | (rw [rd_false, Nat.min_eq_left h]; omega)
                         | (rw [rd_true, Nat.min_eq_right h]; omega)
                         | (rw [rd_false, Nat.min_eq_right h]; omega))
                · have c3b : ((M : Int) / 8 % 2 == 1) = false := by rw [beq_eq_false_iff_ne]; exact c3
                  have hk1 : (k : Int) = (M : Int) / 8 := by have := HK1.out; split at this <;> omega
                  have hne : ((M : Int) / 8 == 9007199254740992) = false := by rw [beq_eq_false_iff_ne]; omega
                  have HK2 := hid hk1
                  clear hk1
                  go_upto_if 39 with fail
                  clear c3b
                  try clear c3
                  try clear c2
                  clear c1
                  go_upto_if 43 with fail
                  have hk1 := HK2.out
                  rw [← hk1]
                  have hkk := HK.out
                  have hb : (4503599627370496 : Int) ≤ (k : Int) ∨ (E : Int) = 1 := by have := HGO.out; omega
                  have HB := hid hb
                  clear hk1 HK1 hb HGO hA hM56 HK2
                  try clear hne
                  try clear hE1'
                  by_cases d1 : (k : Int) = 9007199254740992 <;> by_cases d2 : (4503599627370496 : Int) ≤ (k : Int) <;> by_cases d3 : (2047 : Int) ≤ (E : Int) <;> by_cases d4 : (2047 : Int) ≤ (E : Int) + 1 <;> cases s
                  all_goals first
                    | (exfalso; have := HB.out; omega)
                    | (have HKK := hid hkk
                       clear hkk
                       go_wp2_with fail
                       go_ret
                       refine Just.mk_int ?_
                       have hkk := HKK.out
                       have hb := HB.out
                       rcases Nat.le_total (rnd N) 9218868437227405312 with h | h
                       all_goals first
                         | (rw [rd_true, Nat.min_eq_left h]; omega)
                         | (rw [rd_false, Nat.min_eq_left h]; omega)
                         | (rw [rd_true, Nat.min_eq_right h]; omega)
                         | (rw [rd_false, Nat.min_eq_right h]; omega))
              · have hk1 : (k : Int) = (M : Int) / 8 := by have := HK1.out; split at this <;> omega
                have hne : ((M : Int) / 8 == 9007199254740992) = false := by rw [beq_eq_false_iff_ne]; omega
                have HK2 := hid hk1
                clear hk1
                go_upto_if 39 with fail
                try clear c3
                try clear c2
                clear c1
                go_upto_if 43 with fail
                have hk1 := HK2.out
                rw [← hk1]
                have hkk := HK.out
                have hb : (4503599627370496 : Int) ≤ (k : Int) ∨ (E : Int) = 1 := by have := HGO.out; omega
                have HB := hid hb
                clear hk1 HK1 hb HGO hA hM56 HK2
                try clear hne
                try clear hE1'
                by_cases d1 : (k : Int) = 9007199254740992 <;> by_cases d2 : (4503599627370496 : Int) ≤ (k : Int) <;> by_cases d3 : (2047 : Int) ≤ (E : Int) <;> by_cases d4 : (2047 : Int) ≤ (E : Int) + 1 <;> cases s
                all_goals first
                  | (exfalso; have := HB.out; omega)
                  | (have HKK := hid hkk
                     clear hkk
                     go_wp2_with fail
                     go_ret
                     refine Just.mk_int ?_
                     have hkk := HKK.out
                     have hb := HB.out
                     rcases Nat.le_total (rnd N) 9218868437227405312 with h | h
                     all_goals first
                       | (rw [rd_true, Nat.min_eq_left h]; omega)
                       | (rw [rd_false, Nat.min_eq_left h]; omega)
                       | (rw [rd_true, Nat.min_eq_right h]; omega)
                       | (rw [rd_false, Nat.min_eq_right h]; omega))
end Go.Proofs.Ytaahaehgdamkdaa
