/- Several texts in one: SP1, SP2. Conditions: those of each. -/
import Derived.BigQuiet
import Derived.Test.YtnldgmpfinlikaaGreatGSR1
import Derived.Test.YtnldgmpfinlikaaGreatGZR1
/- The landed program's isLetter, isDigit, Reserved and Name, by their contracts. Conditions: none. -/
namespace Go.Proofs.YtnldgmpfinlikaaGreat
open Go Go.RowKit

theorem sletter_just (b : Nat) (r : Bool) (w : World) (h : r = true ↔ (97 ≤ b ∧ b ≤ 122)) : Calls Tryz.prog 89 #[.int .u8 (b : Int)] w (Just w (.bool r)) := by
  have hw : (b : Int) < 97 ∨ ((97 : Int) ≤ (b : Int) ∧ (b : Int) ≤ 122) ∨ ((97 : Int) ≤ (b : Int) ∧ 122 < (b : Int)) := by omega
  cases r
  · have h2 : ¬ (97 ≤ b ∧ b ≤ 122) := fun e => by cases h.2 e
    rcases hw with h1 | ⟨h1, h3⟩ | ⟨h1, h3⟩
    · go_enter Tryz.func89, Tryz.ntmps89
      go_wp2_with fail
      go_ret
      exact Just.mk_bool (by first | rfl | (simp; omega))
    · omega
    · go_enter Tryz.func89, Tryz.ntmps89
      go_wp2_with fail
      go_ret
      exact Just.mk_bool (by first | rfl | (simp; omega))
  · have h2 := h.1 rfl
    rcases hw with h1 | ⟨h1, h3⟩ | ⟨h1, h3⟩
    · omega
    · go_enter Tryz.func89, Tryz.ntmps89
      go_wp2_with fail
      go_ret
      exact Just.mk_bool (by first | rfl | (simp; omega))
    · omega
theorem sdigit_just (b : Nat) (r : Bool) (w : World) (h : r = true ↔ (48 ≤ b ∧ b ≤ 57)) : Calls Tryz.prog 90 #[.int .u8 (b : Int)] w (Just w (.bool r)) := by
  have hw : (b : Int) < 48 ∨ ((48 : Int) ≤ (b : Int) ∧ (b : Int) ≤ 57) ∨ ((48 : Int) ≤ (b : Int) ∧ 57 < (b : Int)) := by omega
  cases r
  · have h2 : ¬ (48 ≤ b ∧ b ≤ 57) := fun e => by cases h.2 e
    rcases hw with h1 | ⟨h1, h3⟩ | ⟨h1, h3⟩
    · go_enter Tryz.func90, Tryz.ntmps90
      go_wp2_with fail
      go_ret
      exact Just.mk_bool (by first | rfl | (simp; omega))
    · omega
    · go_enter Tryz.func90, Tryz.ntmps90
      go_wp2_with fail
      go_ret
      exact Just.mk_bool (by first | rfl | (simp; omega))
  · have h2 := h.1 rfl
    rcases hw with h1 | ⟨h1, h3⟩ | ⟨h1, h3⟩
    · omega
    · go_enter Tryz.func90, Tryz.ntmps90
      go_wp2_with fail
      go_ret
      exact Just.mk_bool (by first | rfl | (simp; omega))
    · omega

theorem reserved_any (s : ByteArray) : reservedZ s = reservedL.any (fun r => s.toList == r.data.toList) := by
  rw [Bool.eq_iff_iff, List.any_eq_true]
  unfold reservedZ
  rw [decide_eq_true_iff]
  constructor
  · rintro ⟨r, hr, rfl⟩
    exact ⟨r, hr, by rw [ByteArray.toList_eq]; exact beq_iff_eq.2 rfl⟩
  · rintro ⟨r, hr, e⟩
    rw [ByteArray.toList_eq] at e
    exact ⟨r, hr, ba_eq (beq_iff_eq.1 e).symm⟩
theorem reserved_chain (s : ByteArray) : reservedZ s = (s.toList == [119, 105, 116, 104, 105, 110] || (s.toList == [98, 121] || (s.toList == [97, 110, 100] || (s.toList == [111, 114] || (s.toList == [110, 111, 116] || (s.toList == [97, 110, 121] || (s.toList == [110, 101, 120, 116] || (s.toList == [115, 116, 114, 105, 99, 116] || (s.toList == [116, 114, 117, 101] || (s.toList == [102, 97, 108, 115, 101] || false)))))))))) := reserved_any s

set_option maxHeartbeats 2000000 in
theorem sreserved_just (s : ByteArray) (w : World) : Calls Tryz.prog 91 #[.string s] w (Just w (.bool (reservedZ s))) := by
  have HR := hid (reserved_chain s)
  generalize reservedZ s = R at *
  go_enter Tryz.func91, Tryz.ntmps91
  go_wp2_with fail
  all_goals (first | (exfalso; simp_all; done) | (go_ret; refine Just.mk_bool ?_; rw [HR.out]; simp only [*, Bool.true_or, Bool.false_or]))

theorem name_iff (s : ByteArray) : nameZ s = (decide (1 ≤ s.size ∧ s.size ≤ 12) && !reservedZ s && lettersZ 0 s.data.toList) := rfl

set_option maxRecDepth 100000 in
set_option maxHeartbeats 4000000 in
theorem sname_any (s : ByteArray) (w : World) (hs : s.size ≤ 1048576) : Calls Tryz.prog 79 #[.string s] w (Says w (.bool (nameZ s))) := by
  have hr := fun W => sreserved_just s W
  have hn := name_iff s
  generalize nameZ s = R at *
  generalize reservedZ s = Q at *
  by_cases h1 : s.size < 1
  · rw [decide_eq_false (by omega), Bool.false_and, Bool.false_and] at hn
    subst hn
    have hz : s = ⟨#[]⟩ := (text_none s).2 (by omega)
    subst hz
    clear hr
    go_enter Tryz.func79, Tryz.ntmps79
    go_wp2_with fail
    go_ret
    exact ⟨rfl, Ext.refl _⟩
  · have hne : (s.toList == ([] : List UInt8)) = false := beq_eq_false_iff_ne.2 (fun e => h1 (by rw [ByteArray.toList_eq] at e; have := congrArg List.length e; rw [size_toList] at this; rw [this]; exact Nat.zero_lt_one))
    by_cases h12 : 12 < s.size
    · rw [decide_eq_false (by omega), Bool.false_and, Bool.false_and] at hn
      subst hn
      have h12' : 12 < (s.size : Int) := by omega
      clear hr h12
      go_enter Tryz.func79, Tryz.ntmps79
      go_wp2_with fail
      go_ret
      exact ⟨rfl, Ext.refl _⟩
    · rw [decide_eq_true (by omega), Bool.true_and] at hn
      have h12' : ¬ 12 < (s.size : Int) := by omega
      have hp0 : 0 < s.size := by omega
      by_cases hl0 : 97 ≤ (s[0]'hp0).toNat ∧ (s[0]'hp0).toNat ≤ 122
      · have k0 := fun W => sletter_just (s[0]'hp0).toNat true W (by simp only [true_iff]; exact hl0)
        have HL0 := hid hl0
        have HN := hid (show R = (!Q && lettersZ 0 (s.data.toList.drop 0)) from hn)
        clear hn hl0 h12
        go_enter Tryz.func79, Tryz.ntmps79
        go_wp2_with (go_at_call 89; refine (k0 _).mono ?_; rintro e1 w1 ⟨rfl, rfl⟩)
        go_loopw [19] (fun x wr => ∃ i : Nat, i ≤ s.size ∧ x = .int .i64 (i : Int) ∧ Hid (R = (!Q && lettersZ i (s.data.toList.drop i))) ∧ wr = w1)
          (fun x _ => s.size - (intOf x).toNat)
        case atStart => exact ⟨0, by omega, rfl, hid HN.out, rfl⟩
        case round =>
          obtain ⟨i, hi, rfl, ho, rfl⟩ := hrel
          by_cases hlt : i < s.size
          · have hat := hid (letters_at hlt)
            have kl := fun r W h => sletter_just (s[i]'hlt).toNat r W h
            have kd := fun r W h => sdigit_just (s[i]'hlt).toNat r W h
            rcases byte_ways (s[i]'hlt).toNat with ⟨b0, b1⟩ | ⟨b0, b1⟩ | b0 | hno
            · have kl := fun W => kl true W (by simp only [true_iff]; omega)
              go_wp2_with (go_at_call 89; refine (kl _).mono ?_; rintro e1 w2 ⟨rfl, rfl⟩)
              go_roundw
              case rel => exact ⟨i + 1, by omega, by go_num, hid (by rw [ho.out, hat.out, letter_of (r := true) (by simp only [true_iff]; omega), Bool.true_and]), trivial⟩
              case measure => simp only [intOf]; omega
            · have hz : i ≠ 0 := by rintro rfl; have := HL0.out; omega
              have kl := fun W => kl false W (by simp only [Bool.false_eq_true, false_iff]; omega)
              have kd := fun W => kd true W (by simp only [true_iff]; omega)
              have b9 : (((s[i]'hlt).toNat : Int) == 95) = false := beq_eq_false_iff_ne.2 (by omega)
              go_wp2_with (first | (go_at_call 89; refine (kl _).mono ?_; rintro e1 w2 ⟨rfl, rfl⟩) | (go_at_call 90; refine (kd _).mono ?_; rintro e1 w2 ⟨rfl, rfl⟩))
              go_roundw
              case rel => exact ⟨i + 1, by omega, by go_num, hid (by rw [ho.out, hat.out, letter_of (r := true) (by simp only [true_iff]; omega), Bool.true_and]), trivial⟩
              case measure => simp only [intOf]; omega
            · have hz : i ≠ 0 := by rintro rfl; have := HL0.out; omega
              have kl := fun W => kl false W (by simp only [Bool.false_eq_true, false_iff]; omega)
              have kd := fun W => kd false W (by simp only [Bool.false_eq_true, false_iff]; omega)
              have b9 : (((s[i]'hlt).toNat : Int) != 95) = false := bne_eq_false_iff_eq.2 (by omega)
              have hok := hid (letter_of (i := i) (b := (s[i]'hlt).toNat) (r := true) (by simp only [true_iff]; omega))
              clear b0
              go_wp2_with (first | (go_at_call 89; refine (kl _).mono ?_; rintro e1 w2 ⟨rfl, rfl⟩) | (go_at_call 90; refine (kd _).mono ?_; rintro e1 w2 ⟨rfl, rfl⟩))
              go_roundw
              case rel => exact ⟨i + 1, by omega, by go_num, hid (by rw [ho.out, hat.out, hok.out, Bool.true_and]), trivial⟩
              case measure => simp only [intOf]; omega
            · have kl := fun W => kl false W (by simp only [Bool.false_eq_true, false_iff]; omega)
              have kd := fun W => kd false W (by simp only [Bool.false_eq_true, false_iff]; omega)
              have b9 : (((s[i]'hlt).toNat : Int) != 95) = true := bne_iff_ne.2 (by omega)
              have HF := hid (show R = false by rw [ho.out, hat.out, letter_of (r := false) (by simp only [Bool.false_eq_true, false_iff]; omega), Bool.false_and, Bool.and_false])
              clear hno
              go_wp2_with (first | (go_at_call 89; refine (kl _).mono ?_; rintro e1 w2 ⟨rfl, rfl⟩) | (go_at_call 90; refine (kd _).mono ?_; rintro e1 w2 ⟨rfl, rfl⟩))
              go_ret
              exact ⟨by rw [HF.out]; rfl, Ext.refl _⟩
          · have hi' : i = s.size := by omega
            subst hi'
            go_wp2_with (go_at_call 91; refine (hr _).mono ?_; rintro e1 w2 ⟨rfl, rfl⟩)
            go_ret
            exact ⟨by rw [ho.out, letters_last, Bool.and_true]; rfl, Ext.refl _⟩
      · have k0 := fun W => sletter_just (s[0]'hp0).toNat false W (by simp only [Bool.false_eq_true, false_iff]; exact hl0)
        have hz : lettersZ 0 s.data.toList = false := by
          have := letters_at (s := s) (i := 0) hp0
          rw [List.drop_zero] at this
          rw [this, letter_of (r := false) (by simp only [Bool.false_eq_true, false_iff]; omega), Bool.false_and]
        rw [hz, Bool.and_false] at hn
        subst hn
        clear hz hl0 hr h12
        go_enter Tryz.func79, Tryz.ntmps79
        go_wp2_with (go_at_call 89; refine (k0 _).mono ?_; rintro e1 w1 ⟨rfl, rfl⟩)
        go_ret
        exact ⟨rfl, Ext.refl _⟩
end Go.Proofs.YtnldgmpfinlikaaGreat

/- The landed program's placeOf and Field of types, by their contracts. Conditions: none. -/
namespace Go.Proofs.YtnldgmpfinlikaaGreat
open Go Go.RowKit

/-- the place of the first type of that name; -1: there is none -/
def placeZ (name : ByteArray) (i : Nat) : List TZ → Int
  | [] => -1
  | t :: r => if t.n = name then (i : Int) else placeZ name (i + 1) r
theorem place_at {name : ByteArray} {L : List TZ} {i : Nat} (h : i < L.length) : placeZ name i (L.drop i) = if L[i].n = name then (i : Int) else placeZ name (i + 1) (L.drop (i + 1)) := by
  rw [List.drop_eq_getElem_cons h]
  rfl
theorem place_once {name : ByteArray} : ∀ (L : List TZ) (k i : Nat) (h : i < L.length), L[i].n = name → (∀ j (hj : j < i), (L[j]'(by omega)).n ≠ name) → placeZ name k L = ((k + i : Nat) : Int)
  | [], _, _, h, _, _ => absurd h (Nat.not_lt_zero _)
  | t :: r, k, 0, _, he, _ => if_pos he
  | t :: r, k, i + 1, h, he, ho => by
    have h0 : ¬ t.n = name := ho 0 (Nat.succ_pos _)
    have ih := place_once r (k + 1) i (Nat.lt_of_succ_lt_succ h) he (fun j hj => ho (j + 1) (Nat.succ_lt_succ hj))
    show (if t.n = name then (k : Int) else placeZ name (k + 1) r) = _
    rw [if_neg h0, ih]
    omega
theorem place_twice {name : ByteArray} : ∀ (L : List TZ) (k j : Nat) (h : j < L.length), L[j].n = name → placeZ name k L ≤ ((k + j : Nat) : Int) ∧ (k : Int) ≤ placeZ name k L
  | [], _, _, h, _ => absurd h (Nat.not_lt_zero _)
  | t :: r, k, j, h, he => by
    show (if t.n = name then (k : Int) else placeZ name (k + 1) r) ≤ _ ∧ _ ≤ (if t.n = name then (k : Int) else placeZ name (k + 1) r)
    by_cases h0 : t.n = name
    · rw [if_pos h0]; omega
    · rw [if_neg h0]
      cases j with
      | zero => exact absurd he h0
      | succ j =>
        have ih := place_twice r (k + 1) j (Nat.lt_of_succ_lt_succ h) he
        omega
/-- the first of that name stands ahead of this one just if one does -/
theorem place_first {L : List TZ} {i : Nat} (h : i < L.length) : (placeZ L[i].n 0 L ≠ (i : Int)) ↔ ∃ g ∈ L.take i, g.n = L[i].n := by
  constructor
  · intro hne
    refine Classical.byContradiction fun hno => hne ?_
    have := place_once (name := L[i].n) L 0 i h rfl (fun j hj e => hno (by
      exact ⟨L[j], List.mem_take_iff_getElem.2 ⟨j, by omega, rfl⟩, e⟩))
    rw [this, Nat.zero_add]
  · rintro ⟨g, hg, e⟩
    obtain ⟨j, hj, rfl⟩ := List.mem_take_iff_getElem.1 hg
    have := place_twice (name := L[i].n) L 0 j (by omega) e
    omega
theorem ateq_step {name : ByteArray} {k : Nat} {f : FZ} {r : List FZ} : (atZ name k (f :: r)) = if f.n = name then ((k : Int), f.k) else atZ name (k + 1) r := rfl
theorem at_once {name : ByteArray} : ∀ (L : List FZ) (k i : Nat) (h : i < L.length), L[i].n = name → (∀ j (hj : j < i), (L[j]'(by omega)).n ≠ name) → (atZ name k L).1 = ((k + i : Nat) : Int)
  | [], _, _, h, _, _ => absurd h (Nat.not_lt_zero _)
  | t :: r, k, 0, _, he, _ => by
    have he' : t.n = name := he
    rw [ateq_step, if_pos he']
    rfl
  | t :: r, k, i + 1, h, he, ho => by
    have h0 : ¬ t.n = name := ho 0 (Nat.succ_pos _)
    have ih := at_once r (k + 1) i (Nat.lt_of_succ_lt_succ h) he (fun j hj => ho (j + 1) (Nat.succ_lt_succ hj))
    rw [ateq_step, if_neg h0, ih]
    omega
theorem at_twice {name : ByteArray} : ∀ (L : List FZ) (k j : Nat) (h : j < L.length), L[j].n = name → (atZ name k L).1 ≤ ((k + j : Nat) : Int) ∧ (k : Int) ≤ (atZ name k L).1
  | [], _, _, h, _ => absurd h (Nat.not_lt_zero _)
  | t :: r, k, j, h, he => by
    rw [ateq_step]
    by_cases h0 : t.n = name
    · rw [if_pos h0]
      show (k : Int) ≤ _ ∧ _ ≤ (k : Int)
      omega
    · rw [if_neg h0]
      cases j with
      | zero => exact absurd he h0
      | succ j =>
        have ih := at_twice r (k + 1) j (Nat.lt_of_succ_lt_succ h) he
        omega
theorem at_first {L : List FZ} {i : Nat} (h : i < L.length) : ((atZ L[i].n 0 L).1 ≠ (i : Int)) ↔ ∃ g ∈ L.take i, g.n = L[i].n := by
  constructor
  · intro hne
    refine Classical.byContradiction fun hno => hne ?_
    have := at_once (name := L[i].n) L 0 i h rfl (fun j hj e => hno (by
      exact ⟨L[j], List.mem_take_iff_getElem.2 ⟨j, by omega, rfl⟩, e⟩))
    rw [this, Nat.zero_add]
  · rintro ⟨g, hg, e⟩
    obtain ⟨j, hj, rfl⟩ := List.mem_take_iff_getElem.1 hg
    have := at_twice (name := L[i].n) L 0 j (by omega) e
    omega

set_option maxHeartbeats 1000000 in
theorem splace1_any (nm name : ByteArray) (r : Value) (B : Nat) (w : World) (hc : w.cell? ⟨B, 0, none⟩ = some (.string name)) :
    Calls Tryz.prog 78 #[.agg #[.string nm, r], .pointer (some ⟨B, 0, none⟩)] w (Says w (.bool (nm.toList == name.toList))) := by
  have hcB : ∀ o, (w.alloc o).cell? ⟨B, 0, none⟩ = some (.string name) := fun o => (Ext.alloc w o).cell hc
  go_enter Tryz.func78, Tryz.ntmps78
  go_wp2_with fail
  go_ret
  exact ⟨rfl, Ext.alloc _ _⟩

set_option maxRecDepth 100000 in
set_option maxHeartbeats 4000000 in
theorem sindexf_any (L : List TZ) (v : Value) (name : ByteArray) (B : Nat) (w : World) (hv : TypesAt w v L) (hc : w.cell? ⟨B, 0, none⟩ = some (.string name)) :
    Calls Tryz.prog 26 #[v, .func (.func 78) #[] #[.pointer (some ⟨B, 0, none⟩)]] w (Says w (.int .i64 (placeZ name 0 L))) := by
  have HO := hid (show placeZ name 0 L = placeZ name 0 (L.drop 0) from rfl)
  generalize placeZ name 0 L = R at *
  have HV := hid hv
  have HC := hid hc
  obtain ⟨A, c, rfl, q1, q2, _⟩ := hv
  have hml : (L.length : Int) ≤ 9223372036854775807 := by unfold maxLen at q2; omega
  go_enter Tryz.func26, Tryz.ntmps26
  go_wp2_with fail
  go_loopw [8] (fun x wr => ∃ i : Nat, i ≤ L.length ∧ x = .int .i64 (i : Int) ∧ Hid (R = placeZ name i (L.drop i)) ∧ Ext w wr)
    (fun x _ => L.length - (intOf x).toNat)
  case atStart => exact ⟨0, by omega, rfl, hid HO.out, Ext.refl _⟩
  case round =>
    obtain ⟨i, hi, rfl, ho, hext⟩ := hrel
    have HE := hid hext
    clear hext
    by_cases hlt : i < L.length
    · obtain ⟨g, o, c', r, e1, _, _, d0, d1, hfr⟩ := (HV.out.ext HE.out).open_ hlt
      obtain ⟨rfl, rfl⟩ : A = some ⟨g, o, none⟩ ∧ c = c' := by simpa using e1
      have HAT := hid (place_at (name := name) hlt)
      generalize hT : L[i] = T at *
      obtain ⟨N, F⟩ := T
      dsimp only at *
      have kk := splace1_any N name r B wr (HE.out.cell HC.out)
      clear e1 hT hfr
      by_cases he : N = name
      · have HR := hid (ho.out.trans (HAT.out.trans (if_pos he)))
        have hb : (N.toList == name.toList) = true := beq_iff_eq.2 (by rw [he])
        rw [hb] at kk
        clear he
        go_wp2_with (go_at_call 78; refine kk.mono ?_; rintro e2 w2 ⟨rfl, hx⟩)
        go_ret
        exact ⟨by rw [HR.out]; rfl, HE.out.trans hx⟩
      · have HR := hid (ho.out.trans (HAT.out.trans (if_neg he)))
        have hb : (N.toList == name.toList) = false := beq_eq_false_iff_ne.2 (fun e => he ((list_ba N name).1 e))
        rw [hb] at kk
        clear he
        go_wp2_with (go_at_call 78; refine kk.mono ?_; rintro e2 w2 ⟨rfl, hx⟩)
        go_roundw
        case rel => exact ⟨i + 1, by omega, by go_num, HR, HE.out.trans hx⟩
        case measure => simp only [intOf]; omega
    · have hi' : i = L.length := by omega
      subst hi'
      go_wp2_with fail
      go_ret
      exact ⟨by rw [ho.out, List.drop_length]; rfl, HE.out⟩

set_option maxHeartbeats 1000000 in
theorem splace_any (L : List TZ) (v : Value) (name : ByteArray) (w : World) (hv : TypesAt w v L) :
    Calls Tryz.prog 61 #[v, .string name] w (Says w (.int .i64 (placeZ name 0 L))) := by
  have hmf : ∀ (fn : Fn) (first cap : Array Value) (w : World), (Instr.makeFunc fn first cap).run Tryz.prog w = .ok (.func fn first cap) w := fun _ _ _ _ => rfl
  have kk := sindexf_any L v name w.heap.size (w.alloc (.cells #[.string name] 9)) (hv.ext (Ext.alloc _ _)) (cell_of_row _ _ 0 _ _ _ (heap_alloc_new w _))
  go_enter Tryz.func61, Tryz.ntmps61
  go_wp2_with fail
  refine kk.mono ?_
  rintro e2 w2 ⟨rfl, hx⟩
  go_wp2_with fail
  go_ret
  exact ⟨rfl, (Ext.alloc _ _).trans hx⟩

set_option maxRecDepth 100000 in
set_option maxHeartbeats 4000000 in
theorem sfieldf_any (t : TZ) (r : Value) (name : ByteArray) (w : World) (hf : FieldsAt w r t.f) : Calls Tryz.prog 35 #[.agg #[.string t.n, r], .string name] w (SaysAt w (atZ name 0 t.f)) := by
  obtain ⟨nm, F⟩ := t
  dsimp only at *
  have HO := hid (show atZ name 0 F = atZ name 0 (F.drop 0) from rfl)
  generalize atZ name 0 F = R at *
  have HF := hid hf
  obtain ⟨A, c, rfl, q1, q2, _⟩ := hf
  have hml : (F.length : Int) ≤ 9223372036854775807 := by unfold maxLen at q2; omega
  go_enter Tryz.func35, Tryz.ntmps35
  go_wp2_with fail
  have HX := hid (Ext.alloc w (Obj.cells #[.string nm, .slice A F.length c] 68 (0, 0)))
  go_loopw [11] (fun x wr => ∃ i : Nat, i ≤ F.length ∧ x = .int .i64 (i : Int) ∧ Hid (R = atZ name i (F.drop i)) ∧ Ext (w.alloc (Obj.cells #[.string nm, .slice A F.length c] 68 (0, 0))) wr)
    (fun x _ => F.length - (intOf x).toNat)
  case atStart => exact ⟨0, by omega, rfl, hid HO.out, Ext.refl _⟩
  case round =>
    obtain ⟨i, hi, rfl, ho, hext⟩ := hrel
    have HE := hid hext
    clear hext
    by_cases hlt : i < F.length
    · obtain ⟨g, o, c', e1, _, _, d0, d1⟩ := ((HF.out.ext HX.out).ext HE.out).open_ hlt
      obtain ⟨rfl, rfl⟩ : A = some ⟨g, o, none⟩ ∧ c = c' := by simpa using e1
      have HAT := hid (at_at (name := name) hlt)
      generalize hT : F[i] = T at *
      obtain ⟨N, K⟩ := T
      dsimp only at *
      have HB := hid (heap_alloc_new wr (Obj.cells #[.string N, .int .u8 (K : Int)] 69 (0, 0)))
      obtain ⟨⟨b0, b1⟩, _, _⟩ := box2 HB.out
      clear e1 hT
      by_cases he : N = name
      · subst he
        have HR := hid (ho.out.trans (HAT.out.trans (if_pos rfl)))
        go_wp2_with fail
        go_quiet (fail)
        go_wp2_with fail
        go_ret2
        exact SaysAt.mk HR.out ((HX.out.trans (HE.out.then_alloc _)).trans (Ext.drewN _ _))
      · have HR := hid (ho.out.trans (HAT.out.trans (if_neg he)))
        have hb : (N.toList == name.toList) = false := beq_eq_false_iff_ne.2 (fun e => he ((list_ba N name).1 e))
        go_wp2_with fail
        go_roundw
        case rel => exact ⟨i + 1, by omega, by go_num, HR, HE.out.then_alloc _⟩
        case measure => simp only [intOf]; omega
    · have hi' : i = F.length := by omega
      subst hi'
      go_wp2_with fail
      go_ret2
      exact SaysAt.mk (k := 0) (by rw [ho.out, List.drop_length]; rfl) (HX.out.trans HE.out)
end Go.Proofs.YtnldgmpfinlikaaGreat

