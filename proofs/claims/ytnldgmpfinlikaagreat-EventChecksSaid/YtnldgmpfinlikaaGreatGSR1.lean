/- Several texts in one: SR1, SR2, SR3, SR6. Conditions: those of each. -/
import Derived.BigQuiet
import Derived.Test.YtnldgmpfinlikaaGreatBase
import Derived.Test.YtnldgmpfinlikaaGreatGRR1
/- The document's Reserved and Name, by their contracts. Conditions: none. -/
namespace Go.Proofs.YtnldgmpfinlikaaGreat
open Go Go.RowKit

def reservedV : List Value := reservedL.map .string
theorem reserved_at {i : Nat} {s : ByteArray} (h : reservedL[i]? = some s) : reservedZ s = true := decide_eq_true ⟨s, List.mem_of_getElem? h, rfl⟩
theorem reserved_none {s : ByteArray} (h : ∀ j, j < 10 → reservedL[j]? ≠ some s) : reservedZ s = false := by
  refine decide_eq_false fun ⟨r, hm, hr⟩ => ?_
  subst hr
  obtain ⟨j, hj, e⟩ := List.getElem_of_mem hm
  exact h j hj (by rw [List.getElem?_eq_getElem hj, e])

set_option maxHeartbeats 1000000 in
theorem rreserved_any (s : ByteArray) (w : World) : Calls Tryz.prog 93 #[.string s] w (Says w (.bool (reservedZ s))) := by
  go_enter Tryz.func93, Tryz.ntmps93
  go_wp2_with fail
  have HB := hid (heap_alloc_new w (Obj.cells reservedV.toArray 9 (0, 0)))
  go_loopw [4] (fun x wr => ∃ i : Nat, i ≤ 10 ∧ x = .int .i64 (i : Int) ∧ Hid (∀ j, j < i → reservedL[j]? ≠ some s) ∧ wr = w.alloc (Obj.cells reservedV.toArray 9 (0, 0)))
    (fun x _ => 10 - (intOf x).toNat)
  case atStart => exact ⟨0, by omega, rfl, hid (fun j h => by omega), rfl⟩
  case round =>
    obtain ⟨i, h1, rfl, ho, rfl⟩ := hrel
    by_cases h10 : i < 10
    · obtain ⟨S, hS⟩ : ∃ S, reservedL[i]? = some S := ⟨_, List.getElem?_eq_getElem h10⟩
      have hc : (w.alloc (Obj.cells reservedV.toArray 9 (0, 0))).cell? ⟨w.heap.size, i, none⟩ = some (.string S) := by
        rw [cell_of_row _ _ i _ _ _ HB.out]
        simp [reservedV, hS]
      have HS := hid hS
      clear hS
      by_cases he : S = s
      · subst he
        go_wp2_with fail
        go_ret
        exact ⟨by rw [reserved_at HS.out]; rfl, Ext.alloc _ _⟩
      · have hb : (S.toList == s.toList) = false := beq_eq_false_iff_ne.2 (fun e => he ((list_ba S s).1 e))
        go_wp2_with fail
        go_roundw
        case rel => exact ⟨i + 1, by omega, by go_num, hid (fun j g => by
          by_cases hj : j = i
          · subst hj; rw [HS.out]; exact fun e => he (Option.some.inj e)
          · exact ho.out j (by omega)), trivial⟩
        case measure => simp only [intOf]; omega
    · have hi : i = 10 := by omega
      subst hi
      go_wp2_with fail
      go_ret
      exact ⟨by rw [reserved_none ho.out]; rfl, Ext.alloc _ _⟩

theorem letters_step {i : Nat} {b : UInt8} {r : List UInt8} : lettersZ i (b :: r) = (letterZ i b.toNat && lettersZ (i + 1) r) := rfl
theorem letters_at {s : ByteArray} {i : Nat} (h : i < s.size) : lettersZ i (s.data.toList.drop i) = (letterZ i (s[i]'h).toNat && lettersZ (i + 1) (s.data.toList.drop (i + 1))) := by
  rw [List.drop_eq_getElem_cons (by rw [size_toList]; exact h), letters_step]
  rfl
theorem letters_last {s : ByteArray} : lettersZ s.size (s.data.toList.drop s.size) = true := by
  rw [List.drop_of_length_le (by rw [size_toList]; exact Nat.le_refl _)]
  rfl
theorem letter_of {i b : Nat} {r : Bool} (h : r = true ↔ (97 ≤ b ∧ b ≤ 122) ∨ (i ≠ 0 ∧ ((48 ≤ b ∧ b ≤ 57) ∨ b = 95))) : letterZ i b = r := by
  rw [Bool.eq_iff_iff, h]
  exact decide_eq_true_iff

theorem byte_ways (b : Nat) : ((97 : Int) ≤ (b : Int) ∧ (b : Int) ≤ 122) ∨ ((48 : Int) ≤ (b : Int) ∧ (b : Int) ≤ 57) ∨ (b : Int) = 95 ∨ ((b : Int) < 48 ∧ (b : Int) < 97) ∨ ((57 : Int) < (b : Int) ∧ (b : Int) < 97 ∧ (b : Int) ≠ 95) ∨ (122 : Int) < (b : Int) := by omega

set_option maxHeartbeats 4000000 in
theorem rname_any (s : ByteArray) (w : World) (hs : s.size ≤ 9223372036854775807) : Calls Tryz.prog 81 #[.string s] w (Says w (.bool (nameZ s))) := by
  have hr := fun W => rreserved_any s W
  have hn : nameZ s = (decide (1 ≤ s.size ∧ s.size ≤ 12) && !reservedZ s && lettersZ 0 s.data.toList) := rfl
  generalize nameZ s = R at *
  by_cases h1 : s.size < 1
  · rw [decide_eq_false (by omega), Bool.false_and, Bool.false_and] at hn
    subst hn
    have h1' : (s.size : Int) < 1 := by omega
    clear h1 hr
    go_enter Tryz.func81, Tryz.ntmps81
    go_wp2_with fail
    go_ret
    exact ⟨rfl, Ext.refl _⟩
  · by_cases h12 : 12 < s.size
    · rw [decide_eq_false (by omega), Bool.false_and, Bool.false_and] at hn
      subst hn
      have h1' : ¬ (s.size : Int) < 1 := by omega
      have h12' : 12 < (s.size : Int) := by omega
      clear h1 hr h12
      go_enter Tryz.func81, Tryz.ntmps81
      go_wp2_with fail
      go_ret
      exact ⟨rfl, Ext.refl _⟩
    · rw [decide_eq_true (by omega), Bool.true_and] at hn
      have h1' : ¬ (s.size : Int) < 1 := by omega
      have h12' : ¬ 12 < (s.size : Int) := by omega
      generalize reservedZ s = Q at *
      cases Q
      · rw [Bool.not_false, Bool.true_and] at hn
        have HN := hid hn
        clear hn
        go_enter Tryz.func81, Tryz.ntmps81
        go_wp2_with fail
        refine (hr _).mono ?_
        rintro e w1 ⟨rfl, hx⟩
        have HX := hid hx
        clear hx hr
        go_wp2_with fail
        go_loopw [3] (fun x wr => ∃ i : Nat, i ≤ s.size ∧ x = .int .i64 (i : Int) ∧ Hid (R = lettersZ i (s.data.toList.drop i)) ∧ wr = w1)
          (fun x _ => s.size - (intOf x).toNat)
        case atStart => exact ⟨0, by omega, rfl, hid HN.out, rfl⟩
        case round =>
          obtain ⟨i, hi, rfl, ho, rfl⟩ := hrel
          by_cases hlt : i < s.size
          · have hat := hid (letters_at hlt)
            rcases byte_ways (s[i]'hlt).toNat with ⟨b0, b1⟩ | ⟨b0, b1⟩ | b0 | ⟨b0, b1⟩ | ⟨b0, b1, b2⟩ | b0
            · go_wp2_with fail
              go_roundw
              case rel => exact ⟨i + 1, by omega, by go_num, hid (by rw [ho.out, hat.out, letter_of (r := true) (by simp only [true_iff]; omega), Bool.true_and]), trivial⟩
              case measure => simp only [intOf]; omega
            · by_cases z : i = 0
              · subst z
                go_wp2_with fail
                go_ret
                exact ⟨by rw [ho.out, hat.out, letter_of (r := false) (by simp only [Bool.false_eq_true, false_iff]; omega), Bool.false_and]; rfl, HX.out⟩
              · have z' : ((i : Int) == 0) = false := beq_eq_false_iff_ne.2 (by omega)
                go_wp2_with fail
                go_roundw
                case rel => exact ⟨i + 1, by omega, by go_num, hid (by rw [ho.out, hat.out, letter_of (r := true) (by simp only [true_iff]; omega), Bool.true_and]), trivial⟩
                case measure => simp only [intOf]; omega
            · by_cases z : i = 0
              · subst z
                go_wp2_with fail
                go_ret
                exact ⟨by rw [ho.out, hat.out, letter_of (r := false) (by simp only [Bool.false_eq_true, false_iff]; omega), Bool.false_and]; rfl, HX.out⟩
              · have z' : ((i : Int) == 0) = false := beq_eq_false_iff_ne.2 (by omega)
                have b9 : (((s[i]'hlt).toNat : Int) == 95) = true := beq_iff_eq.2 (by omega)
                go_wp2_with fail
                go_roundw
                case rel => exact ⟨i + 1, by omega, by go_num, hid (by rw [ho.out, hat.out, letter_of (r := true) (by simp only [true_iff]; omega), Bool.true_and]), trivial⟩
                case measure => simp only [intOf]; omega
            · have b9 : (((s[i]'hlt).toNat : Int) == 95) = false := beq_eq_false_iff_ne.2 (by omega)
              by_cases z : i = 0
              · subst z
                go_wp2_with fail
                go_ret
                exact ⟨by rw [ho.out, hat.out, letter_of (r := false) (by simp only [Bool.false_eq_true, false_iff]; omega), Bool.false_and]; rfl, HX.out⟩
              · have z' : ((i : Int) == 0) = false := beq_eq_false_iff_ne.2 (by omega)
                go_wp2_with fail
                go_ret
                exact ⟨by rw [ho.out, hat.out, letter_of (r := false) (by simp only [Bool.false_eq_true, false_iff]; omega), Bool.false_and]; rfl, HX.out⟩
            · have b9 : (((s[i]'hlt).toNat : Int) == 95) = false := beq_eq_false_iff_ne.2 (by omega)
              have d57 : decide (((s[i]'hlt).toNat : Int) ≤ 57) = false := decide_eq_false (by omega)
              by_cases z : i = 0
              · subst z
                go_wp2_with fail
                go_ret
                exact ⟨by rw [ho.out, hat.out, letter_of (r := false) (by simp only [Bool.false_eq_true, false_iff]; omega), Bool.false_and]; rfl, HX.out⟩
              · have z' : ((i : Int) == 0) = false := beq_eq_false_iff_ne.2 (by omega)
                go_wp2_with fail
                go_ret
                exact ⟨by rw [ho.out, hat.out, letter_of (r := false) (by simp only [Bool.false_eq_true, false_iff]; omega), Bool.false_and]; rfl, HX.out⟩
            · have b9 : (((s[i]'hlt).toNat : Int) == 95) = false := beq_eq_false_iff_ne.2 (by omega)
              have d57 : decide (((s[i]'hlt).toNat : Int) ≤ 57) = false := decide_eq_false (by omega)
              have d122 : decide (((s[i]'hlt).toNat : Int) ≤ 122) = false := decide_eq_false (by omega)
              by_cases z : i = 0
              · subst z
                go_wp2_with fail
                go_ret
                exact ⟨by rw [ho.out, hat.out, letter_of (r := false) (by simp only [Bool.false_eq_true, false_iff]; omega), Bool.false_and]; rfl, HX.out⟩
              · have z' : ((i : Int) == 0) = false := beq_eq_false_iff_ne.2 (by omega)
                go_wp2_with fail
                go_ret
                exact ⟨by rw [ho.out, hat.out, letter_of (r := false) (by simp only [Bool.false_eq_true, false_iff]; omega), Bool.false_and]; rfl, HX.out⟩
          · have hi' : i = s.size := by omega
            subst hi'
            go_wp2_with fail
            go_ret
            exact ⟨by rw [ho.out, letters_last]; rfl, HX.out⟩
      · subst hn
        go_enter Tryz.func81, Tryz.ntmps81
        go_wp2_with fail
        refine (hr _).mono ?_
        rintro e w1 ⟨rfl, hx⟩
        go_wp2_with fail
        go_ret
        exact ⟨rfl, hx⟩
end Go.Proofs.YtnldgmpfinlikaaGreat

/- The document's one and Check of types, by their contracts. Conditions: numbers within their kinds. -/
namespace Go.Proofs.YtnldgmpfinlikaaGreat
open Go Go.RowKit

def FieldOk (f : FZ) : Prop := f.n.size ≤ 9223372036854775807 ∧ f.k ≤ 255
def FieldsOk (F : List FZ) : Prop := ∀ f ∈ F, FieldOk f
def TypeOk (t : TZ) : Prop := t.n.size ≤ 9223372036854775807 ∧ FieldsOk t.f
def TypesOk (L : List TZ) : Prop := ∀ t ∈ L, TypeOk t

theorem FieldsAt.open_ {w : World} {v : Value} {F : List FZ} (h : FieldsAt w v F) {i : Nat} (hi : i < F.length) :
    ∃ g o c, v = .slice (some ⟨g, o, none⟩) F.length c ∧ F.length ≤ c ∧ c ≤ maxLen ∧ w.cell? ⟨g, o + i * 2, none⟩ = some (.string F[i].n) ∧ w.cell? ⟨g, o + i * 2 + 1, none⟩ = some (.int .u8 (F[i].k : Int)) := by
  obtain ⟨A, c, rfl, h1, h2, h3⟩ := h
  obtain ⟨g, o, rfl, q1, q2⟩ := h3 i hi
  exact ⟨g, o, c, rfl, h1, h2, q1, q2⟩

theorem fields_at {F : List FZ} {i : Nat} (h : i < F.length) : fieldsZ (F.take i) (F.drop i) =
    if nameZ F[i].n = false then 4 else if F[i].k < 1 ∨ 4 < F[i].k then 11 else if ∃ g ∈ F.take i, g.n = F[i].n then 21 else fieldsZ (F.take (i + 1)) (F.drop (i + 1)) := by
  rw [List.drop_eq_getElem_cons h, List.take_succ_eq_append_getElem h]
  rfl
theorem fields_twice {F : List FZ} {i : Nat} (hi : i < F.length) (j : Nat) (hj : j < i) (h : F[j].n = F[i].n) : ∃ g ∈ F.take i, g.n = F[i].n :=
  ⟨F[j], List.mem_take_iff_getElem.2 ⟨j, by omega, rfl⟩, h⟩
theorem fields_once {F : List FZ} {i : Nat} (hi : i < F.length) (h : ∀ j (hj : j < i), F[j].n ≠ F[i].n) : ¬ ∃ g ∈ F.take i, g.n = F[i].n := by
  rintro ⟨g, hg, e⟩
  obtain ⟨j, hj, rfl⟩ := List.mem_take_iff_getElem.1 hg
  exact h j (by omega) e
theorem word_some {k : Nat} (h : ¬ (k < 1 ∨ 4 < k)) : ((wordV k).toList == ([] : List UInt8)) = false := by
  have : k = 1 ∨ k = 2 ∨ k = 3 ∨ k = 4 := by omega
  rw [ByteArray.toList_eq]
  rcases this with rfl | rfl | rfl | rfl <;> rfl
theorem word_size {k : Nat} (h : ¬ (k < 1 ∨ 4 < k)) : (wordV k).toList.isEmpty = false := by
  have : k = 1 ∨ k = 2 ∨ k = 3 ∨ k = 4 := by omega
  rw [ByteArray.toList_eq]
  rcases this with rfl | rfl | rfl | rfl <;> rfl
theorem word_none {k : Nat} (h : k < 1 ∨ 4 < k) : wordV k = noText := by
  unfold wordV
  rw [if_neg (by omega), if_neg (by omega), if_neg (by omega), if_neg (by omega)]

set_option maxRecDepth 100000 in
set_option maxHeartbeats 4000000 in
theorem rone_any (t : TZ) (r : Value) (w : World) (hf : FieldsAt w r t.f) (hok : TypeOk t) : Calls Tryz.prog 65 #[.agg #[.string t.n, r]] w (Says w (.int .i64 (oneZ t))) := by
  obtain ⟨nm, F⟩ := t
  obtain ⟨hn, hF⟩ := hok
  dsimp only at *
  have kn := fun W => rname_any nm W hn
  have ho : oneZ ⟨nm, F⟩ = if nameZ nm = false then 4 else if 6 < F.length then 5 else fieldsZ [] F := rfl
  generalize oneZ ⟨nm, F⟩ = R at *
  have HF := hid hf
  obtain ⟨A, c, rfl, q1, q2, _⟩ := hf
  cases hN : nameZ nm
  · rw [hN] at kn
    rw [if_pos hN] at ho
    subst ho
    clear hN
    go_enter Tryz.func65, Tryz.ntmps65
    go_wp2_with fail
    refine (kn _).mono ?_
    rintro e w1 ⟨rfl, hx⟩
    go_wp2_with fail
    go_ret
    exact ⟨rfl, (Ext.alloc _ _).trans hx⟩
  · rw [hN] at kn
    rw [if_neg (by rw [hN]; decide)] at ho
    clear hN
    by_cases h6 : 6 < F.length
    · rw [if_pos h6] at ho
      subst ho
      have h6' : 6 < (F.length : Int) := by omega
      go_enter Tryz.func65, Tryz.ntmps65
      go_wp2_with fail
      refine (kn _).mono ?_
      rintro e w1 ⟨rfl, hx⟩
      have HV := hid (hx.block (heap_alloc_new w _))
      have HX := hid ((Ext.alloc w _).trans hx)
      clear hx
      have hb1 : w1.cell? ⟨w.heap.size, 1, none⟩ = _ := cell_of_row _ _ 1 _ _ _ HV.out
      go_wp2_with fail
      go_ret
      exact ⟨rfl, HX.out⟩
    · rw [if_neg h6] at ho
      have h6' : ¬ 6 < (F.length : Int) := by omega
      have HO := hid ho
      clear ho
      go_enter Tryz.func65, Tryz.ntmps65
      go_wp2_with fail
      refine (kn _).mono ?_
      rintro e w1 ⟨rfl, hx⟩
      have HV := hid (hx.block (heap_alloc_new w _))
      have HX := hid ((Ext.alloc w _).trans hx)
      clear hx
      have hb1 : w1.cell? ⟨w.heap.size, 1, none⟩ = _ := cell_of_row _ _ 1 _ _ _ HV.out
      go_wp2_with fail
      go_loopw [3] (fun x wr => ∃ i : Nat, i ≤ F.length ∧ x = .int .i64 (i : Int) ∧ Hid (R = fieldsZ (F.take i) (F.drop i)) ∧ Ext w1 wr)
        (fun x _ => F.length - (intOf x).toNat)
      case atStart => exact ⟨0, by omega, rfl, hid HO.out, Ext.refl _⟩
      case round =>
        obtain ⟨i, hi, rfl, ho, hext⟩ := hrel
        have HE := hid hext
        have hb1r : wr.cell? ⟨w.heap.size, 1, none⟩ = _ := hext.cell hb1
        clear hext
        by_cases hlt : i < F.length
        · obtain ⟨g, o, c', e1, _, _, d0, d1⟩ := ((HF.out.ext HX.out).ext HE.out).open_ hlt
          obtain ⟨rfl, rfl⟩ : A = some ⟨g, o, none⟩ ∧ c = c' := by simpa using e1
          have kf := fun W => rname_any F[i].n W (hF _ (List.getElem_mem hlt)).1
          have kw := fun W => rword4_any F[i].k W
          have HAT := hid (fields_at hlt)
          have HM : Hid (∀ j (hj : j < i), ∃ d, F[j]? = some d ∧ F[j].n = d.n) := hid (fun j hj => ⟨_, List.getElem?_eq_getElem (by omega), rfl⟩)
          have HTW := hid (@fields_twice F i hlt)
          have HON := hid (@fields_once F i hlt)
          generalize hN : F[i].n = N at *
          generalize hK : F[i].k = K at *
          go_wp2_with fail
          refine (kf _).mono ?_
          rintro e w2 ⟨rfl, hx⟩
          have HFB := hid (hx.block (heap_alloc_new wr _))
          have HE2 := hid ((HE.out.then_alloc _).trans hx)
          clear hx kf
          have hb1s : w2.cell? ⟨w.heap.size, 1, none⟩ = _ := HE2.out.cell hb1
          have f0 : w2.cell? ⟨wr.heap.size, 0, none⟩ = _ := cell_of_row _ _ 0 _ _ _ HFB.out
          have f1 : w2.cell? ⟨wr.heap.size, 1, none⟩ = _ := cell_of_row _ _ 1 _ _ _ HFB.out
          cases hNm : nameZ N
          · have HR := hid (ho.out.trans (HAT.out.trans (if_pos hNm)))
            go_wp2_with fail
            go_ret
            exact ⟨by rw [HR.out]; rfl, HX.out.trans HE2.out⟩
          · have HR1 := hid (ho.out.trans (HAT.out.trans (if_neg (by rw [hNm]; decide))))
            clear hNm
            go_wp2_with fail
            refine (kw _).mono ?_
            rintro e w3 ⟨rfl, hx⟩
            replace HE2 := hid (HE2.out.trans hx)
            replace HFB := hid (hx.block HFB.out)
            clear hx kw hb1s f0 f1
            have hb1s : w3.cell? ⟨w.heap.size, 1, none⟩ = some (.slice (some ⟨g, o, none⟩) F.length c) := HE2.out.cell hb1
            have f0 : w3.cell? ⟨wr.heap.size, 0, none⟩ = some (.string N) := cell_of_row _ _ 0 _ _ _ HFB.out
            by_cases hk : K < 1 ∨ 4 < K
            · have HR := hid (HR1.out.trans (if_pos hk))
              rw [word_none hk]
              have hz : noText.toList.isEmpty = true := by rw [ByteArray.toList_eq]; rfl
              clear hk
              go_wp2_with fail
              go_ret
              exact ⟨by rw [HR.out]; rfl, HX.out.trans HE2.out⟩
            · have HR := hid (HR1.out.trans (if_neg hk))
              have hw0 := word_some hk
              have hw1 := word_size hk
              clear hk
              generalize wordV K = S at *
              go_wp2_with fail
              obtain ⟨B, hB⟩ : ∃ B, B = wr.heap.size := ⟨_, rfl⟩
              rw [← hB] at f0 HFB ⊢
              clear hB
              go_loopw [5] (fun y wq => ∃ j : Nat, j ≤ i ∧ y = .int .i64 (j : Int) ∧ Hid (∀ j' (h : j' < j) (hj : j' < F.length), F[j'].n ≠ N) ∧ Ext w3 wq)
                (fun y _ => i - (intOf y).toNat)
              case atStart => exact ⟨0, by omega, rfl, hid (fun j' h => absurd h (Nat.not_lt_zero _)), Ext.refl _⟩
              case round =>
                obtain ⟨j, hj, rfl, hno, hextq⟩ := hrel
                have HQ := hid hextq
                have hb1t : wr.cell? ⟨w.heap.size, 1, none⟩ = some (.slice (some ⟨g, o, none⟩) F.length c) := hextq.cell hb1s
                have f0t : wr.cell? ⟨B, 0, none⟩ = some (.string N) := hextq.cell f0
                clear hextq
                by_cases hjl : j < i
                · obtain ⟨g', o', c', e1, _, _, d0', _⟩ := (((HF.out.ext HX.out).ext HE2.out).ext HQ.out).open_ (show j < F.length by omega)
                  obtain ⟨⟨rfl, rfl⟩, rfl⟩ : (g = g' ∧ o = o') ∧ c = c' := by simpa using e1
                  have hjF : j < F.length := by omega
                  have HJ := hid (HTW.out j hjl)
                  generalize hM : F[j].n = M at *
                  have HMM := hid hM
                  clear hM e1
                  by_cases he : M = N
                  · subst he
                    have HR9 := hid (HR.out.trans (if_pos (HJ.out rfl)))
                    go_wp2_with fail
                    go_quiet (fail)
                    go_wp2_with fail
                    go_ret
                    exact ⟨by rw [HR9.out]; rfl, ((HX.out.trans HE2.out).trans HQ.out).trans (Ext.drewN _ _)⟩
                  · have hb : (M.toList == N.toList) = false := beq_eq_false_iff_ne.2 (fun e => he ((list_ba M N).1 e))
                    go_wp2_with fail
                    go_quiet (fail)
                    go_wp2_with fail
                    go_roundw
                    case rel => exact ⟨j + 1, by omega, by go_num, hid (fun j' h g => by
                      by_cases e : j' = j
                      · subst e; rw [HMM.out]; exact he
                      · exact hno.out j' (by omega) g), HQ.out.trans (Ext.drewN _ _)⟩
                    case measure => simp only [intOf]; omega
                · have hj' : j = i := by omega
                  subst hj'
                  go_wp2_with fail
                  go_roundw
                  case rel => exact ⟨j + 1, by omega, by go_num, hid (HR.out.trans (if_neg (HON.out (fun j' h => hno.out j' h (by omega))))), HE2.out.trans HQ.out⟩
                  case measure => simp only [intOf]; omega
        · have hi' : i = F.length := by omega
          subst hi'
          go_wp2_with fail
          go_ret
          exact ⟨by rw [ho.out, List.drop_length]; rfl, HX.out.trans HE.out⟩

theorem types_at {L : List TZ} {i : Nat} (h : i < L.length) : typesZ (L.take i) (L.drop i) =
    if oneZ L[i] ≠ 0 then oneZ L[i] else if ∃ g ∈ L.take i, g.n = L[i].n then 21 else typesZ (L.take (i + 1)) (L.drop (i + 1)) := by
  rw [List.drop_eq_getElem_cons h, List.take_succ_eq_append_getElem h]
  rfl
theorem types_twice {L : List TZ} {i : Nat} (hi : i < L.length) (j : Nat) (hj : j < i) (h : L[j].n = L[i].n) : ∃ g ∈ L.take i, g.n = L[i].n :=
  ⟨L[j], List.mem_take_iff_getElem.2 ⟨j, by omega, rfl⟩, h⟩
theorem types_once {L : List TZ} {i : Nat} (hi : i < L.length) (h : ∀ j (hj : j < i), L[j].n ≠ L[i].n) : ¬ ∃ g ∈ L.take i, g.n = L[i].n := by
  rintro ⟨g, hg, e⟩
  obtain ⟨j, hj, rfl⟩ := List.mem_take_iff_getElem.1 hg
  exact h j (by omega) e
theorem TypesAt.open_ {w : World} {v : Value} {L : List TZ} (h : TypesAt w v L) {i : Nat} (hi : i < L.length) :
    ∃ g o c r, v = .slice (some ⟨g, o, none⟩) L.length c ∧ L.length ≤ c ∧ c ≤ maxLen ∧ w.cell? ⟨g, o + i * 2, none⟩ = some (.string L[i].n) ∧ w.cell? ⟨g, o + i * 2 + 1, none⟩ = some r ∧ FieldsAt w r L[i].f := by
  obtain ⟨A, c, rfl, h1, h2, h3⟩ := h
  obtain ⟨g, o, r, rfl, q1, q2, q3⟩ := h3 i hi
  exact ⟨g, o, c, r, rfl, h1, h2, q1, q2, q3⟩

set_option maxRecDepth 100000 in
set_option maxHeartbeats 4000000 in
theorem rchecks_any (L : List TZ) (v : Value) (w : World) (hv : TypesAt w v L) (hok : TypesOk L) : Calls Tryz.prog 41 #[v] w (Says w (.int .i64 (checkZ L))) := by
  have ho : checkZ L = if 8 < L.length then 5 else typesZ [] L := rfl
  generalize checkZ L = R at *
  have HV := hid hv
  obtain ⟨A, c, rfl, q1, q2, _⟩ := hv
  by_cases h8 : 8 < L.length
  · rw [if_pos h8] at ho
    subst ho
    have h8' : 8 < (L.length : Int) := by omega
    go_enter Tryz.func41, Tryz.ntmps41
    go_wp2_with fail
    go_ret
    exact ⟨rfl, Ext.refl _⟩
  · rw [if_neg h8] at ho
    have h8' : ¬ 8 < (L.length : Int) := by omega
    have HO := hid ho
    clear ho
    go_enter Tryz.func41, Tryz.ntmps41
    go_wp2_with fail
    go_loopw [3] (fun x wr => ∃ i : Nat, i ≤ L.length ∧ x = .int .i64 (i : Int) ∧ Hid (R = typesZ (L.take i) (L.drop i)) ∧ Ext w wr)
      (fun x _ => L.length - (intOf x).toNat)
    case atStart => exact ⟨0, by omega, rfl, hid HO.out, Ext.refl _⟩
    case round =>
      obtain ⟨i, hi, rfl, ho, hext⟩ := hrel
      have HE := hid hext
      clear hext
      by_cases hlt : i < L.length
      · obtain ⟨g, o, c', r, e1, _, _, d0, d1, hfr⟩ := (HV.out.ext HE.out).open_ hlt
        obtain ⟨rfl, rfl⟩ : A = some ⟨g, o, none⟩ ∧ c = c' := by simpa using e1
        have kf := fun W (h : Ext wr W) => rone_any L[i] r W (hfr.ext h) (hok _ (List.getElem_mem hlt))
        have HAT := hid (types_at hlt)
        have HTW := hid (@types_twice L i hlt)
        have HON := hid (@types_once L i hlt)
        generalize hN : L[i].n = N at *
        have HN := hid hN
        generalize oneZ L[i] = Q at *
        clear e1 hN hfr
        go_wp2_with fail
        refine (kf _ (Ext.refl _)).mono ?_
        rintro e w2 ⟨rfl, hx⟩
        have d0' : w2.cell? ⟨g, o + i * 2, none⟩ = some (.string N) := hx.cell d0
        replace HE := hid (HE.out.trans hx)
        clear hx kf d0 d1
        by_cases hQ : Q = 0
        · subst hQ
          have HR := hid (ho.out.trans (HAT.out.trans (if_neg (fun h => h rfl))))
          go_wp2_with fail
          go_loopw [5] (fun y wq => ∃ j : Nat, j ≤ i ∧ y = .int .i64 (j : Int) ∧ Hid (∀ j' (h : j' < j) (hj : j' < L.length), L[j'].n ≠ N) ∧ Ext w2 wq)
            (fun y _ => i - (intOf y).toNat)
          case atStart => exact ⟨0, by omega, rfl, hid (fun j' h => absurd h (Nat.not_lt_zero _)), Ext.refl _⟩
          case round =>
            obtain ⟨j, hj, rfl, hno, hextq⟩ := hrel
            have HQ := hid hextq
            have d0t : wr.cell? ⟨g, o + i * 2, none⟩ = some (.string N) := hextq.cell d0'
            clear hextq
            by_cases hjl : j < i
            · have hjF : j < L.length := by omega
              obtain ⟨g', o', c', r', e1, _, _, d0', _, _⟩ := ((HV.out.ext HE.out).ext HQ.out).open_ hjF
              obtain ⟨⟨rfl, rfl⟩, rfl⟩ : (g = g' ∧ o = o') ∧ c = c' := by simpa using e1
              have HJ := hid (HTW.out j hjl)
              generalize hM : L[j].n = M at *
              have HMM := hid hM
              clear hM e1
              by_cases he : M = N
              · subst he
                have HR9 := hid (HR.out.trans (if_pos (HJ.out rfl)))
                go_wp2_with fail
                go_quiet (fail)
                go_wp2_with fail
                go_ret
                exact ⟨by rw [HR9.out]; rfl, (HE.out.trans HQ.out).trans (Ext.drewN _ _)⟩
              · have hb : (M.toList == N.toList) = false := beq_eq_false_iff_ne.2 (fun e => he ((list_ba M N).1 e))
                go_wp2_with fail
                go_quiet (fail)
                go_wp2_with fail
                go_roundw
                case rel => exact ⟨j + 1, by omega, by go_num, hid (fun j' h g => by
                  by_cases e : j' = j
                  · subst e; rw [HMM.out]; exact he
                  · exact hno.out j' (by omega) g), HQ.out.trans (Ext.drewN _ _)⟩
                case measure => simp only [intOf]; omega
            · have hj' : j = i := by omega
              subst hj'
              go_wp2_with fail
              go_roundw
              case rel => exact ⟨j + 1, by omega, by go_num, hid (HR.out.trans (if_neg (HON.out (fun j' h => hno.out j' h (by omega))))), HE.out.trans HQ.out⟩
              case measure => simp only [intOf]; omega
        · have HR := hid (ho.out.trans (HAT.out.trans (if_pos hQ)))
          have hq : (Q != 0) = true := bne_iff_ne.2 hQ
          clear hQ
          go_wp2_with fail
          go_ret
          exact ⟨by rw [HR.out]; rfl, HE.out⟩
      · have hi' : i = L.length := by omega
        subst hi'
        go_wp2_with fail
        go_ret
        exact ⟨by rw [ho.out, List.drop_length]; rfl, HE.out⟩
end Go.Proofs.YtnldgmpfinlikaaGreat

/- The document's Find, At, Fits of types, by their contracts. Conditions: numbers within their kinds. -/
namespace Go.Proofs.YtnldgmpfinlikaaGreat
open Go Go.RowKit

/-- a type is told, and whether -/
def SaysTy (w : World) (t : TZ × Bool) (e : Ending) (w' : World) : Prop := ∃ v, e = .returned (.tuple #[v, .bool t.2]) ∧ TypeV w' v t.1 ∧ Ext w w'
theorem set2 {x : World} {g : Nat} {u0 u1 a b : Value} {t : TypeId} (h : x.heap[g]? = some (.cells #[u0, u1] t (0, 0))) :
    ((x.setCell ⟨g, 0, none⟩ a).setCell ⟨g, 1, none⟩ b).heap[g]? = some (.cells #[a, b] t (0, 0)) := by
  have h1 := heap_setCell_same x g 0 _ t a h
  have h2 := heap_setCell_same _ g 1 _ t b h1
  simpa using h2
theorem box2 {w1 : World} {g : Nat} {a b : Value} {t : TypeId} (h : w1.heap[g]? = some (.cells #[a, b] t (0, 0))) :
    (w1.cell? ⟨g, 0, none⟩ = some a ∧ w1.cell? ⟨g, 1, none⟩ = some b) ∧ (w1.frozen? ⟨g, 0, none⟩ = false ∧ w1.frozen? ⟨g, 1, none⟩ = false) ∧ g < w1.heap.size :=
  ⟨⟨cell_of_row _ _ 0 _ _ _ h, cell_of_row _ _ 1 _ _ _ h⟩, ⟨frozen_of_row _ _ 0 _ _ h, frozen_of_row _ _ 1 _ _ h⟩, (Array.getElem?_eq_some_iff.1 h).1⟩

theorem find_at {name : ByteArray} {L : List TZ} {i : Nat} (h : i < L.length) : findZ name (L.drop i) = if L[i].n = name then (L[i], true) else findZ name (L.drop (i + 1)) := by
  rw [List.drop_eq_getElem_cons h]
  rfl

set_option maxRecDepth 100000 in
set_option maxHeartbeats 4000000 in
theorem rfinds_any (L : List TZ) (v : Value) (name : ByteArray) (w : World) (hv : TypesAt w v L) : Calls Tryz.prog 36 #[v, .string name] w (SaysTy w (findZ name L)) := by
  have HO := hid (show findZ name L = findZ name (L.drop 0) from rfl)
  generalize findZ name L = R at *
  have HV := hid hv
  obtain ⟨A, c, rfl, q1, q2, _⟩ := hv
  have hml : (L.length : Int) ≤ 9223372036854775807 := by unfold maxLen at q2; omega
  go_enter Tryz.func36, Tryz.ntmps36
  go_wp2_with fail
  have HB := hid (heap_alloc_new w (Obj.cells #[.string noText, .slice none 0 0] 62 (0, 0)))
  have HX := hid (Ext.alloc w (Obj.cells #[.string noText, .slice none 0 0] 62 (0, 0)))
  obtain ⟨⟨b0, b1⟩, ⟨m0, m1⟩, z0⟩ := box2 HB.out
  go_loopw [6] (fun x wr => ∃ i : Nat, i ≤ L.length ∧ x = .int .i64 (i : Int) ∧ Hid (R = findZ name (L.drop i)) ∧ wr = w.alloc (Obj.cells #[.string noText, .slice none 0 0] 62 (0, 0)))
    (fun x _ => L.length - (intOf x).toNat)
  case atStart => exact ⟨0, by omega, rfl, hid HO.out, rfl⟩
  case round =>
    obtain ⟨i, hi, rfl, ho, rfl⟩ := hrel
    by_cases hlt : i < L.length
    · obtain ⟨g, o, c', r, e1, _, _, d0', d1', hfr⟩ := HV.out.open_ hlt
      have d0 := HX.out.cell d0'
      have d1 := HX.out.cell d1'
      obtain ⟨rfl, rfl⟩ : A = some ⟨g, o, none⟩ ∧ c = c' := by simpa using e1
      have HAT := hid (find_at (name := name) hlt)
      have HF := hid hfr
      generalize hT : L[i] = T at *
      obtain ⟨N, F⟩ := T
      dsimp only at *
      obtain ⟨A2, c2, rfl, _, _, _⟩ := hfr
      clear e1 hT d0' d1'
      by_cases he : N = name
      · subst he
        have HR := hid (ho.out.trans (HAT.out.trans (if_pos rfl)))
        go_wp2_with fail
        refine bodyPost_ret (ret_cell_tmp rfl _ _ w.heap.size 62 _ (0, 0) _ rfl (heap_alloc_new w _) Tryz.underlying62 rfl (by kernel_rfl)) rfl ?_
        rw [HR.out]
        exact ⟨_, rfl, ⟨_, rfl, HF.out.ext (Ext.alloc _ _)⟩, Ext.alloc _ _⟩
      · have HR := hid (ho.out.trans (HAT.out.trans (if_neg he)))
        have hb : (N.toList == name.toList) = false := beq_eq_false_iff_ne.2 (fun e => he ((list_ba N name).1 e))
        go_wp2_with fail
        go_roundw
        case rel => exact ⟨i + 1, by omega, by go_num, HR, trivial⟩
        case measure => simp only [intOf]; omega
    · have hi' : i = L.length := by omega
      subst hi'
      go_wp2_with fail
      refine bodyPost_ret (ret_cell_tmp rfl _ _ w.heap.size 62 _ (0, 0) _ rfl HB.out Tryz.underlying62 rfl (by kernel_rfl)) rfl ?_
      rw [ho.out, List.drop_length]
      exact ⟨_, rfl, ⟨_, rfl, FieldsAt.nil _⟩, Ext.alloc _ _⟩

/-- a place and a kind are told -/
def SaysAt (w : World) (t : Int × Nat) (e : Ending) (w' : World) : Prop := e = .returned (.tuple #[.int .i64 t.1, .int .u8 (t.2 : Int)]) ∧ Ext w w'
theorem SaysAt.mk {w w' : World} {t : Int × Nat} {x : Int} {k : Nat} (h : t = (x, k)) (hx : Ext w w') : SaysAt w t (.returned (.tuple #[.int .i64 x, .int .u8 (k : Int)])) w' := by
  subst h
  exact ⟨rfl, hx⟩
theorem at_at {name : ByteArray} {F : List FZ} {i : Nat} (h : i < F.length) : atZ name i (F.drop i) = if F[i].n = name then ((i : Int), F[i].k) else atZ name (i + 1) (F.drop (i + 1)) := by
  rw [List.drop_eq_getElem_cons h]
  rfl

set_option maxRecDepth 100000 in
set_option maxHeartbeats 4000000 in
theorem rats_any (t : TZ) (r : Value) (name : ByteArray) (w : World) (hf : FieldsAt w r t.f) : Calls Tryz.prog 37 #[.agg #[.string t.n, r], .string name] w (SaysAt w (atZ name 0 t.f)) := by
  obtain ⟨nm, F⟩ := t
  dsimp only at *
  have HO := hid (show atZ name 0 F = atZ name 0 (F.drop 0) from rfl)
  generalize atZ name 0 F = R at *
  have HF := hid hf
  obtain ⟨A, c, rfl, q1, q2, _⟩ := hf
  have hml : (F.length : Int) ≤ 9223372036854775807 := by unfold maxLen at q2; omega
  go_enter Tryz.func37, Tryz.ntmps37
  go_wp2_with fail
  have HB := hid (heap_alloc_new w (Obj.cells #[.string nm, .slice A F.length c] 62 (0, 0)))
  have HX := hid (Ext.alloc w (Obj.cells #[.string nm, .slice A F.length c] 62 (0, 0)))
  obtain ⟨⟨b0, b1⟩, ⟨m0, m1⟩, z0⟩ := box2 HB.out
  go_loopw [6] (fun x wr => ∃ i : Nat, i ≤ F.length ∧ x = .int .i64 (i : Int) ∧ Hid (R = atZ name i (F.drop i)) ∧ wr = w.alloc (Obj.cells #[.string nm, .slice A F.length c] 62 (0, 0)))
    (fun x _ => F.length - (intOf x).toNat)
  case atStart => exact ⟨0, by omega, rfl, hid HO.out, rfl⟩
  case round =>
    obtain ⟨i, hi, rfl, ho, rfl⟩ := hrel
    by_cases hlt : i < F.length
    · obtain ⟨g, o, c', e1, _, _, d0, d1⟩ := (HF.out.ext HX.out).open_ hlt
      obtain ⟨rfl, rfl⟩ : A = some ⟨g, o, none⟩ ∧ c = c' := by simpa using e1
      have HAT := hid (at_at (name := name) hlt)
      generalize hT : F[i] = T at *
      obtain ⟨N, K⟩ := T
      dsimp only at *
      clear e1 hT
      by_cases he : N = name
      · subst he
        have HR := hid (ho.out.trans (HAT.out.trans (if_pos rfl)))
        go_wp2_with fail
        go_quiet (fail)
        go_wp2_with fail
        go_ret2
        exact SaysAt.mk HR.out (HX.out.trans (Ext.drewN _ _))
      · have HR := hid (ho.out.trans (HAT.out.trans (if_neg he)))
        have hb : (N.toList == name.toList) = false := beq_eq_false_iff_ne.2 (fun e => he ((list_ba N name).1 e))
        go_wp2_with fail
        go_roundw
        case rel => exact ⟨i + 1, by omega, by go_num, HR, trivial⟩
        case measure => simp only [intOf]; omega
    · have hi' : i = F.length := by omega
      subst hi'
      go_wp2_with fail
      go_ret2
      exact SaysAt.mk (k := 0) (by rw [ho.out, List.drop_length]; rfl) HX.out

/-- values lie behind this slice -/
def ValsAt (w : World) (v : Value) (V : List VZ) : Prop :=
  ∃ A c, v = .slice A V.length c ∧ V.length ≤ c ∧ c ≤ maxLen ∧
    ∀ i (h : i < V.length), ∃ g o, A = some ⟨g, o, none⟩ ∧ w.cell? ⟨g, o + i * 4, none⟩ = some (.int .u8 (V[i].k : Int)) ∧ w.cell? ⟨g, o + i * 4 + 1, none⟩ = some (.int .i64 V[i].n) ∧
      w.cell? ⟨g, o + i * 4 + 2, none⟩ = some (.int .u64 (V[i].b : Int)) ∧ w.cell? ⟨g, o + i * 4 + 3, none⟩ = some (.string V[i].t)
theorem ValsAt.ext {w w' : World} {v : Value} {V : List VZ} (h : ValsAt w v V) (e : Ext w w') : ValsAt w' v V := by
  obtain ⟨A, c, rfl, h1, h2, h3⟩ := h
  refine ⟨A, c, rfl, h1, h2, fun i hi => ?_⟩
  obtain ⟨g, o, rfl, q1, q2, q3, q4⟩ := h3 i hi
  exact ⟨g, o, rfl, e.cell q1, e.cell q2, e.cell q3, e.cell q4⟩
theorem ValsAt.open_ {w : World} {v : Value} {V : List VZ} (h : ValsAt w v V) {i : Nat} (hi : i < V.length) :
    ∃ g o c, v = .slice (some ⟨g, o, none⟩) V.length c ∧ w.cell? ⟨g, o + i * 4, none⟩ = some (.int .u8 (V[i].k : Int)) ∧ w.cell? ⟨g, o + i * 4 + 1, none⟩ = some (.int .i64 V[i].n) ∧
      w.cell? ⟨g, o + i * 4 + 2, none⟩ = some (.int .u64 (V[i].b : Int)) ∧ w.cell? ⟨g, o + i * 4 + 3, none⟩ = some (.string V[i].t) := by
  obtain ⟨A, c, rfl, h1, h2, h3⟩ := h
  obtain ⟨g, o, rfl, q1, q2, q3, q4⟩ := h3 i hi
  exact ⟨g, o, c, rfl, q1, q2, q3, q4⟩
def ValOk (v : VZ) : Prop := v.k ≤ 255 ∧ -9223372036854775808 ≤ v.n ∧ v.n ≤ 9223372036854775807 ∧ v.b ≤ 18446744073709551615 ∧ v.t.size ≤ 9223372036854775807
def ValsOk (V : List VZ) : Prop := ∀ v ∈ V, ValOk v
theorem fit_at {F : List FZ} {V : List VZ} {i : Nat} (h : i < F.length) (hv : i < V.length) : fitZ (F.drop i) (V.drop i) =
    if checkV V[i].k V[i].n V[i].b V[i].t ≠ 0 then checkV V[i].k V[i].n V[i].b V[i].t else if V[i].k ≠ F[i].k then 19 else fitZ (F.drop (i + 1)) (V.drop (i + 1)) := by
  rw [List.drop_eq_getElem_cons h, List.drop_eq_getElem_cons hv]
  rfl

set_option maxRecDepth 100000 in
set_option maxHeartbeats 4000000 in
theorem rfits6_any (t : TZ) (V : List VZ) (r v : Value) (w : World) (hf : FieldsAt w r t.f) (hv : ValsAt w v V) (hok : ValsOk V) : Calls Tryz.prog 42 #[.agg #[.string t.n, r], v] w (Says w (.int .i64 (fitsZ t.f V))) := by
  obtain ⟨nm, F⟩ := t
  dsimp only at *
  have ho : fitsZ F V = if V.length ≠ F.length then 5 else fitZ F V := rfl
  generalize fitsZ F V = R at *
  have HF := hid hf
  have HV := hid hv
  obtain ⟨A, c, rfl, q1, q2, _⟩ := hf
  obtain ⟨A2, c2, rfl, q3, q4, _⟩ := hv
  have hml : (F.length : Int) ≤ 9223372036854775807 := by unfold maxLen at q2; omega
  have hml2 : (V.length : Int) ≤ 9223372036854775807 := by unfold maxLen at q4; omega
  by_cases hl : V.length = F.length
  · rw [if_neg (fun h => h hl)] at ho
    have HO := hid ho
    have hl' : ((V.length : Int) != (F.length : Int)) = false := bne_eq_false_iff_eq.2 (by omega)
    have HL := hid hl
    clear ho hl
    go_enter Tryz.func42, Tryz.ntmps42
    go_wp2_with fail
    have HB := hid (heap_alloc_new w (Obj.cells #[.string nm, .slice A F.length c] 62 (0, 0)))
    have HX := hid (Ext.alloc w (Obj.cells #[.string nm, .slice A F.length c] 62 (0, 0)))
    obtain ⟨⟨b0, b1⟩, _, _⟩ := box2 HB.out
    go_loopw [5] (fun x wr => ∃ i : Nat, i ≤ V.length ∧ x = .int .i64 (i : Int) ∧ Hid (R = fitZ (F.drop i) (V.drop i)) ∧ Ext (w.alloc (Obj.cells #[.string nm, .slice A F.length c] 62 (0, 0))) wr)
      (fun x _ => V.length - (intOf x).toNat)
    case atStart => exact ⟨0, by omega, rfl, hid HO.out, Ext.refl _⟩
    case round =>
      obtain ⟨i, hi, rfl, ho, hext⟩ := hrel
      have HE := hid hext
      clear hext
      have b1' : wr.cell? ⟨w.heap.size, 1, none⟩ = some (.slice A F.length c) := HE.out.cell b1
      by_cases hlt : i < V.length
      · have hltF : i < F.length := by have := HL.out; omega
        obtain ⟨g, o, c', e1, v0, v1, v2, v3⟩ := ((HV.out.ext HX.out).ext HE.out).open_ hlt
        obtain ⟨rfl, rfl⟩ : A2 = some ⟨g, o, none⟩ ∧ c2 = c' := by simpa using e1
        obtain ⟨g2, o2, c'', e2, _, _, d0, d1⟩ := ((HF.out.ext HX.out).ext HE.out).open_ hltF
        obtain ⟨rfl, rfl⟩ : A = some ⟨g2, o2, none⟩ ∧ c = c'' := by simpa using e2
        have HAT := hid (fit_at hltF hlt)
        have kc := fun W => rcheck_any V[i].k V[i].n V[i].b V[i].t W (hok _ (List.getElem_mem hlt)).2.2.2.1
        generalize hT : V[i] = T at *
        generalize hU : F[i] = U at *
        obtain ⟨k, n, b, tx⟩ := T
        obtain ⟨N, K⟩ := U
        dsimp only at *
        generalize checkV k n b tx = Q at *
        replace kc : ∀ W, Calls Tryz.prog 58 #[.agg #[.int .u8 (k : Int), .int .i64 n, .int .u64 (b : Int), .string tx]] W (Says W (.int .i64 Q)) := kc
        clear e1 e2 hT hU
        go_wp2_with fail
        refine (kc _).mono ?_
        rintro e w2 ⟨rfl, hx⟩
        have v0' : w2.cell? ⟨g, o + i * 4, none⟩ = some (.int .u8 (k : Int)) := hx.cell v0
        have d1' : w2.cell? ⟨g2, o2 + i * 2 + 1, none⟩ = some (.int .u8 (K : Int)) := hx.cell d1
        have b1'' : w2.cell? ⟨w.heap.size, 1, none⟩ = some (.slice (some ⟨g2, o2, none⟩) F.length c) := hx.cell b1'
        replace HE := hid (HE.out.trans hx)
        clear hx kc v0 v1 v2 v3 d0 d1 b1'
        by_cases hQ : Q = 0
        · subst hQ
          have HR := hid (ho.out.trans (HAT.out.trans (if_neg (fun h => h rfl))))
          by_cases hkk : k = K
          · have hkb : ((k : Int) != (K : Int)) = false := bne_eq_false_iff_eq.2 (by omega)
            have HR2 := hid (HR.out.trans (if_neg (fun h => h hkk)))
            clear hkk
            go_wp2_with fail
            go_quiet (fail)
            go_wp2_with fail
            go_roundw
            case rel => exact ⟨i + 1, by omega, by go_num, HR2, HE.out.trans (Ext.drewN _ _)⟩
            case measure => simp only [intOf]; omega
          · have hkb : ((k : Int) != (K : Int)) = true := bne_iff_ne.2 (by omega)
            have HR2 := hid (HR.out.trans (if_pos hkk))
            clear hkk
            go_wp2_with fail
            go_quiet (fail)
            go_wp2_with fail
            go_ret
            exact ⟨by rw [HR2.out]; rfl, (HX.out.trans HE.out).trans (Ext.drewN _ _)⟩
        · have HR := hid (ho.out.trans (HAT.out.trans (if_pos hQ)))
          have hq : (Q != 0) = true := bne_iff_ne.2 hQ
          clear hQ
          go_wp2_with fail
          go_ret
          exact ⟨by rw [HR.out]; rfl, HX.out.trans HE.out⟩
      · have hi' : i = V.length := by omega
        subst hi'
        go_wp2_with fail
        go_ret
        exact ⟨by rw [ho.out, List.drop_length, HL.out, List.drop_length]; rfl, HX.out.trans HE.out⟩
  · rw [if_pos hl] at ho
    subst ho
    have hl' : ((V.length : Int) != (F.length : Int)) = true := bne_iff_ne.2 (by omega)
    clear hl
    go_enter Tryz.func42, Tryz.ntmps42
    go_wp2_with fail
    go_ret
    exact ⟨rfl, Ext.alloc _ _⟩
end Go.Proofs.YtnldgmpfinlikaaGreat

/- The document's Print of types, by its contract. Conditions: small types. -/
namespace Go.Proofs.YtnldgmpfinlikaaGreat
open Go Go.RowKit

def FieldSmall (f : FZ) : Prop := f.n.size ≤ 40 ∧ f.k ≤ 255
def TypeSmall (t : TZ) : Prop := t.n.size ≤ 40 ∧ t.f.length ≤ 12 ∧ ∀ f ∈ t.f, FieldSmall f
def TypesSmall (L : List TZ) : Prop := L.length ≤ 12 ∧ ∀ t ∈ L, TypeSmall t
end Go.Proofs.YtnldgmpfinlikaaGreat

