/- Several texts in one: VSmall, SLaw3, ELaw3. Conditions: those of each. -/
import Derived.BigQuiet
import Derived.Test.YtnldgmpfinlikaaGreatGRR1
import Derived.Test.YtnldgmpfinlikaaGreatBase
import Derived.Test.YtnldgmpfinlikaaGreatGZR1
import Derived.Test.YtnldgmpfinlikaaGreatGVV1
import Derived.Test.YtnldgmpfinlikaaGreatVV2
import Derived.Test.YtnldgmpfinlikaaGreatGVV3
import Derived.Test.YtnldgmpfinlikaaGreatGVV7
import Derived.Test.YtnldgmpfinlikaaGreatGSMem2
/- telltalelaw04.Small, by its contract. Conditions: the reach of a string. -/
namespace Go.Proofs.YtnldgmpfinlikaaGreat
open Go Go.RowKit

set_option maxHeartbeats 1000000 in
theorem small_any (k : Nat) (n : Int) (b : Nat) (t : ByteArray) (w : World) (ht : t.size ≤ 9223372036854775807) : Calls Tryz.prog 20 #[.agg #[.int .u8 (k : Int), .int .i64 n, .int .u64 (b : Int), .string t]] w (Says w (.int .i64 (max 0 ((t.size : Int) - 100)))) := by
  rcases Nat.lt_or_ge 100 t.size with h | h
  · rw [show max 0 ((t.size : Int) - 100) = (t.size : Int) - 100 by omega]
    go_enter Tryz.func20, Tryz.ntmps20
    go_wp2
    all_goals first | (exfalso; omega) | (go_ret; exact Says.mk_int (by omega) (Ext.alloc _ _))
  · rw [show max 0 ((t.size : Int) - 100) = 0 by omega]
    go_enter Tryz.func20, Tryz.ntmps20
    go_wp2
    all_goals first | (exfalso; omega) | (go_ret; exact Says.mk_int (by omega) (Ext.alloc _ _))
end Go.Proofs.YtnldgmpfinlikaaGreat

/- telltalelaw06.Over: whether types are within a statement's bounds. Conditions: none. -/
namespace Go.Proofs.YtnldgmpfinlikaaGreat
open Go Go.RowKit

def fieldIn (f : FZ) : Bool := decide (f.n.size ≤ 40)
def typeIn (t : TZ) : Bool := decide (t.n.size ≤ 40 ∧ t.f.length ≤ 12) && t.f.all fieldIn
def typesIn (L : List TZ) : Bool := decide (L.length ≤ 12) && L.all typeIn
def overZ (L : List TZ) : Int := if typesIn L then 0 else 1
theorem all_drop {α : Type} {p : α → Bool} {L : List α} {i : Nat} (h : i < L.length) : (L.drop i).all p = (p L[i] && (L.drop (i + 1)).all p) := by
  rw [List.drop_eq_getElem_cons h, List.all_cons]
theorem in_small {L : List TZ} (h : typesIn L = true) (hk : TypesOk L) : TypesSmall L := by
  unfold typesIn at h
  rw [Bool.and_eq_true, decide_eq_true_iff, List.all_eq_true] at h
  refine ⟨h.1, fun t ht => ?_⟩
  have h2 := h.2 t ht
  unfold typeIn at h2
  rw [Bool.and_eq_true, decide_eq_true_iff, List.all_eq_true] at h2
  refine ⟨h2.1.1, h2.1.2, fun f hf => ⟨?_, ((hk t ht).2 f hf).2⟩⟩
  exact of_decide_eq_true (h2.2 f hf)

set_option maxRecDepth 100000 in
set_option maxHeartbeats 8000000 in
theorem over_any (L : List TZ) (v : Value) (w : World) (hv : TypesAt w v L) : Calls Tryz.prog 5 #[v] w (Says w (.int .i64 (overZ L))) := by
  have HV := hid hv
  obtain ⟨A, c, rfl, q1, q2, _⟩ := hv
  have hml : (L.length : Int) ≤ 9223372036854775807 := by unfold maxLen at q2; omega
  have ho : overZ L = if (decide (L.length ≤ 12) && L.all typeIn) = true then 0 else 1 := rfl
  generalize overZ L = R at *
  by_cases h12 : 12 < L.length
  · rw [decide_eq_false (by omega), Bool.false_and, if_neg (by decide)] at ho
    subst ho
    have h12' : 12 < (L.length : Int) := by omega
    go_enter Tryz.func5, Tryz.ntmps5
    go_wp2_with fail
    go_ret
    exact ⟨rfl, Ext.refl _⟩
  · rw [decide_eq_true (by omega), Bool.true_and] at ho
    have h12' : ¬ 12 < (L.length : Int) := by omega
    have HO := hid ho
    clear ho
    go_enter Tryz.func5, Tryz.ntmps5
    go_wp2_with fail
    go_loopw [3] (fun x wr => ∃ i : Nat, i ≤ L.length ∧ x = .int .i64 (i : Int) ∧ Hid (R = if (L.drop i).all typeIn = true then 0 else 1) ∧ wr = w)
      (fun x _ => L.length - (intOf x).toNat)
    case atStart => exact ⟨0, by omega, rfl, hid HO.out, rfl⟩
    case round =>
      obtain ⟨i, hi, rfl, ho, rfl⟩ := hrel
      by_cases hlt : i < L.length
      · obtain ⟨g, o, c', r, e1, _, _, d0, d1, hfr⟩ := HV.out.open_ hlt
        obtain ⟨rfl, rfl⟩ : A = some ⟨g, o, none⟩ ∧ c = c' := by simpa using e1
        have HAT := hid (all_drop (p := typeIn) hlt)
        generalize hT : L[i] = T at *
        obtain ⟨N, F⟩ := T
        dsimp only at *
        have HF := hid hfr
        obtain ⟨A3, c3, rfl, _, q5, _⟩ := hfr
        have hml3 : (F.length : Int) ≤ 9223372036854775807 := by unfold maxLen at q5; omega
        have HTY := hid (show typeIn ⟨N, F⟩ = (decide (N.size ≤ 40 ∧ F.length ≤ 12) && F.all fieldIn) from rfl)
        clear e1 hT
        by_cases hb : 40 < N.size ∨ 12 < F.length
        · have HR := hid (ho.out.trans (by rw [HAT.out, HTY.out, decide_eq_false (by omega), Bool.false_and, Bool.false_and]; rfl) : R = 1)
          by_cases hb1 : 40 < N.size
          · have hb1' : 40 < (N.size : Int) := by omega
            go_wp2_with fail
            go_ret
            exact ⟨by rw [HR.out]; rfl, Ext.refl _⟩
          · have hb1' : ¬ 40 < (N.size : Int) := by omega
            have hb2' : 12 < (F.length : Int) := by omega
            go_wp2_with fail
            go_ret
            exact ⟨by rw [HR.out]; rfl, Ext.refl _⟩
        · have hb1' : ¬ 40 < (N.size : Int) := by omega
          have hb2' : ¬ 12 < (F.length : Int) := by omega
          have HR := hid (ho.out.trans (by rw [HAT.out, HTY.out, decide_eq_true (by omega), Bool.true_and]) : R = if (F.all fieldIn && (L.drop (i + 1)).all typeIn) = true then 0 else 1)
          go_wp2_with fail
          go_loopw [4] (fun y wq => ∃ j : Nat, j ≤ F.length ∧ y = .int .i64 (j : Int) ∧ Hid (R = if ((F.drop j).all fieldIn && (L.drop (i + 1)).all typeIn) = true then 0 else 1) ∧ wq = wr)
            (fun y _ => F.length - (intOf y).toNat)
          case atStart => exact ⟨0, by omega, rfl, HR, rfl⟩
          case round =>
            obtain ⟨j, hj, rfl, hno, rfl⟩ := hrel
            by_cases hjl : j < F.length
            · obtain ⟨g3, o3, c', e1, _, _, y0, y1⟩ := HF.out.open_ hjl
              obtain ⟨rfl, rfl⟩ : A3 = some ⟨g3, o3, none⟩ ∧ c3 = c' := by simpa using e1
              have HJ := hid (all_drop (p := fieldIn) hjl)
              generalize hU : F[j] = U at *
              obtain ⟨n5, k5⟩ := U
              dsimp only at *
              have HFI := hid (show fieldIn ⟨n5, k5⟩ = decide (n5.size ≤ 40) from rfl)
              clear e1 hU
              by_cases hn5 : 40 < n5.size
              · have hn5' : 40 < (n5.size : Int) := by omega
                have HR2 := hid (hno.out.trans (by rw [HJ.out, HFI.out, decide_eq_false (by omega), Bool.false_and, Bool.false_and]; rfl) : R = 1)
                go_wp2_with fail
                go_ret
                exact ⟨by rw [HR2.out]; rfl, Ext.refl _⟩
              · have hn5' : ¬ 40 < (n5.size : Int) := by omega
                have HR2 := hid (hno.out.trans (by rw [HJ.out, HFI.out, decide_eq_true (by omega), Bool.true_and]) : R = if ((F.drop (j + 1)).all fieldIn && (L.drop (i + 1)).all typeIn) = true then 0 else 1)
                go_wp2_with fail
                go_roundw
                case rel => exact ⟨j + 1, by omega, by go_num, HR2, trivial⟩
                case measure => simp only [intOf]; omega
            · have hj' : j = F.length := by omega
              subst hj'
              have HR2 := hid (hno.out.trans (by rw [List.drop_length, List.all_nil, Bool.true_and]) : R = if (L.drop (i + 1)).all typeIn = true then 0 else 1)
              go_wp2_with fail
              go_roundw
              case rel => exact ⟨i + 1, by omega, by go_num, HR2, trivial⟩
              case measure => simp only [intOf]; omega
      · have hi' : i = L.length := by omega
        subst hi'
        go_wp2_with fail
        go_ret
        exact ⟨by rw [ho.out, List.drop_length]; rfl, Ext.refl _⟩
end Go.Proofs.YtnldgmpfinlikaaGreat

/- telltalelaw07.Over: whether events are within a statement's bounds. Conditions: none. -/
namespace Go.Proofs.YtnldgmpfinlikaaGreat
open Go Go.RowKit

def valIn (v : VZ) : Bool := decide (v.t.size ≤ 100)
def evtIn (e : EZ) : Bool := decide (e.n.size ≤ 40 ∧ e.v.length ≤ 12) && e.v.all valIn
def evtsIn (L : List EZ) (most : Nat) : Bool := decide (L.length ≤ most) && L.all evtIn
def overE (L : List EZ) (most : Nat) : Int := if evtsIn L most then 0 else 1
theorem evt_in {e : EZ} (h : evtIn e = true) : e.n.size ≤ 40 ∧ e.v.length ≤ 12 ∧ ∀ v ∈ e.v, v.t.size ≤ 100 := by
  unfold evtIn at h
  rw [Bool.and_eq_true, decide_eq_true_iff, List.all_eq_true] at h
  exact ⟨h.1.1, h.1.2, fun v hv => of_decide_eq_true (h.2 v hv)⟩
theorem evts_in {L : List EZ} {most : Nat} (h : evtsIn L most = true) : L.length ≤ most ∧ ∀ e ∈ L, e.n.size ≤ 40 ∧ e.v.length ≤ 12 ∧ ∀ v ∈ e.v, v.t.size ≤ 100 := by
  unfold evtsIn at h
  rw [Bool.and_eq_true, decide_eq_true_iff, List.all_eq_true] at h
  exact ⟨h.1, fun e he => evt_in (h.2 e he)⟩

set_option maxRecDepth 100000 in
set_option maxHeartbeats 8000000 in
theorem eover_any (L : List EZ) (v : Value) (most : Nat) (w : World) (hv : EventsAt w v L) (hok : EventsOk L) (hm : most ≤ 1000) : Calls Tryz.prog 6 #[v, .int .i64 (most : Int)] w (Says w (.int .i64 (overE L most))) := by
  have HV := hid hv
  obtain ⟨A, c, rfl, q1, q2⟩ := hv.shape
  clear hv
  have hml : (L.length : Int) ≤ 9223372036854775807 := by unfold maxLen at q2; omega
  have ho : overE L most = if (decide (L.length ≤ most) && L.all evtIn) = true then 0 else 1 := rfl
  generalize overE L most = R at *
  by_cases h12 : most < L.length
  · rw [decide_eq_false (by omega), Bool.false_and, if_neg (by decide)] at ho
    subst ho
    have h12' : (most : Int) < (L.length : Int) := by omega
    go_enter Tryz.func6, Tryz.ntmps6
    go_wp2_with fail
    go_ret
    exact ⟨rfl, Ext.refl _⟩
  · rw [decide_eq_true (by omega), Bool.true_and] at ho
    have h12' : ¬ (most : Int) < (L.length : Int) := by omega
    have HO := hid ho
    clear ho
    go_enter Tryz.func6, Tryz.ntmps6
    go_wp2_with fail
    go_loopw [5] (fun x wr => ∃ i : Nat, i ≤ L.length ∧ x = .int .i64 (i : Int) ∧ Hid (R = if (L.drop i).all evtIn = true then 0 else 1) ∧ Hid (Ext w wr))
      (fun x _ => L.length - (intOf x).toNat)
    case atStart => exact ⟨0, by omega, rfl, hid HO.out, hid (Ext.refl _)⟩
    case round =>
      obtain ⟨i, hi, rfl, ho, hext⟩ := hrel
      by_cases hlt : i < L.length
      · obtain ⟨g, o, c', r, e1, _, _, d0, d1, d2, d3, d4, hva⟩ := (HV.out.ext hext.out).open_ hlt
        obtain ⟨rfl, rfl⟩ : A = some ⟨g, o, none⟩ ∧ c = c' := by simpa using e1
        have HAT := hid (all_drop (p := evtIn) hlt)
        have hek := hok _ (List.getElem_mem hlt)
        generalize hT : L[i] = T at *
        obtain ⟨em, eo, eq, N, F⟩ := T
        obtain ⟨_, _, _, hN, HOKV⟩ := hek
        dsimp only at *
        have HF := hid hva
        obtain ⟨A3, c3, rfl, _, q5, _⟩ := hva
        have hml3 : (F.length : Int) ≤ 9223372036854775807 := by unfold maxLen at q5; omega
        have HTY := hid (show evtIn ⟨em, eo, eq, N, F⟩ = (decide (N.size ≤ 40 ∧ F.length ≤ 12) && F.all valIn) from rfl)
        have HKV := hid HOKV
        clear e1 hT HOKV
        by_cases hb : 40 < N.size ∨ 12 < F.length
        · have HR := hid (ho.out.trans (by rw [HAT.out, HTY.out, decide_eq_false (by omega), Bool.false_and, Bool.false_and]; rfl) : R = 1)
          by_cases hb1 : 40 < N.size
          · have hb1' : 40 < (N.size : Int) := by omega
            go_wp2_with fail
            go_ret
            exact ⟨by rw [HR.out]; rfl, hext.out⟩
          · have hb1' : ¬ 40 < (N.size : Int) := by omega
            have hb2' : 12 < (F.length : Int) := by omega
            go_wp2_with fail
            go_ret
            exact ⟨by rw [HR.out]; rfl, hext.out⟩
        · have hb1' : ¬ 40 < (N.size : Int) := by omega
          have hb2' : ¬ 12 < (F.length : Int) := by omega
          have HR := hid (ho.out.trans (by rw [HAT.out, HTY.out, decide_eq_true (by omega), Bool.true_and]) : R = if (F.all valIn && (L.drop (i + 1)).all evtIn) = true then 0 else 1)
          go_wp2_with fail
          go_loopw [6] (fun y wq => ∃ j : Nat, j ≤ F.length ∧ y = .int .i64 (j : Int) ∧ Hid (R = if ((F.drop j).all valIn && (L.drop (i + 1)).all evtIn) = true then 0 else 1) ∧ Hid (Ext wr wq))
            (fun y _ => F.length - (intOf y).toNat)
          case atStart => exact ⟨0, by omega, rfl, HR, hid (Ext.refl _)⟩
          case round =>
            obtain ⟨j, hj, rfl, hno, hex2⟩ := hrel
            have d0 := hex2.out.cell d0
            have d1 := hex2.out.cell d1
            have d2 := hex2.out.cell d2
            have d3 := hex2.out.cell d3
            have d4 := hex2.out.cell d4
            by_cases hjl : j < F.length
            · obtain ⟨g3, o3, c', e1, y0, y1, y2, y3⟩ := (HF.out.ext hex2.out).open_ hjl
              obtain ⟨rfl, rfl⟩ : A3 = some ⟨g3, o3, none⟩ ∧ c3 = c' := by simpa using e1
              have HJ := hid (all_drop (p := valIn) hjl)
              have hux := HKV.out _ (List.getElem_mem hjl)
              generalize hU : F[j] = U at *
              obtain ⟨xk, xn, xb, xt⟩ := U
              have htx : xt.size ≤ 9223372036854775807 := hux.2.2.2.2
              dsimp only at *
              have HFI := hid (show valIn ⟨xk, xn, xb, xt⟩ = decide (xt.size ≤ 100) from rfl)
              clear e1 hU hux
              go_wp2_with fail
              refine (small_any xk xn xb xt _ htx).mono ?_
              rintro e8 w8 ⟨rfl, hx8⟩
              have HX8 := hid (hex2.out.trans hx8)
              clear hx8
              by_cases hn5 : 100 < xt.size
              · rw [show max 0 ((xt.size : Int) - 100) = (xt.size : Int) - 100 by omega]
                have hn5' : 0 < (xt.size : Int) - 100 := by omega
                have HR2 := hid (hno.out.trans (by rw [HJ.out, HFI.out, decide_eq_false (by omega), Bool.false_and, Bool.false_and]; rfl) : R = 1)
                go_wp2_with fail
                go_ret
                exact ⟨by rw [HR2.out]; rfl, hext.out.trans HX8.out⟩
              · rw [show max 0 ((xt.size : Int) - 100) = 0 by omega]
                have HR2 := hid (hno.out.trans (by rw [HJ.out, HFI.out, decide_eq_true (by omega), Bool.true_and]) : R = if ((F.drop (j + 1)).all valIn && (L.drop (i + 1)).all evtIn) = true then 0 else 1)
                go_wp2_with fail
                go_roundw
                case rel => exact ⟨j + 1, by omega, by go_num, HR2, HX8⟩
                case measure => simp only [intOf]; omega
            · have hj' : j = F.length := by omega
              subst hj'
              have HR2 := hid (hno.out.trans (by rw [List.drop_length, List.all_nil, Bool.true_and]) : R = if (L.drop (i + 1)).all evtIn = true then 0 else 1)
              have HX9 := hid (hext.out.trans hex2.out)
              go_wp2_with fail
              go_roundw
              case rel => exact ⟨i + 1, by omega, by go_num, HR2, HX9⟩
              case measure => simp only [intOf]; omega
      · have hi' : i = L.length := by omega
        subst hi'
        go_wp2_with fail
        go_ret
        exact ⟨by rw [ho.out, List.drop_length]; rfl, hext.out⟩
end Go.Proofs.YtnldgmpfinlikaaGreat

