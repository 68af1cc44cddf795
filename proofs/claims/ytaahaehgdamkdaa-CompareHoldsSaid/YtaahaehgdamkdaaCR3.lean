/- The document's bits and stand, by their contracts. Conditions: numbers within their kinds. -/
import Derived.Test.YtaahaehgdamkdaaCR2
import Derived.Test.YtaahaehgdamkdaaRR2
import Derived.Test.YtaahaehgdamkdaaBase
import Derived.Test.YtaahaehgdamkdaaRR7
namespace Go.Proofs.Ytaahaehgdamkdaa
open Go Go.RowKit

def SaysB5 (w : World) (t : Int × Bool) (e : Ending) (w' : World) : Prop := e = .returned (.tuple #[.int .i64 t.1, .bool t.2]) ∧ Ext w w'
theorem SaysB5.mk {w w' : World} {t : Int × Bool} {x : Int} {b : Bool} (h : t = (x, b)) (hx : Ext w w') : SaysB5 w t (.returned (.tuple #[.int .i64 x, .bool b])) w' := by
  subst h
  exact ⟨rfl, hx⟩

theorem stand_ir (n : Int) (b : Nat) (t : ByteArray) (m : Int) (c : Nat) (u : ByteArray) : standV 1 n b t 3 m c u = versusZ n c := rfl
theorem stand_ri (n : Int) (b : Nat) (t : ByteArray) (m : Int) (c : Nat) (u : ByteArray) : standV 3 n b t 1 m c u = (-(versusZ m b).1, (versusZ m b).2) := rfl
theorem stand_rr {l : Nat} (hl : l ≠ 1) (n : Int) (b : Nat) (t : ByteArray) (m : Int) (c : Nat) (u : ByteArray) : standV 3 n b t l m c u = if lessZ b c then (-1, true) else if lessZ c b then (1, true) else (0, equalZ b c) := by
  unfold standV
  rw [if_neg (by omega), if_neg (by omega), if_pos rfl]
theorem stand_rank {k l : Nat} (hk : k ≠ 3) (h : ¬ (k = 1 ∧ l = 3)) (n : Int) (b : Nat) (t : ByteArray) (m : Int) (c : Nat) (u : ByteArray) : standV k n b t l m c u = (rankV k n b t l m c u, true) := by
  unfold standV
  rw [if_neg h, if_neg (by omega), if_neg hk]

theorem versus_le (n : Int) (b : Nat) : -1 ≤ (versusZ n b).1 ∧ (versusZ n b).1 ≤ 1 := by
  by_cases h : n < -4611686018427387904 ∨ 4611686018427387904 < n
  · rw [versus_out (Or.inr h)]
    omega
  · exact (versus_told (by omega) (by omega)).2

set_option maxHeartbeats 2000000 in
theorem rstand_any (k : Nat) (n : Int) (b : Nat) (t : ByteArray) (l : Nat) (m : Int) (c : Nat) (u : ByteArray) (w : World)
    (hn0 : -9223372036854775808 ≤ n) (hn1 : n ≤ 9223372036854775807) (hm0 : -9223372036854775808 ≤ m) (hm1 : m ≤ 9223372036854775807) (hb : b ≤ 18446744073709551615) (hc : c ≤ 18446744073709551615) :
    Calls Try.prog 36 #[vv k n b t, vv l m c u] w (SaysB5 w (standV k n b t l m c u)) := by
  by_cases h13 : k = 1 ∧ l = 3
  · obtain ⟨rfl, rfl⟩ := h13
    rw [stand_ir]
    have hr := fun W => rversus_any n c W hn0 hn1 hc
    generalize versusZ n c = V at *
    unfold vv
    go_enter Try.func36, Try.ntmps36
    go_wp2_with fail
    refine (hr _).mono ?_
    rintro e w1 ⟨rfl, rfl⟩
    go_wp2_with fail
    go_ret2
    exact ⟨rfl, (Ext.alloc _ _).then_alloc _⟩
  · by_cases h31 : k = 3 ∧ l = 1
    · obtain ⟨rfl, rfl⟩ := h31
      rw [stand_ri]
      have hr := fun W => rversus_any m b W hm0 hm1 hb
      have hv := versus_le m b
      generalize versusZ m b = V at *
      obtain ⟨V1, V2⟩ := V
      dsimp only at hv
      unfold vv
      clear h13
      go_enter Try.func36, Try.ntmps36
      go_wp2_with fail
      refine (hr _).mono ?_
      rintro e w1 ⟨rfl, rfl⟩
      go_wp2_with fail
      go_ret2
      exact ⟨rfl, (Ext.alloc _ _).then_alloc _⟩
    · by_cases h3 : k = 3
      · subst h3
        have hl : l ≠ 1 := by omega
        have hl' : ((l : Int) == 1) = false := beq_eq_false_iff_ne.2 (by omega)
        rw [stand_rr hl]
        have e1 := fun W => rless_any b c W hb hc
        have e2 := fun W => rless_any c b W hc hb
        have e3 := fun W => requal_any b c W hb hc
        generalize lessZ b c = X at *
        generalize lessZ c b = Y at *
        generalize equalZ b c = Z at *
        clear h13 h31 hl
        unfold vv
        cases X
        · cases Y
          · go_enter Try.func36, Try.ntmps36
            go_wp2_with fail
            refine (e1 _).mono ?_
            rintro e w1 ⟨rfl, rfl⟩
            go_wp2_with fail
            refine (e2 _).mono ?_
            rintro e w1 ⟨rfl, rfl⟩
            go_wp2_with fail
            refine (e3 _).mono ?_
            rintro e w1 ⟨rfl, rfl⟩
            go_wp2_with fail
            go_ret2
            exact SaysB5.mk rfl ((Ext.alloc _ _).then_alloc _)
          · go_enter Try.func36, Try.ntmps36
            go_wp2_with fail
            refine (e1 _).mono ?_
            rintro e w1 ⟨rfl, rfl⟩
            go_wp2_with fail
            refine (e2 _).mono ?_
            rintro e w1 ⟨rfl, rfl⟩
            go_wp2_with fail
            go_ret2
            exact SaysB5.mk rfl ((Ext.alloc _ _).then_alloc _)
        · go_enter Try.func36, Try.ntmps36
          go_wp2_with fail
          refine (e1 _).mono ?_
          rintro e w1 ⟨rfl, rfl⟩
          go_wp2_with fail
          go_ret2
          exact SaysB5.mk rfl ((Ext.alloc _ _).then_alloc _)
      · rw [stand_rank h3 h13]
        have hr := fun W => rrankv_any k n b t l m c u W hb hc
        generalize rankV k n b t l m c u = R at *
        have h3' : ((k : Int) == 3) = false := beq_eq_false_iff_ne.2 (by omega)
        unfold vv at *
        by_cases h1 : k = 1
        · subst h1
          have h3l : ((l : Int) == 3) = false := beq_eq_false_iff_ne.2 (by omega)
          clear h13 h31 h3
          go_enter Try.func36, Try.ntmps36
          go_wp2_with fail
          refine (hr _).mono ?_
          rintro e w1 ⟨rfl, hx⟩
          go_wp2_with fail
          go_ret2
          exact SaysB5.mk rfl (((Ext.alloc _ _).then_alloc _).trans hx)
        · have h1' : ((k : Int) == 1) = false := beq_eq_false_iff_ne.2 (by omega)
          clear h13 h31 h3 h1
          go_enter Try.func36, Try.ntmps36
          go_wp2_with fail
          refine (hr _).mono ?_
          rintro e w1 ⟨rfl, hx⟩
          go_wp2_with fail
          go_ret2
          exact SaysB5.mk rfl (((Ext.alloc _ _).then_alloc _).trans hx)
end Go.Proofs.Ytaahaehgdamkdaa
