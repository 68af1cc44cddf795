/- The document's makers of values and their words, by their contracts. Conditions: numbers within their kinds. -/
import Derived.Test.YtkblpbpmaoofgaaVR1
import Derived.BigQuiet
namespace Go.Proofs.Ytkblpbpmaoofgaa
open Go Go.RowKit

set_option maxHeartbeats 1000000 in
theorem vrofint_any (n : Int) (w : World) : Calls Try.prog 22 #[.int .i64 n] w (Says w (ofIntV n).v) := by
  have hr : (ofIntV n).v = vv 1 (max (-4611686018427387904) (min 4611686018427387904 n)) 0 noText := rfl
  rw [hr]
  clear hr
  rcases Int.lt_or_le n (-4611686018427387904) with h | h
  · rw [show max (-4611686018427387904) (min 4611686018427387904 n) = -4611686018427387904 by omega]
    go_enter Try.func22, Try.ntmps22
    go_wp2
    all_goals first | (exfalso; omega) | exact bodyPost_ret (v := vv 1 (-4611686018427387904) 0 noText) (by simp [results, vv, noText, Try.results22, go_sem]) rfl ⟨rfl, Ext.alloc _ _⟩
  · rcases Int.lt_or_le 4611686018427387904 n with h2 | h2
    · rw [show max (-4611686018427387904) (min 4611686018427387904 n) = 4611686018427387904 by omega]
      go_enter Try.func22, Try.ntmps22
      go_wp2
      all_goals first | (exfalso; omega) | exact bodyPost_ret (v := vv 1 4611686018427387904 0 noText) (by simp [results, vv, noText, Try.results22, go_sem]) rfl ⟨rfl, Ext.alloc _ _⟩
    · rw [show max (-4611686018427387904) (min 4611686018427387904 n) = n by omega]
      go_enter Try.func22, Try.ntmps22
      go_wp2
      all_goals (try (have e : n = 4611686018427387904 := by omega); try subst e)
      all_goals (try (have e : n = -4611686018427387904 := by omega); try subst e)
      all_goals first | (exfalso; omega) | exact bodyPost_ret (v := vv 1 _ 0 noText) (by simp [results, vv, noText, Try.results22, go_sem]) rfl ⟨rfl, Ext.alloc _ _⟩

set_option maxHeartbeats 400000 in
theorem vrofflag_any (is : Bool) (w : World) : Calls Try.prog 23 #[.bool is] w (Says w (ofFlagV is).v) := by
  cases is
  · go_enter Try.func23, Try.ntmps23
    go_wp2
    exact bodyPost_ret (v := vv 2 0 0 noText) (by simp [results, vv, noText, Try.results23, go_sem]) rfl ⟨rfl, Ext.alloc _ _⟩
  · go_enter Try.func23, Try.ntmps23
    go_wp2
    exact bodyPost_ret (v := vv 2 1 0 noText) (by simp [results, vv, noText, Try.results23, go_sem]) rfl ⟨rfl, Ext.alloc _ _⟩

set_option maxHeartbeats 400000 in
theorem vrofreal_any (b : Nat) (w : World) (hb : b ≤ 18446744073709551615) : Calls Try.prog 24 #[.int .u64 (b : Int)] w (Says w (ofRealV b).v) := by
  have kc := fun W => rclean_any b W hb
  have hr : (ofRealV b).v = vv 3 0 (cleanZ b) noText := rfl
  rw [hr]
  generalize cleanZ b = c at *
  go_enter Try.func24, Try.ntmps24
  go_wp2_with ((with_reducible show Calls _ 36 _ _ _); refine (kc _).mono ?_; rintro e w1 ⟨rfl, rfl⟩)
  exact bodyPost_ret (v := vv 3 0 c noText) (by simp [results, vv, noText, Try.results24, go_sem]) rfl ⟨rfl, Ext.alloc _ _⟩

set_option maxHeartbeats 400000 in
theorem vroftext_any (s : ByteArray) (w : World) (hs : s.size ≤ 9223372036854775807) : Calls Try.prog 25 #[.string s] w (Says w (ofTextV s).v) := by
  have hr : (ofTextV s).v = vv 4 0 0 (s.extract 0 (min s.size 24)) := rfl
  rw [hr]
  clear hr
  rcases Nat.lt_or_ge 24 s.size with h | h
  · rw [show min s.size 24 = 24 by omega]
    go_enter Try.func25, Try.ntmps25
    go_wp2
    exact bodyPost_ret (v := vv 4 0 0 (s.extract 0 24)) (by simp [results, vv, Try.results25, go_sem]) rfl ⟨rfl, Ext.alloc _ _⟩
  · rw [show min s.size 24 = s.size by omega]
    go_enter Try.func25, Try.ntmps25
    go_wp2
    all_goals exact bodyPost_ret (v := vv 4 0 0 (s.extract 0 s.size)) (by simp [results, vv, Try.results25, go_sem]) rfl ⟨rfl, Ext.alloc _ _⟩

set_option maxHeartbeats 400000 in
theorem rword4_any (k : Nat) (w : World) : Calls Try.prog 27 #[.int .u8 (k : Int)] w (Says w (.string (wordV k))) := by
  unfold wordV
  by_cases h1 : k = 1
  · subst h1
    go_enter Try.func27, Try.ntmps27
    go_wp2
    go_ret
    exact ⟨rfl, Ext.refl _⟩
  · by_cases h2 : k = 2
    · subst h2
      go_enter Try.func27, Try.ntmps27
      go_wp2
      go_ret
      exact ⟨rfl, Ext.refl _⟩
    · by_cases h3 : k = 3
      · subst h3
        go_enter Try.func27, Try.ntmps27
        go_wp2
        go_ret
        exact ⟨rfl, Ext.refl _⟩
      · by_cases h4 : k = 4
        · subst h4
          go_enter Try.func27, Try.ntmps27
          go_wp2
          go_ret
          exact ⟨rfl, Ext.refl _⟩
        · rw [if_neg h1, if_neg h2, if_neg h3, if_neg h4]
          have h1' : ((k : Int) == 1) = false := beq_eq_false_iff_ne.2 (by omega)
          have h2' : ((k : Int) == 2) = false := beq_eq_false_iff_ne.2 (by omega)
          have h3' : ((k : Int) == 3) = false := beq_eq_false_iff_ne.2 (by omega)
          have h4' : ((k : Int) == 4) = false := beq_eq_false_iff_ne.2 (by omega)
          clear h1 h2 h3 h4
          go_enter Try.func27, Try.ntmps27
          go_wp2
          go_ret
          exact ⟨rfl, Ext.refl _⟩
end Go.Proofs.Ytkblpbpmaoofgaa
