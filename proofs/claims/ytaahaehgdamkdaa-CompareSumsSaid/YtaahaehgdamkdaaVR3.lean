/- The document's makers of values and their words, by their contracts. Conditions: numbers within their kinds. -/
import Derived.Test.YtaahaehgdamkdaaVR1
import Derived.BigQuiet
namespace Go.Proofs.Ytaahaehgdamkdaa
open Go Go.RowKit

set_option maxHeartbeats 1000000 in
theorem vrofint_any (n : Int) (w : World) : Calls Try.prog 44 #[.int .i64 n] w (Says w (ofIntV n).v) := by
  have hr : (ofIntV n).v = vv 1 (max (-4611686018427387904) (min 4611686018427387904 n)) 0 noText := rfl
  rw [hr]
  clear hr
  rcases Int.lt_or_le n (-4611686018427387904) with h | h
  · rw [show max (-4611686018427387904) (min 4611686018427387904 n) = -4611686018427387904 by omega]
    go_enter Try.func44, Try.ntmps44
    go_wp2
    all_goals first | (exfalso; omega) | exact bodyPost_ret (v := vv 1 (-4611686018427387904) 0 noText) (by simp [results, vv, noText, Try.results44, go_sem]) rfl ⟨rfl, Ext.alloc _ _⟩
  · rcases Int.lt_or_le 4611686018427387904 n with h2 | h2
    · rw [show max (-4611686018427387904) (min 4611686018427387904 n) = 4611686018427387904 by omega]
      go_enter Try.func44, Try.ntmps44
      go_wp2
      all_goals first | (exfalso; omega) | exact bodyPost_ret (v := vv 1 4611686018427387904 0 noText) (by simp [results, vv, noText, Try.results44, go_sem]) rfl ⟨rfl, Ext.alloc _ _⟩
    · rw [show max (-4611686018427387904) (min 4611686018427387904 n) = n by omega]
      go_enter Try.func44, Try.ntmps44
      go_wp2
      all_goals (try (have e : n = 4611686018427387904 := by omega); try subst e)
      all_goals (try (have e : n = -4611686018427387904 := by omega); try subst e)
      all_goals first | (exfalso; omega) | exact bodyPost_ret (v := vv 1 _ 0 noText) (by simp [results, vv, noText, Try.results44, go_sem]) rfl ⟨rfl, Ext.alloc _ _⟩

set_option maxHeartbeats 400000 in
theorem vrofreal_any (b : Nat) (w : World) (hb : b ≤ 18446744073709551615) : Calls Try.prog 41 #[.int .u64 (b : Int)] w (Says w (ofRealV b).v) := by
  have kc := fun W => rclean_any b W hb
  have hr : (ofRealV b).v = vv 3 0 (cleanZ b) noText := rfl
  rw [hr]
  generalize cleanZ b = c at *
  go_enter Try.func41, Try.ntmps41
  go_wp2_with ((with_reducible show Calls _ 54 _ _ _); refine (kc _).mono ?_; rintro e w1 ⟨rfl, rfl⟩)
  exact bodyPost_ret (v := vv 3 0 c noText) (by simp [results, vv, noText, Try.results41, go_sem]) rfl ⟨rfl, Ext.alloc _ _⟩

end Go.Proofs.Ytaahaehgdamkdaa
