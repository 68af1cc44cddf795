/- The document's makers of values and their words, by their contracts. Conditions: numbers within their kinds. -/
import Derived.Test.YtggafdimbddflaaVR1
import Derived.BigQuiet
namespace Go.Proofs.Ytggafdimbddflaa
open Go Go.RowKit

set_option maxHeartbeats 400000 in
theorem rword4_just (k : Nat) (w : World) : Calls Try.prog 40 #[.int .u8 (k : Int)] w (Just w (.string (wordV k))) := by
  unfold wordV
  by_cases h1 : k = 1
  · subst h1
    go_enter Try.func40, Try.ntmps40
    go_wp2
    go_ret
    exact ⟨rfl, rfl⟩
  · by_cases h2 : k = 2
    · subst h2
      go_enter Try.func40, Try.ntmps40
      go_wp2
      go_ret
      exact ⟨rfl, rfl⟩
    · by_cases h3 : k = 3
      · subst h3
        go_enter Try.func40, Try.ntmps40
        go_wp2
        go_ret
        exact ⟨rfl, rfl⟩
      · by_cases h4 : k = 4
        · subst h4
          go_enter Try.func40, Try.ntmps40
          go_wp2
          go_ret
          exact ⟨rfl, rfl⟩
        · rw [if_neg h1, if_neg h2, if_neg h3, if_neg h4]
          have h1' : ((k : Int) == 1) = false := beq_eq_false_iff_ne.2 (by omega)
          have h2' : ((k : Int) == 2) = false := beq_eq_false_iff_ne.2 (by omega)
          have h3' : ((k : Int) == 3) = false := beq_eq_false_iff_ne.2 (by omega)
          have h4' : ((k : Int) == 4) = false := beq_eq_false_iff_ne.2 (by omega)
          clear h1 h2 h3 h4
          go_enter Try.func40, Try.ntmps40
          go_wp2
          go_ret
          exact ⟨rfl, rfl⟩
theorem rword4_any (k : Nat) (w : World) : Calls Try.prog 40 #[.int .u8 (k : Int)] w (Says w (.string (wordV k))) := (rword4_just k w).mono (fun _ _ h => h.says)
end Go.Proofs.Ytggafdimbddflaa
