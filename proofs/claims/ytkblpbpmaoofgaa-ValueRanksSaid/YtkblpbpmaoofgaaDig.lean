/- Digits to the base 256, the highest first, and their worth. Plain arithmetic; conditions: none. -/
import Derived.Test.YtkblpbpmaoofgaaProg
namespace Go.Proofs.Ytkblpbpmaoofgaa

/-- the k lowest digits of n, the highest of them first -/
def be : Nat → Nat → List UInt8
  | 0, _ => []
  | k + 1, n => be k (n / 256) ++ [UInt8.ofNat (n % 256)]

theorem be_length (k : Nat) : ∀ n, (be k n).length = k := by
  induction k with
  | zero => intro n; rfl
  | succ k ih => intro n; simp [be, ih]

theorem be_left (k : Nat) : ∀ n, be (k + 1) n = UInt8.ofNat (n / 256 ^ k % 256) :: be k n := by
  induction k with
  | zero => intro n; simp [be]
  | succ k ih =>
    intro n
    have h1 : be (k + 1 + 1) n = be (k + 1) (n / 256) ++ [UInt8.ofNat (n % 256)] := rfl
    have h2 : be (k + 1) n = be k (n / 256) ++ [UInt8.ofNat (n % 256)] := rfl
    rw [h1, ih, h2, List.cons_append, Nat.div_div_eq_div_mul, Nat.pow_succ, Nat.mul_comm 256]

theorem snoc_ind {α : Type} {Q : List α → Prop} (h0 : Q []) (h1 : ∀ l b, Q l → Q (l ++ [b])) : ∀ l, Q l := by
  have h : ∀ l : List α, Q l.reverse := by
    intro l
    induction l with
    | nil => exact h0
    | cons b l ih => rw [List.reverse_cons]; exact h1 _ _ ih
  intro l
  have := h l.reverse
  rwa [List.reverse_reverse] at this

/-- what bytes are worth -/
def worth (l : List UInt8) : Nat := l.foldl (fun n b => n * 256 + b.toNat) 0

theorem worth_snoc (l : List UInt8) (b : UInt8) : worth (l ++ [b]) = worth l * 256 + b.toNat := by simp [worth]

theorem worth_lt (l : List UInt8) : worth l < 256 ^ l.length := by
  refine snoc_ind (Q := fun l => worth l < 256 ^ l.length) (by simp [worth]) (fun l b ih => ?_) l
  · rw [worth_snoc, List.length_append, List.length_singleton, Nat.pow_succ]
    have := b.toNat_lt
    omega

end Go.Proofs.Ytkblpbpmaoofgaa
