/- Just one of less, equal, greater holds of two values: the ways, one walk each. Conditions: the reach of a string, numbers within their kinds. -/
import Derived.Test.YtaahaehgdamkdaaCAwk
import Derived.Test.YtaahaehgdamkdaaVSmall
import Derived.Test.YtaahaehgdamkdaaBase
import Derived.BigQuiet
namespace Go.Proofs.Ytaahaehgdamkdaa
open Go Go.RowKit

theorem blocks2d (w : World) (o1 o2 : Obj) : (((w.alloc o1).alloc o2).drew).heap[w.heap.size]? = some o1 ∧ (((w.alloc o1).alloc o2).drew).heap[w.heap.size + 1]? = some o2 ∧ Ext w ((w.alloc o1).alloc o2).drew := by
  have h1 := ((Ext.alloc (w.alloc o1) o2).then_drew).block (heap_alloc_new w o1)
  have h2 := (Ext.drew ((w.alloc o1).alloc o2)).block (heap_alloc2_new w o1 o2)
  exact ⟨h1, h2, (((Ext.alloc w o1).then_alloc o2).then_drew)⟩

/-- what the slots of the region hold -/
def coneG (k : Nat) (n : Int) (b : Nat) (t : ByteArray) (l : Nat) (m : Int) (c : Nat) (u : ByteArray) (_g5 _g6 : Nat) (q1 q2 q3 q4 q5 q6 : Bool) : Nat → Value → World → Prop
  | 0, v, _ => v = .agg #[.int .u8 (k : Int), .int .i64 n, .int .u64 (b : Int), .string t]
  | 1, v, _ => v = .agg #[.int .u8 (l : Int), .int .i64 m, .int .u64 (c : Int), .string u]
  | 2, v, _ => v = .bool q1
  | 3, v, _ => v = .agg #[.int .u8 (k : Int), .int .i64 n, .int .u64 (b : Int), .string t]
  | 4, v, _ => v = .agg #[.int .u8 (l : Int), .int .i64 m, .int .u64 (c : Int), .string u]
  | 5, v, _ => v = .bool q2
  | 6, v, _ => v = .agg #[.int .u8 (k : Int), .int .i64 n, .int .u64 (b : Int), .string t]
  | 7, v, _ => v = .agg #[.int .u8 (l : Int), .int .i64 m, .int .u64 (c : Int), .string u]
  | 8, v, _ => v = .bool q3
  | 9, v, _ => v = .agg #[.int .u8 (k : Int), .int .i64 n, .int .u64 (b : Int), .string t]
  | 10, v, _ => v = .agg #[.int .u8 (l : Int), .int .i64 m, .int .u64 (c : Int), .string u]
  | 11, v, _ => v = .bool q4
  | 12, v, _ => v = .agg #[.int .u8 (k : Int), .int .i64 n, .int .u64 (b : Int), .string t]
  | 13, v, _ => v = .agg #[.int .u8 (l : Int), .int .i64 m, .int .u64 (c : Int), .string u]
  | 14, v, _ => v = .bool q5
  | 15, v, _ => v = .agg #[.int .u8 (k : Int), .int .i64 n, .int .u64 (b : Int), .string t]
  | 16, v, _ => v = .agg #[.int .u8 (l : Int), .int .i64 m, .int .u64 (c : Int), .string u]
  | 17, v, _ => v = .bool q6
  | 18, v, _ => v = .bool q1
  | 19, v, _ => v = .bool q2
  | 20, v, _ => v = .bool q3
  | 21, v, _ => v = .bool q4
  | 22, v, _ => v = .bool q5
  | 23, v, _ => v = .bool q6
  | _, _, _ => True
theorem coneG_st (k : Nat) (n : Int) (b : Nat) (t : ByteArray) (l : Nat) (m : Int) (c : Nat) (u : ByteArray) (g5 g6 : Nat) (q1 q2 q3 q4 q5 q6 : Bool) : ∀ i9 z9 x9 y9, coneG k n b t l m c u g5 g6 q1 q2 q3 q4 q5 q6 i9 z9 x9 → Ext x9 y9 → coneG k n b t l m c u g5 g6 q1 q2 q3 q4 q5 q6 i9 z9 y9 := by
  intro i9 z9 x9 y9 h e
  unfold coneG at *
  split at h <;> first | exact h | exact Bytes.ext h e
end Go.Proofs.Ytaahaehgdamkdaa
