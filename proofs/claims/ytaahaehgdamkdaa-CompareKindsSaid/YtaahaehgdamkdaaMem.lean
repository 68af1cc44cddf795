/- Words for memory: what only grows, cells that lie behind an address, a list of bytes behind a slice. Conditions: none. -/
import Derived.Test.YtaahaehgdamkdaaReg
import Derived.WalkKit
import Derived.WalkSpells
import Derived.WalkLawsBesides
import Derived.Laws.CopyOwn
import Derived.Maps.AppendAt
import Derived.Deep.OwnRows
import Derived.Lib.AppendStr
import Derived.Laws.IdiomStrings
namespace Go.Proofs.Ytaahaehgdamkdaa
open Go Go.RowKit Go.Lib

theorem hid {p : Prop} (h : p) : Hid p := h

/-- what was there is there as it was -/
def Ext (w w' : World) : Prop := Below w.heap.size w w'

theorem Ext.refl (w : World) : Ext w w := Below.refl _ _
theorem Ext.trans {x y z : World} (h : Ext x y) (k : Ext y z) : Ext x z := Below.trans h (Below.mono k h.size)
theorem Ext.drew (w : World) : Ext w w.drew := (Below.refl _ _).drew
theorem Ext.drewN (w : World) (n : Nat) : Ext w (w.drewN n) := ⟨rfl, rfl, rfl, Nat.le_refl _, fun _ _ => rfl⟩
theorem Ext.alloc (w : World) (o : Obj) : Ext w (w.alloc o) := (Below.refl _ _).alloc (Nat.le_refl _) o
theorem Ext.then_drew {x y : World} (h : Ext x y) : Ext x y.drew := h.trans (Ext.drew y)
theorem Ext.then_alloc {x y : World} (h : Ext x y) (o : Obj) : Ext x (y.alloc o) := h.trans (Ext.alloc y o)
theorem Ext.cell {w w' : World} (h : Ext w w') {p : Addr} {u : Value} (hc : w.cell? p = some u) : w'.cell? p = some u :=
  (Below.cell h (World.block_lt_of_cell? w p hc)).trans hc
theorem Ext.block {w w' : World} (h : Ext w w') {k : Nat} {o : Obj} (hc : w.heap[k]? = some o) : w'.heap[k]? = some o :=
  (Below.block h k (Array.getElem?_eq_some_iff.1 hc).1).trans hc
/-- a world that grew, but for one block that was not there at first -/
theorem Ext.grown {x y z : World} {row : Option Nat} (h : Ext x y) (hg : y.grownBy z row) (hr : ∀ k, row = some k → x.heap.size ≤ k) : Ext x z :=
  Below.grown h hg h.size hr
theorem Ext.setCell {x y : World} (h : Ext x y) {p : Addr} (hp : x.heap.size ≤ p.block) (u : Value) : Ext x (y.setCell p u) := Below.setCell h hp u

theorem add_two (a : Addr) (i j : Nat) : (a.add i).add j = a.add (i + j) := by
  unfold Addr.add
  by_cases hi : i = 0 <;> by_cases hj : j = 0 <;> simp [hi, hj, Nat.add_assoc]

/-- the cells xs lie from A on -/
def Lies (w : World) (A : Option Addr) (xs : List Value) : Prop := xs ≠ [] → ∃ ad, A = some ad ∧ ∀ j u, xs[j]? = some u → w.cell? (ad.add j) = some u

theorem Lies.ext {w w' : World} {A : Option Addr} {xs : List Value} (h : Lies w A xs) (e : Ext w w') : Lies w' A xs := fun hx => by
  obtain ⟨ad, ha, hc⟩ := h hx
  exact ⟨ad, ha, fun j u hu => e.cell (hc j u hu)⟩
theorem Lies.take {w : World} {A : Option Addr} {xs : List Value} (h : Lies w A xs) (n : Nat) : Lies w A (xs.take n) := fun hx => by
  obtain ⟨ad, ha, hc⟩ := h (by intro e; subst e; simp at hx)
  refine ⟨ad, ha, fun j u hu => hc j u ?_⟩
  rw [List.getElem?_take] at hu
  split at hu
  · exact hu
  · cases hu
/-- the cut that the model makes: at the capacity's end the address is kept -/
theorem Lies.cut {w : World} {A : Option Addr} {xs : List Value} {k cap : Nat} (h : Lies w A xs) (hc : xs.length ≤ cap) :
    Lies w (if cap = k then A else A.map (·.add k)) (xs.drop k) := fun hx => by
  have hk : k < xs.length := by
    rcases Nat.lt_or_ge k xs.length with h1 | h1
    · exact h1
    · exact absurd (List.drop_eq_nil_of_le h1) hx
  obtain ⟨ad, rfl, hcell⟩ := h (by intro e; subst e; simp at hk)
  rw [if_neg (by omega)]
  refine ⟨ad.add k, rfl, fun j u hu => ?_⟩
  rw [add_two]
  exact hcell _ u (by rw [← hu, List.getElem?_drop])
/-- bytes as cells -/
def bv (b : UInt8) : Value := .int .u8 (b.toNat : Int)
def bvs (l : List UInt8) : List Value := l.map bv
theorem bvs_length (l : List UInt8) : (bvs l).length = l.length := by simp [bvs]
theorem bvs_append (l m : List UInt8) : bvs (l ++ m) = bvs l ++ bvs m := by simp [bvs]
theorem bvs_one (l : List UInt8) : ∀ u ∈ bvs l, u.oneCell' = true := by
  intro u hu
  obtain ⟨_, _, rfl⟩ := List.mem_map.1 hu
  rfl
theorem bvs_zeros (n : Nat) : bvs (List.replicate n 0) = List.replicate n (.int .u8 0) := by simp [bvs, bv]
theorem bvs_take (l : List UInt8) (n : Nat) : bvs (l.take n) = (bvs l).take n := by simp [bvs, List.map_take]
theorem bvs_drop (l : List UInt8) (n : Nat) : bvs (l.drop n) = (bvs l).drop n := by simp [bvs, List.map_drop]

/-- the slice v reads as the bytes l -/
def Bytes (w : World) (v : Value) (l : List UInt8) : Prop := ∃ A c, v = .slice A l.length c ∧ l.length ≤ c ∧ c ≤ maxLen ∧ Lies w A (bvs l)

theorem Bytes.ext {w w' : World} {v : Value} {l : List UInt8} (h : Bytes w v l) (e : Ext w w') : Bytes w' v l := by
  obtain ⟨A, c, h1, h2, h3, h4⟩ := h
  exact ⟨A, c, h1, h2, h3, h4.ext e⟩
theorem own_len {w : World} {base n : Nat} {e : TypeId} {v : Value} {l : List UInt8} (h : w.ownsRow base e 1 v n (bvs l)) : w.ownsRow base e 1 v l.length (bvs l) := by
  have hl : l.length = n := by have := h.1; rwa [bvs_length, Nat.mul_one] at this
  rw [hl]; exact h

/-- a struct in a cell and a plain value are answered -/
theorem ret_cell_tmp {P : Program} {fn : Func} {p u : Tmp} {ty : TypeId} (h : fn.results = #[.cell p ty, .tmp u]) (tmps : Array Value) (w : World) (g : Nat) (t : TypeId) (cs : Array Value) (fr : Nat × Nat) (d : TypeDesc)
    (hp : tmps.getD p undef = .pointer (some ⟨g, 0, none⟩)) (hg : w.heap[g]? = some (.cells cs t fr))
    (hu : P.underlying ty = some d) (hd : (match d with | .struct _ | .array _ _ => true | _ => false) = true) (hi : (P.info? ty).map (·.size) = some cs.size) :
    (results fn tmps).run P w = .ok (.tuple #[.agg cs, tmps.getD u undef]) w := by
  have hp' : tmps[p]?.getD undef = .pointer (some ⟨g, 0, none⟩) := by simpa using hp
  simp [results, h, hp', asAddr, run_loadVar_row w g t ty cs fr d hg hu hd hi]

theorem size_toList (s : ByteArray) : s.data.toList.length = s.size := rfl

/-- copy out of a string that fits, into a row of bytes -/
theorem wpList_copy_str {P : Program} {w : World} {ops : Array Oper} {rest : List Oper} {o : Oper} {a : Act} {Q : Exit → Act → World → Prop} (hgd : o.guard = none) (d x : Operand) (dT sT : TypeId)
    (ho : o.op = .call { callee := .builtin .copy, args := #[d, x], argTypes := #[dT, sT] }) (elem : TypeId) (hu : P.underlying dT = some (.slice elem)) (hsz : (P.info? elem).map (·.size) = some 1)
    (dp : Option Addr) (dLen dCap : Nat) (s : ByteArray) (hd : a.eval d = .slice dp dLen dCap) (hs : a.eval x = .string s)
    (g off : Nat) (cur : List UInt8) (t : TypeId) (hg : w.heap[g]? = some (.cells (bvs cur).toArray t (0, 0))) (hle : s.size ≤ dLen)
    (hpos : 0 < s.size → dp = some ⟨g, off, none⟩) (hfit : off + s.size ≤ cur.length)
    (h : ∀ w', Hid (w'.heap[g]? = some (.cells (bvs (cur.take off ++ (s.data.toList ++ cur.drop (off + s.size)))).toArray t (0, 0))) → w.grownBy w' (some g) → wpList P ops Q rest (a.put o.dst (goInt s.size)) w') :
    wpList P ops Q (o :: rest) a w := by
  refine wpList_plain hgd fun K hK => ?_
  cases hq : P.info? elem with
  | none => simp [hq] at hsz
  | some i =>
    by_cases h0 : s.size = 0
    · have hrun : (Builtin.copy_ #[dT, sT] o.type #[.slice dp dLen dCap, .string s]).run P w = .ok (goInt s.size) w := by
        cases dp <;> simp [Builtin.copy_, run_underlying hu, Builtin.lenOf, Builtin.firstCells, sizeOf, typeInfo, hq, h0, storeCells]
      unfold Oper.wp
      simp [execOp, ho, resolve, invoke, builtin, hd, hs, hrun, Result.andThen]
      refine hK _ _ (h w ?_ (World.grownBy.refl w _))
      have hnil : s.data.toList = [] := List.eq_nil_of_length_eq_zero (by rw [size_toList]; exact h0)
      show _ = _
      rw [hnil, h0]
      simpa using hg
    · have hdp := hpos (by omega)
      subst hdp
      have hlen : (bvs s.data.toList).length = s.size := by rw [bvs_length, size_toList]
      have hst := run_storeCells_at P g off t (bvs s.data.toList) 0 (bvs cur).toArray w hg (by simp [bvs_length]; omega) (bvs_one _)
      have htk : List.take s.size (List.map (fun b : UInt8 => Value.int IntKind.u8 (b.toNat : Int)) s.data.toList) = bvs s.data.toList :=
        List.take_of_length_le (by rw [List.length_map, size_toList]; exact Nat.le_refl _)
      rw [hlen] at hst
      simp only [Nat.add_zero] at hst
      have hrun : (Builtin.copy_ #[dT, sT] o.type #[.slice (some ⟨g, off, none⟩) dLen dCap, .string s]).run P w =
          .ok (goInt s.size) (w.setRow g ((bvs cur).take off ++ bvs s.data.toList ++ (bvs cur).drop (off + s.size)).toArray) := by
        simp [Builtin.copy_, run_underlying hu, Builtin.lenOf, Builtin.firstCells, sizeOf, typeInfo, hq, Nat.min_eq_left hle]
        rw [htk, hst]
        simp [Result.andThen]
      unfold Oper.wp
      simp [execOp, ho, resolve, invoke, builtin, hd, hs, hrun, Result.andThen]
      refine hK _ _ (h _ ?_ ⟨rfl, rfl, rfl, by simp [World.setRow], fun k _ hk => setRow_other w g k _ (fun e => hk (by rw [e]))⟩)
      show _ = _
      have h2 := setRow_heap w g _ ((bvs cur).take off ++ bvs s.data.toList ++ (bvs cur).drop (off + s.size)).toArray t _ hg
      simpa [bvs_append, bvs_take, bvs_drop] using h2

end Go.Proofs.Ytaahaehgdamkdaa
