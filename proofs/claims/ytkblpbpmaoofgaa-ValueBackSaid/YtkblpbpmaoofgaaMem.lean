/- Words for memory: what only grows, cells that lie behind an address, a list of bytes behind a slice. Conditions: none. -/
import Derived.Test.YtkblpbpmaoofgaaReg
import Derived.WalkKit
import Derived.WalkSpells
import Derived.WalkLawsBesides
import Derived.Laws.CopyOwn
import Derived.Maps.AppendAt
import Derived.Deep.OwnRows
import Derived.Lib.AppendStr
import Derived.Laws.IdiomStrings
namespace Go.Proofs.Ytkblpbpmaoofgaa
open Go Go.RowKit Go.Lib

theorem hid {p : Prop} (h : p) : Hid p := h

/-- what was there is there as it was -/
def Ext (w w' : World) : Prop := Below w.heap.size w w'

theorem Ext.refl (w : World) : Ext w w := Below.refl _ _
theorem Ext.trans {x y z : World} (h : Ext x y) (k : Ext y z) : Ext x z := Below.trans h (Below.mono k h.size)
theorem Ext.drew (w : World) : Ext w w.drew := (Below.refl _ _).drew
theorem Ext.drewN (w : World) (n : Nat) : Ext w (w.drewN n) := ⟨rfl, rfl, rfl, Nat.le_refl _, fun _ _ => rfl⟩
theorem Ext.alloc (w : World) (o : Obj) : Ext w (w.alloc o) := (Below.refl _ _).alloc (Nat.le_refl _) o
theorem Ext.then_drew {x y : World} (h : Ext x y) : Ext x y.drew := h.trans (Ext.drew y)
theorem Ext.then_alloc {x y : World} (h : Ext x y) (o : Obj) : Ext x (y.alloc o) := h.trans (Ext.alloc y o)
theorem Ext.cell {w w' : World} (h : Ext w w') {p : Addr} {u : Value} (hc : w.cell? p = some u) : w'.cell? p = some u :=
  (Below.cell h (World.block_lt_of_cell? w p hc)).trans hc
theorem Ext.block {w w' : World} (h : Ext w w') {k : Nat} {o : Obj} (hc : w.heap[k]? = some o) : w'.heap[k]? = some o :=
  (Below.block h k (Array.getElem?_eq_some_iff.1 hc).1).trans hc
/-- a world that grew, but for one block that was not there at first -/
theorem Ext.grown {x y z : World} {row : Option Nat} (h : Ext x y) (hg : y.grownBy z row) (hr : ∀ k, row = some k → x.heap.size ≤ k) : Ext x z :=
  Below.grown h hg h.size hr
theorem Ext.setCell {x y : World} (h : Ext x y) {p : Addr} (hp : x.heap.size ≤ p.block) (u : Value) : Ext x (y.setCell p u) := Below.setCell h hp u

/-- the cells xs lie from A on -/
def Lies (w : World) (A : Option Addr) (xs : List Value) : Prop := xs ≠ [] → ∃ ad, A = some ad ∧ ∀ j u, xs[j]? = some u → w.cell? (ad.add j) = some u

theorem Lies.nil (w : World) (A : Option Addr) : Lies w A [] := fun h => absurd rfl h
theorem Lies.ext {w w' : World} {A : Option Addr} {xs : List Value} (h : Lies w A xs) (e : Ext w w') : Lies w' A xs := fun hx => by
  obtain ⟨ad, ha, hc⟩ := h hx
  exact ⟨ad, ha, fun j u hu => e.cell (hc j u hu)⟩
theorem Lies.take {w : World} {A : Option Addr} {xs : List Value} (h : Lies w A xs) (n : Nat) : Lies w A (xs.take n) := fun hx => by
  obtain ⟨ad, ha, hc⟩ := h (by intro e; subst e; simp at hx)
  refine ⟨ad, ha, fun j u hu => hc j u ?_⟩
  rw [List.getElem?_take] at hu
  split at hu
  · exact hu
  · cases hu
/-- out of a row known whole -/
theorem Lies.of_row {w : World} {g : Nat} {cs : Array Value} {t : TypeId} {fr : Nat × Nat} (hg : w.heap[g]? = some (.cells cs t fr)) (off n : Nat) :
    Lies w (some ⟨g, off, none⟩) ((cs.toList.drop off).take n) := fun _ => ⟨_, rfl, fun j u hu => by
  rw [Addr.add_lit, cell_of_row w g _ cs t fr hg]
  rw [List.getElem?_take] at hu
  split at hu
  · rw [List.getElem?_drop] at hu; simpa using hu
  · cases hu⟩
theorem Lies.of_own {w : World} {base : Nat} {e : TypeId} {size n : Nat} {A : Option Addr} {c : Nat} {xs : List Value} (h : w.ownsRow base e size (.slice A n c) n xs) : Lies w A xs := fun hx => by
  rcases h.2 with ⟨hv, hn⟩ | ⟨g, cap, cur, hv, _⟩
  · have := h.1
    rw [hn, Nat.zero_mul] at this
    exact absurd (List.eq_nil_of_length_eq_zero this) hx
  · have hA : A = some ⟨g, 0, none⟩ := by injection hv
    subst hA
    exact ⟨_, rfl, h.cells (g := g) rfl⟩

/-- bytes as cells -/
def bv (b : UInt8) : Value := .int .u8 (b.toNat : Int)
def bvs (l : List UInt8) : List Value := l.map bv
theorem bvs_length (l : List UInt8) : (bvs l).length = l.length := by simp [bvs]
theorem bvs_append (l m : List UInt8) : bvs (l ++ m) = bvs l ++ bvs m := by simp [bvs]
theorem bvs_one (l : List UInt8) : ∀ u ∈ bvs l, u.oneCell' = true := by
  intro u hu
  obtain ⟨_, _, rfl⟩ := List.mem_map.1 hu
  rfl
theorem bvs_zeros (n : Nat) : bvs (List.replicate n 0) = List.replicate n (.int .u8 0) := by simp [bvs, bv]
theorem bvs_take (l : List UInt8) (n : Nat) : bvs (l.take n) = (bvs l).take n := by simp [bvs, List.map_take]
theorem bvs_drop (l : List UInt8) (n : Nat) : bvs (l.drop n) = (bvs l).drop n := by simp [bvs, List.map_drop]

/-- the slice v reads as the bytes l -/
def Bytes (w : World) (v : Value) (l : List UInt8) : Prop := ∃ A c, v = .slice A l.length c ∧ l.length ≤ c ∧ c ≤ maxLen ∧ Lies w A (bvs l)

theorem Bytes.ext {w w' : World} {v : Value} {l : List UInt8} (h : Bytes w v l) (e : Ext w w') : Bytes w' v l := by
  obtain ⟨A, c, h1, h2, h3, h4⟩ := h
  exact ⟨A, c, h1, h2, h3, h4.ext e⟩
theorem Bytes.nil (w : World) : Bytes w (.slice none 0 0) [] := ⟨none, 0, rfl, Nat.le_refl _, by simp [maxLen], Lies.nil _ _⟩
theorem Bytes.of_own {w : World} {base : Nat} {e : TypeId} {v : Value} {n : Nat} {l : List UInt8} (h : w.ownsRow base e 1 v n (bvs l)) : Bytes w v l := by
  have hl : l.length = n := by have := h.1; rwa [bvs_length, Nat.mul_one] at this
  subst hl
  rcases h.2 with ⟨hv, hn⟩ | ⟨g, cap, cur, hv, _, _, hnc, hcm, _⟩
  · have : l = [] := List.eq_nil_of_length_eq_zero hn
    subst this
    subst hv
    exact Bytes.nil w
  · subst hv
    exact ⟨_, cap, rfl, hnc, hcm, Lies.of_own h⟩
theorem Bytes.of_row {w : World} {g : Nat} {l : List UInt8} {t : TypeId} {fr : Nat × Nat} (hg : w.heap[g]? = some (.cells (bvs l).toArray t fr)) (hm : l.length ≤ maxLen) : Bytes w (.slice (some ⟨g, 0, none⟩) l.length l.length) l := by
  refine ⟨_, _, rfl, Nat.le_refl _, hm, ?_⟩
  have h := Lies.of_row hg 0 (bvs l).length
  simpa using h

/-- what is owned has a shape -/
theorem own_shape {w : World} {base : Nat} {e : TypeId} {size n : Nat} {v : Value} {xs : List Value} (h : w.ownsRow base e size v n xs) : ∃ A c, v = .slice A n c ∧ n ≤ c ∧ c ≤ maxLen ∧ Lies w A xs := by
  rcases h.2 with ⟨hv, hn⟩ | ⟨g, cap, cur, hv, _, _, hnc, hcm, _⟩
  · subst hv; subst hn
    have : xs = [] := List.eq_nil_of_length_eq_zero (by simpa using h.1)
    subst this
    exact ⟨none, 0, rfl, Nat.le_refl _, by simp [maxLen], Lies.nil _ _⟩
  · subst hv
    exact ⟨_, cap, rfl, hnc, hcm, Lies.of_own h⟩

theorem own_build (w : World) (base : Nat) (e : TypeId) (size n : Nat) (cs : Array Value) (hb : base ≤ w.heap.size) (hm : n ≤ maxLen) (hs : cs.size = n * size) :
    (w.alloc (.cells cs e)).ownsRow base e size (.slice (some ⟨w.heap.size, 0, none⟩) n n) n cs.toList :=
  World.ownsRow_lit w cs n hb hm hs

theorem own_block_ge {w : World} {base : Nat} {e : TypeId} {size n : Nat} {v : Value} {xs : List Value} (h : w.ownsRow base e size v n xs) : ∀ k, v.ownBlock = some k → base ≤ k := fun k hk => (h.lt k hk).1

/-- append onto a row of the call's own, from wherever the new cells lie, nil let in -/
theorem wpList_append_lies {P : Program} (w : World) {ops : Array Oper} {rest : List Oper} {o : Oper} {a : Act} {Q : Exit → Act → World → Prop} (hgd : o.guard = none) (s x : Operand) (t : TypeId)
    (ho : o.op = .call { callee := .builtin .append, args := #[s, x], argTypes := #[t, t] })
    (base : Nat) (e : TypeId) (z : Value) (size bytes : Nat) (ht : P.underlying t = some (.slice e)) (hinfo : (P.info? e).map (fun i => (i.zero, i.size, i.bytes)) = some (some z, size, bytes))
    (hzs : z.cells.size = size) (hsz : 0 < size)
    (v : Value) (n : Nat) (xs : List Value) (hs : a.eval s = v) (hown : w.ownsRow base e size v n xs)
    (A : Option Addr) (m c : Nat) (news : List Value) (hx : a.eval x = .slice A m c) (hl : news.length = m * size) (hlies : Lies w A news) (h1 : ∀ u ∈ news, u.oneCell' = true)
    (h63 : n + m ≤ maxLen) (hbytes : (n + m) * bytes ≤ 140737488355328) (hbase : base ≤ w.heap.size)
    (h : ∀ v' w', w'.ownsRow base e size v' (n + m) (xs ++ news) → w.grownBy w' v.ownBlock → (v'.ownBlock = v.ownBlock ∨ v'.ownBlock = some w.heap.size) → wpList P ops Q rest (a.put o.dst v') w') :
    wpList P ops Q (o :: rest) a w := by
  obtain ⟨i, hi, hz, hi1, hi2⟩ := info_parts hinfo
  have fin : ∀ v' w', (Builtin.append_ #[t, t] o.type #[v, .slice A m c]).run P w = .ok v' w' → wpList P ops Q rest (a.put o.dst v') w' → wpList P ops Q (o :: rest) a w := by
    intro v' w' hr hh
    refine wpList_plain hgd fun K hK => ?_
    unfold Oper.wp execOp
    simp only [ho, resolve, invoke, builtin, Sem.run_bind, Sem.run_pure, Result.andThen_ok, List.map_toArray, List.map_cons, List.map_nil, hs, hx, hr]
    exact hK _ _ hh
  have empty : m = 0 → A = none → wpList P ops Q (o :: rest) a w := by
    intro hm hA
    subst hm; subst hA
    have hn : news = [] := List.eq_nil_of_length_eq_zero (by simpa using hl)
    subst hn
    have hr : (Builtin.append_ #[t, t] o.type #[v, .slice none 0 c]).run P w = .ok v w := by
      rcases hown.2 with ⟨rfl, rfl⟩ | ⟨g, cap, cur, rfl, _, _, hnc, _⟩
      · simp [Builtin.append_, run_underlying ht, sizeOf, typeInfo, hi, Builtin.lenOf, Builtin.firstCells]
      · simp [Builtin.append_, run_underlying ht, sizeOf, typeInfo, hi, Builtin.lenOf, Builtin.firstCells, hnc, storeCells]
    exact fin v w hr (h v w (by simpa using hown) (World.grownBy.refl _ _) (Or.inl rfl))
  cases A with
  | none =>
    refine empty ?_ rfl
    rcases Nat.eq_zero_or_pos m with h0 | h0
    · exact h0
    · have hne : news ≠ [] := fun e => by
        subst e
        have := Nat.mul_pos h0 hsz
        simp only [List.length_nil] at hl
        omega
      obtain ⟨ad, he, _⟩ := hlies hne
      cases he
  | some ad =>
    have hcells : ∀ j u, news[j]? = some u → w.cell? (ad.add j) = some u := by
      intro j u hu
      obtain ⟨ad', he, hc⟩ := hlies (fun e => by subst e; simp at hu)
      injection he with he
      subst he
      exact hc j u hu
    obtain ⟨v', w', hr, h2, h3, _, h5⟩ := run_append_own_at (P := P) w base t o.type e i z size bytes ht hi hz hi1 hi2 hzs hsz v n xs hown ad m c news hl hcells h1 h63 hbytes hbase
    exact fin v' w' hr (h v' w' h2 h3 h5)

/-- a row that is known whole, made since block 'base' -/
theorem own_row {w : World} {base g : Nat} {e : TypeId} {l : List UInt8} (hg : w.heap[g]? = some (.cells (bvs l).toArray e (0, 0))) (hb : base ≤ g) (hm : l.length ≤ maxLen) :
    w.ownsRow base e 1 (.slice (some ⟨g, 0, none⟩) l.length l.length) l.length (bvs l) :=
  ⟨by rw [bvs_length, Nat.mul_one], .inr ⟨g, l.length, _, rfl, hb, hg, Nat.le_refl _, hm, by simp [bvs_length], by rw [Nat.mul_one]; simp [← bvs_take]⟩⟩

theorem own_len {w : World} {base n : Nat} {e : TypeId} {v : Value} {l : List UInt8} (h : w.ownsRow base e 1 v n (bvs l)) : w.ownsRow base e 1 v l.length (bvs l) := by
  have hl : l.length = n := by have := h.1; rwa [bvs_length, Nat.mul_one] at this
  rw [hl]; exact h

/-- append a text onto a row of bytes of the call's own -/
theorem wpList_append_str {P : Program} (w : World) {ops : Array Oper} {rest : List Oper} {o : Oper} {a : Act} {Q : Exit → Act → World → Prop} (hgd : o.guard = none) (s x : Operand) (t u : TypeId)
    (ho : o.op = .call { callee := .builtin .append, args := #[s, x], argTypes := #[t, u] })
    (base : Nat) (e : TypeId) (ht : P.underlying t = some (.slice e)) (hu : P.underlying u = some .string) (hinfo : (P.info? e).map (fun i => (i.zero, i.size, i.bytes)) = some (some (.int .u8 0), 1, 1))
    (v : Value) (n : Nat) (xs : List Value) (hs : a.eval s = v) (hown : w.ownsRow base e 1 v n xs)
    (y : ByteArray) (hx : a.eval x = .string y) (hroom : n + y.size ≤ 140737488355328) (hbase : base ≤ w.heap.size)
    (h : ∀ v' w', w'.ownsRow base e 1 v' (n + y.size) (xs ++ bvs y.data.toList) → w.grownBy w' v.ownBlock → wpList P ops Q rest (a.put o.dst v') w') :
    wpList P ops Q (o :: rest) a w := by
  obtain ⟨i, hi, hz, hi1, hi2⟩ := info_parts hinfo
  obtain ⟨v', w', hr, h2, h3, _⟩ := run_append_own_string (P := P) w base t u o.type e i ht hu hi hz hi1 hi2 v n xs hown y (by simp only [maxLen]; omega) hroom hbase
  refine wpList_plain hgd fun K hK => ?_
  unfold Oper.wp execOp
  simp only [ho, resolve, invoke, builtin, Sem.run_bind, Sem.run_pure, Result.andThen_ok, List.map_toArray, List.map_cons, List.map_nil, hs, hx, hr]
  exact hK _ _ (h v' w' h2 h3)

/-- a struct of three cells, stored cell by cell -/
theorem set3 {x : World} {g : Nat} {u0 u1 u2 a b c : Value} {t : TypeId} (h : x.heap[g]? = some (.cells #[u0, u1, u2] t (0, 0))) :
    (((x.setCell ⟨g, 0, none⟩ a).setCell ⟨g, 1, none⟩ b).setCell ⟨g, 2, none⟩ c).heap[g]? = some (.cells #[a, b, c] t (0, 0)) := by
  have h1 := heap_setCell_same x g 0 _ t a h
  have h2 := heap_setCell_same _ g 1 _ t b h1
  have h3 := heap_setCell_same _ g 2 _ t c h2
  simpa using h3

/-- a struct in a cell and a plain value are answered -/
theorem ret_cell_tmp {P : Program} {fn : Func} {p u : Tmp} {ty : TypeId} (h : fn.results = #[.cell p ty, .tmp u]) (tmps : Array Value) (w : World) (g : Nat) (t : TypeId) (cs : Array Value) (fr : Nat × Nat) (d : TypeDesc)
    (hp : tmps.getD p undef = .pointer (some ⟨g, 0, none⟩)) (hg : w.heap[g]? = some (.cells cs t fr))
    (hu : P.underlying ty = some d) (hd : (match d with | .struct _ | .array _ _ => true | _ => false) = true) (hi : (P.info? ty).map (·.size) = some cs.size) :
    (results fn tmps).run P w = .ok (.tuple #[.agg cs, tmps.getD u undef]) w := by
  have hp' : tmps[p]?.getD undef = .pointer (some ⟨g, 0, none⟩) := by simpa using hp
  simp [results, h, hp', asAddr, run_loadVar_row w g t ty cs fr d hg hu hd hi]

theorem size_toList (s : ByteArray) : s.data.toList.length = s.size := rfl

/-- copy out of a string that fits, into a row of bytes -/
theorem wpList_copy_str {P : Program} {w : World} {ops : Array Oper} {rest : List Oper} {o : Oper} {a : Act} {Q : Exit → Act → World → Prop} (hgd : o.guard = none) (d x : Operand) (dT sT : TypeId)
    (ho : o.op = .call { callee := .builtin .copy, args := #[d, x], argTypes := #[dT, sT] }) (elem : TypeId) (hu : P.underlying dT = some (.slice elem)) (hsz : (P.info? elem).map (·.size) = some 1)
    (dp : Option Addr) (dLen dCap : Nat) (s : ByteArray) (hd : a.eval d = .slice dp dLen dCap) (hs : a.eval x = .string s)
    (g off : Nat) (cur : List UInt8) (t : TypeId) (hg : w.heap[g]? = some (.cells (bvs cur).toArray t (0, 0))) (hle : s.size ≤ dLen)
    (hpos : 0 < s.size → dp = some ⟨g, off, none⟩) (hfit : off + s.size ≤ cur.length)
    (h : ∀ w', Hid (w'.heap[g]? = some (.cells (bvs (cur.take off ++ (s.data.toList ++ cur.drop (off + s.size)))).toArray t (0, 0))) → w.grownBy w' (some g) → wpList P ops Q rest (a.put o.dst (goInt s.size)) w') :
    wpList P ops Q (o :: rest) a w := by
  refine wpList_plain hgd fun K hK => ?_
  cases hq : P.info? elem with
  | none => simp [hq] at hsz
  | some i =>
    by_cases h0 : s.size = 0
    · have hrun : (Builtin.copy_ #[dT, sT] o.type #[.slice dp dLen dCap, .string s]).run P w = .ok (goInt s.size) w := by
        cases dp <;> simp [Builtin.copy_, run_underlying hu, Builtin.lenOf, Builtin.firstCells, sizeOf, typeInfo, hq, h0, storeCells]
      unfold Oper.wp
      simp [execOp, ho, resolve, invoke, builtin, hd, hs, hrun, Result.andThen]
      refine hK _ _ (h w ?_ (World.grownBy.refl w _))
      have hnil : s.data.toList = [] := List.eq_nil_of_length_eq_zero (by rw [size_toList]; exact h0)
      show _ = _
      rw [hnil, h0]
      simpa using hg
    · have hdp := hpos (by omega)
      subst hdp
      have hlen : (bvs s.data.toList).length = s.size := by rw [bvs_length, size_toList]
      have hst := run_storeCells_at P g off t (bvs s.data.toList) 0 (bvs cur).toArray w hg (by simp [bvs_length]; omega) (bvs_one _)
      have htk : List.take s.size (List.map (fun b : UInt8 => Value.int IntKind.u8 (b.toNat : Int)) s.data.toList) = bvs s.data.toList :=
        List.take_of_length_le (by rw [List.length_map, size_toList]; exact Nat.le_refl _)
      rw [hlen] at hst
      simp only [Nat.add_zero] at hst
      have hrun : (Builtin.copy_ #[dT, sT] o.type #[.slice (some ⟨g, off, none⟩) dLen dCap, .string s]).run P w =
          .ok (goInt s.size) (w.setRow g ((bvs cur).take off ++ bvs s.data.toList ++ (bvs cur).drop (off + s.size)).toArray) := by
        simp [Builtin.copy_, run_underlying hu, Builtin.lenOf, Builtin.firstCells, sizeOf, typeInfo, hq, Nat.min_eq_left hle]
        rw [htk, hst]
        simp [Result.andThen]
      unfold Oper.wp
      simp [execOp, ho, resolve, invoke, builtin, hd, hs, hrun, Result.andThen]
      refine hK _ _ (h _ ?_ ⟨rfl, rfl, rfl, by simp [World.setRow], fun k _ hk => setRow_other w g k _ (fun e => hk (by rw [e]))⟩)
      show _ = _
      have h2 := setRow_heap w g _ ((bvs cur).take off ++ bvs s.data.toList ++ (bvs cur).drop (off + s.size)).toArray t _ hg
      simpa [bvs_append, bvs_take, bvs_drop] using h2

/-- string(v) -/
theorem run_string_bytes {P : Program} {w : World} {src dst e : TypeId} {v : Value} {l : List UInt8} (hs : P.underlying src = some (.slice e)) (he : P.underlying e = some (.int .u8)) (hd : P.underlying dst = some .string)
    (h : Bytes w v l) : (convert src dst v).run P w = .ok (.string ⟨l.toArray⟩) w := by
  obtain ⟨A, c, rfl, _, _, hl⟩ := h
  cases l with
  | nil =>
    cases A with
    | none =>
      show (convert src dst (.slice none 0 c)).run P w = _
      rw [run_convert_bytes_string w src dst e none 0 c hs he hd]
      simp [Conv.bytesToString]
      rfl
    | some a => exact run_convert_bytes_back w src dst e a c [] hs he hd (fun j hj => absurd hj (by simp))
  | cons b l =>
    obtain ⟨ad, rfl, hc⟩ := hl (by simp [bvs])
    refine run_convert_bytes_back w src dst e ad c (b :: l) hs he hd (fun j hj => ?_)
    refine hc j _ ?_
    simp only [bvs, List.getElem?_map, List.getElem?_eq_getElem hj, Option.map_some]
    rfl

end Go.Proofs.Ytkblpbpmaoofgaa
