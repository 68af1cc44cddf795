/- Several texts in one: VV1, VV4. Conditions: those of each. -/
import Derived.BigQuiet
import Derived.Lib.UnsafeStr
import Derived.Test.YtnldgmpfinlikaaGreatGRR1
import Derived.Test.YtnldgmpfinlikaaGreatGRR5
import Derived.Test.YtnldgmpfinlikaaGreatGZR1
/- The landed program's needOf and what the kinds' types tell, Check, the makers and Word, by their contracts. Conditions: numbers within their kinds. -/
namespace Go.Proofs.YtnldgmpfinlikaaGreat
open Go Go.RowKit

/-- the type that tells what a kind needs -/
def needT (k : Nat) : TypeId := if k = 1 then 112 else if k = 2 then 114 else if k = 3 then 115 else if k = 4 then 116 else 139
def needV (k : Nat) : Value := .iface (needT k) (.agg #[])

set_option maxHeartbeats 1000000 in
theorem need_any (k : Nat) (w : World) : Calls Tryz.prog 53 #[.int .u8 (k : Int)] w (Just w (needV k)) := by
  by_cases h1 : k = 1
  · subst h1
    go_enter Tryz.func53, Tryz.ntmps53
    go_wp2_with fail
    go_ret
    exact ⟨rfl, rfl⟩
  · by_cases h2 : k = 2
    · subst h2
      go_enter Tryz.func53, Tryz.ntmps53
      go_wp2_with fail
      go_ret
      exact ⟨rfl, rfl⟩
    · by_cases h3 : k = 3
      · subst h3
        go_enter Tryz.func53, Tryz.ntmps53
        go_wp2_with fail
        go_ret
        exact ⟨rfl, rfl⟩
      · by_cases h4 : k = 4
        · subst h4
          go_enter Tryz.func53, Tryz.ntmps53
          go_wp2_with fail
          go_ret
          exact ⟨rfl, rfl⟩
        · have hn : needV k = .iface 139 (.agg #[]) := by unfold needV needT; rw [if_neg h1, if_neg h2, if_neg h3, if_neg h4]
          rw [hn]
          have h1' : ((k : Int) == 1) = false := beq_eq_false_iff_ne.2 (by omega)
          have h2' : ((k : Int) == 2) = false := beq_eq_false_iff_ne.2 (by omega)
          have h3' : ((k : Int) == 3) = false := beq_eq_false_iff_ne.2 (by omega)
          have h4' : ((k : Int) == 4) = false := beq_eq_false_iff_ne.2 (by omega)
          clear h1 h2 h3 h4 hn
          go_enter Tryz.func53, Tryz.ntmps53
          go_wp2_with fail
          go_ret
          exact ⟨rfl, rfl⟩

theorem need_one : needV 1 = .iface 112 (.agg #[]) := rfl
theorem need_two : needV 2 = .iface 114 (.agg #[]) := rfl
theorem need_three : needV 3 = .iface 115 (.agg #[]) := rfl
theorem need_four : needV 4 = .iface 116 (.agg #[]) := rfl
theorem need_none {k : Nat} (h : k < 1 ∨ 4 < k) : needV k = .iface 139 (.agg #[]) := by
  unfold needV needT
  rw [if_neg (by omega), if_neg (by omega), if_neg (by omega), if_neg (by omega)]

theorem whole_fault (k : Nat) (n : Int) (b : Nat) (t : ByteArray) (w : World) : Calls Tryz.prog 127 #[.agg #[], vv k n b t] w (Says w (.int .i64 (if n < -4611686018427387904 ∨ 4611686018427387904 < n then 8 else 0))) := by
  unfold vv
  by_cases h1 : n < -4611686018427387904
  · rw [if_pos (Or.inl h1)]
    go_enter Tryz.func127, Tryz.ntmps127
    go_wp2_with fail
    go_ret
    exact ⟨rfl, (Ext.alloc _ _).then_alloc _⟩
  · by_cases h2 : 4611686018427387904 < n
    · rw [if_pos (Or.inr h2)]
      go_enter Tryz.func127, Tryz.ntmps127
      go_wp2_with fail
      go_ret
      exact ⟨rfl, (Ext.alloc _ _).then_alloc _⟩
    · rw [if_neg (by omega)]
      go_enter Tryz.func127, Tryz.ntmps127
      go_wp2_with fail
      go_ret
      exact ⟨rfl, (Ext.alloc _ _).then_alloc _⟩

theorem flag_fault (k : Nat) (n : Int) (b : Nat) (t : ByteArray) (w : World) : Calls Tryz.prog 129 #[.agg #[], vv k n b t] w (Says w (.int .i64 (if n < 0 ∨ 1 < n then 8 else 0))) := by
  unfold vv
  by_cases h1 : n = 0
  · subst h1
    go_enter Tryz.func129, Tryz.ntmps129
    go_wp2_with fail
    go_ret
    exact ⟨rfl, (Ext.alloc _ _).then_alloc _⟩
  · by_cases h2 : n = 1
    · subst h2
      go_enter Tryz.func129, Tryz.ntmps129
      go_wp2_with fail
      go_ret
      exact ⟨rfl, (Ext.alloc _ _).then_alloc _⟩
    · rw [if_pos (by omega)]
      have h1' : (n != 0) = true := bne_iff_ne.2 h1
      have h2' : (n != 1) = true := bne_iff_ne.2 h2
      clear h1 h2
      go_enter Tryz.func129, Tryz.ntmps129
      go_wp2_with fail
      go_ret
      exact ⟨rfl, (Ext.alloc _ _).then_alloc _⟩

theorem double_fault (k : Nat) (n : Int) (b : Nat) (t : ByteArray) (w : World) (hb : b ≤ 18446744073709551615) : Calls Tryz.prog 131 #[.agg #[], vv k n b t] w (Says w (.int .i64 (if cleanZ b ≠ b then 4 else 0))) := by
  unfold vv
  have kc := fun W => clean_just b W hb
  generalize cleanZ b = c at *
  by_cases h1 : c = b
  · rw [if_neg (by omega)]
    have h1' : ((c : Int) != (b : Int)) = false := bne_eq_false_iff_eq.2 (by omega)
    clear h1
    go_enter Tryz.func131, Tryz.ntmps131
    go_wp2_with fail
    go_quiet (first | (go_at_call 133; refine Calls.quiet_of_same (kc _)))
    go_wp2_with fail
    go_ret
    exact Says.mk_int rfl (((Ext.alloc _ _).then_alloc _).trans (Ext.drewN _ _))
  · rw [if_pos h1]
    have h1' : ((c : Int) != (b : Int)) = true := bne_iff_ne.2 (by omega)
    clear h1
    go_enter Tryz.func131, Tryz.ntmps131
    go_wp2_with fail
    go_quiet (first | (go_at_call 133; refine Calls.quiet_of_same (kc _)))
    go_wp2_with fail
    go_ret
    exact Says.mk_int rfl (((Ext.alloc _ _).then_alloc _).trans (Ext.drewN _ _))

theorem text_fault (k : Nat) (n : Int) (b : Nat) (t : ByteArray) (w : World) (ht : t.size ≤ 9223372036854775807) : Calls Tryz.prog 136 #[.agg #[], vv k n b t] w (Says w (.int .i64 (if 24 < t.size then 5 else 0))) := by
  unfold vv
  by_cases h1 : 24 < t.size
  · rw [if_pos h1]
    have h1' : (24 : Int) < (t.size : Int) := by omega
    go_enter Tryz.func136, Tryz.ntmps136
    go_wp2_with fail
    go_ret
    exact ⟨rfl, (Ext.alloc _ _).then_alloc _⟩
  · rw [if_neg h1]
    have h1' : ¬ (24 : Int) < (t.size : Int) := by omega
    go_enter Tryz.func136, Tryz.ntmps136
    go_wp2_with fail
    go_ret
    exact ⟨rfl, (Ext.alloc _ _).then_alloc _⟩

theorem none_fault (k : Nat) (n : Int) (b : Nat) (t : ByteArray) (w : World) : Calls Tryz.prog 138 #[.agg #[], vv k n b t] w (Says w (.int .i64 11)) := by
  unfold vv
  go_enter Tryz.func138, Tryz.ntmps138
  go_wp2_with fail
  go_ret
  exact ⟨rfl, (Ext.alloc _ _).then_alloc _⟩

theorem whole_only (k : Nat) (n : Int) (b : Nat) (t : ByteArray) (w : World) : Calls Tryz.prog 128 #[.agg #[], vv k n b t] w (Says w (vv 1 n 0 noText)) := by
  unfold vv
  go_enter Tryz.func128, Tryz.ntmps128
  go_wp2_with fail
  exact bodyPost_ret (v := vv 1 n 0 noText) (by simp [results, vv, noText, Tryz.results128, go_sem]) rfl ⟨rfl, ((Ext.alloc _ _).then_alloc _).then_alloc _⟩

theorem flag_only (k : Nat) (n : Int) (b : Nat) (t : ByteArray) (w : World) : Calls Tryz.prog 130 #[.agg #[], vv k n b t] w (Says w (vv 2 n 0 noText)) := by
  unfold vv
  go_enter Tryz.func130, Tryz.ntmps130
  go_wp2_with fail
  exact bodyPost_ret (v := vv 2 n 0 noText) (by simp [results, vv, noText, Tryz.results130, go_sem]) rfl ⟨rfl, ((Ext.alloc _ _).then_alloc _).then_alloc _⟩

theorem double_only (k : Nat) (n : Int) (b : Nat) (t : ByteArray) (w : World) : Calls Tryz.prog 132 #[.agg #[], vv k n b t] w (Says w (vv 3 0 b noText)) := by
  unfold vv
  go_enter Tryz.func132, Tryz.ntmps132
  go_wp2_with fail
  exact bodyPost_ret (v := vv 3 0 b noText) (by simp [results, vv, noText, Tryz.results132, go_sem]) rfl ⟨rfl, ((Ext.alloc _ _).then_alloc _).then_alloc _⟩

theorem text_only (k : Nat) (n : Int) (b : Nat) (t : ByteArray) (w : World) : Calls Tryz.prog 137 #[.agg #[], vv k n b t] w (Says w (vv 4 0 0 t)) := by
  unfold vv
  go_enter Tryz.func137, Tryz.ntmps137
  go_wp2_with fail
  exact bodyPost_ret (v := vv 4 0 0 t) (by simp [results, vv, Tryz.results137, go_sem]) rfl ⟨rfl, ((Ext.alloc _ _).then_alloc _).then_alloc _⟩

set_option maxHeartbeats 400000 in
theorem vofint_any (n : Int) (w : World) (hn0 : -9223372036854775808 ≤ n) (hn1 : n ≤ 9223372036854775807) : Calls Tryz.prog 22 #[.int .i64 n] w (Says w (ofIntV n).v) := by
  have hr : (ofIntV n).v = vv 1 (max (-4611686018427387904) (min 4611686018427387904 n)) 0 noText := rfl
  rw [hr]
  clear hr
  go_enter Tryz.func22, Tryz.ntmps22
  go_wp2
  all_goals first
    | exact bodyPost_ret (v := vv 1 4611686018427387904 0 noText) (by simp [results, vv, noText, Tryz.results22, go_sem]) rfl ⟨by rw [show max (-4611686018427387904) (min 4611686018427387904 n) = 4611686018427387904 by omega], Ext.alloc _ _⟩
    | exact bodyPost_ret (v := vv 1 (-4611686018427387904) 0 noText) (by simp [results, vv, noText, Tryz.results22, go_sem]) rfl ⟨by rw [show max (-4611686018427387904) (min 4611686018427387904 n) = -4611686018427387904 by omega], Ext.alloc _ _⟩
    | exact bodyPost_ret (v := vv 1 n 0 noText) (by simp [results, vv, noText, Tryz.results22, go_sem]) rfl ⟨by rw [show max (-4611686018427387904) (min 4611686018427387904 n) = n by omega], Ext.alloc _ _⟩

set_option maxHeartbeats 400000 in
theorem vword_any (k : Nat) (w : World) (hk : k ≤ 255) : Calls Tryz.prog 92 #[.int .u8 (k : Int)] w (Says w (.string (wordV k))) := by
  unfold wordV
  by_cases h1 : k = 1
  · subst h1
    go_enter Tryz.func92, Tryz.ntmps92
    go_wp2
    go_ret
    exact ⟨rfl, Ext.refl _⟩
  · by_cases h2 : k = 2
    · subst h2
      go_enter Tryz.func92, Tryz.ntmps92
      go_wp2
      go_ret
      exact ⟨rfl, Ext.refl _⟩
    · by_cases h3 : k = 3
      · subst h3
        go_enter Tryz.func92, Tryz.ntmps92
        go_wp2
        go_ret
        exact ⟨rfl, Ext.refl _⟩
      · by_cases h4 : k = 4
        · subst h4
          go_enter Tryz.func92, Tryz.ntmps92
          go_wp2
          go_ret
          exact ⟨rfl, Ext.refl _⟩
        · rw [if_neg h1, if_neg h2, if_neg h3, if_neg h4]
          have h1' : ((k : Int) == 1) = false := beq_eq_false_iff_ne.2 (by omega)
          have h2' : ((k : Int) == 2) = false := beq_eq_false_iff_ne.2 (by omega)
          have h3' : ((k : Int) == 3) = false := beq_eq_false_iff_ne.2 (by omega)
          have h4' : ((k : Int) == 4) = false := beq_eq_false_iff_ne.2 (by omega)
          clear h1 h2 h3 h4
          go_enter Tryz.func92, Tryz.ntmps92
          go_wp2
          go_ret
          exact ⟨rfl, Ext.refl _⟩
end Go.Proofs.YtnldgmpfinlikaaGreat

/- The landed program's Clone of a text, and OfText, by their contracts. Conditions: the reach of a string. -/
namespace Go.Proofs.YtnldgmpfinlikaaGreat
open Go Go.RowKit

set_option maxHeartbeats 1000000 in
theorem lclone_any (s : ByteArray) (w : World) (hs : s.size ≤ 70368744177664) : Calls Tryz.prog 110 #[.string s] w (Says w (.string s)) := by
  by_cases h0 : s.size = 0
  · have hz : s = ⟨#[]⟩ := (text_none s).2 h0
    subst hz
    go_enter Tryz.func110, Tryz.ntmps110
    go_wp2
    go_ret
    exact ⟨rfl, Ext.refl _⟩
  · have hmk := fun W => run_make_row' (P := Tryz.prog) 36 5 (.int .u8 0) 1 Tryz.underlying36 infoByte rfl .i64 .i64 s.size (by omega) (by omega) W
    have hrow : (w.alloc (.cells (madeCells #[Value.int .u8 0] s.size) 5)).heap[w.heap.size]? = some (.cells (bvs (List.replicate s.size 0)).toArray 5 (0, 0)) := by
      rw [heap_alloc_new, bvs_zeros]
      congr 2
      rw [← toList_madeCells_one, Array.toArray_toList]
    have hne : s.data.toList ≠ [] := fun e => h0 (by rw [← size_toList, e]; rfl)
    have hz : ((s.size : Int) == 0) = false := beq_eq_false_iff_ne.2 (by omega)
    have HR := hid hrow
    have HN := hid hne
    have hp0 : 0 < s.size := by omega
    clear hrow hne h0
    go_enter Tryz.func110, Tryz.ntmps110
    go_wp2_with ((with_reducible show wpList _ _ _ (⟨some 12, _, _, _, _, _⟩ :: _) _ _); refine wpList_copy_str rfl (.tmp 10) (.tmp 11) _ _ rfl 5 Tryz.underlying36 (by kernel_rfl) _ _ _ _ rfl rfl w.heap.size 0 _ 5 HR.out (Nat.le_refl _) (fun _ => rfl) ?_ ?_)
    · rw [List.length_replicate]; exact Nat.le_of_eq (Nat.zero_add _)
    · intro w1 hg1 hb1
      have hrow1 : w1.heap[w.heap.size]? = some (.cells (bvs s.data.toList).toArray 5 (0, 0)) := by
        rw [hg1.out]
      have HR1 := hid hrow1
      have hx1 : Ext w w1 := (Ext.alloc w _).grown hb1 (fun k hk => by simp only [Option.some.injEq] at hk; omega)
      have HX1 := hid hx1
      have hUS := Go.Lib.run_unsafeString_row (P := Tryz.prog) w1 169 3 9 5 Tryz.underlying169 (by kernel_rfl) w.heap.size s.size (by unfold World.shape?; rw [HR1.out]; simp [bvs_length]) s.data.toList HN.out (by rw [size_toList]; exact Nat.le_refl _) (by rw [size_toList]; omega)
        (fun j x hx => by rw [Addr.add_lit, cell_of_row w1 w.heap.size _ _ _ _ HR1.out]; simp [bvs, bv, hx])
      rw [size_toList] at hUS
      clear hg1 hb1 hrow1 hx1
      go_wp2
      go_ret
      exact ⟨rfl, Go.Lib.below_freeze HX1.out (p := ⟨w.heap.size, 0, none⟩) (Nat.le_refl _) _⟩

/-- a struct in a cell is answered -/
theorem ret_cell1 {P : Program} {fn : Func} {p : Tmp} {ty : TypeId} (h : fn.results = #[.cell p ty]) (tmps : Array Value) (w : World) (g : Nat) (t : TypeId) (cs : Array Value) (fr : Nat × Nat) (d : TypeDesc)
    (hp : tmps.getD p undef = .pointer (some ⟨g, 0, none⟩)) (hg : w.heap[g]? = some (.cells cs t fr))
    (hu : P.underlying ty = some d) (hd : (match d with | .struct _ | .array _ _ => true | _ => false) = true) (hi : (P.info? ty).map (·.size) = some cs.size) :
    (results fn tmps).run P w = .ok (.agg cs) w := by
  have hp' : tmps[p]?.getD undef = .pointer (some ⟨g, 0, none⟩) := by simpa using hp
  simp [results, h, hp', asAddr, run_loadVar_row w g t ty cs fr d hg hu hd hi]

theorem clone_any (s : ByteArray) (w : World) (hs : s.size ≤ 70368744177664) : Calls Tryz.prog 109 #[.string s] w (Says w (.string s)) := by
  have k := fun W => lclone_any s W hs
  go_enter Tryz.func109, Tryz.ntmps109
  go_wp2_with fail
  refine (k _).mono ?_
  rintro e w1 ⟨rfl, hx⟩
  go_wp2_with fail
  go_ret
  exact ⟨rfl, hx⟩

set_option maxHeartbeats 400000 in
theorem voftext_any (s : ByteArray) (w : World) (hs : s.size ≤ 9223372036854775807) : Calls Tryz.prog 107 #[.string s] w (Says w (ofTextV s).v) := by
  have hr : (ofTextV s).v = vv 4 0 0 (s.extract 0 (min s.size 24)) := rfl
  rw [hr]
  clear hr
  have k := fun W => clone_any (s.extract 0 (min s.size 24)) W (by rw [ByteArray.size_extract]; omega)
  rcases Nat.lt_or_ge 24 s.size with h | h
  · rw [show min s.size 24 = 24 by omega] at k ⊢
    go_enter Tryz.func107, Tryz.ntmps107
    go_wp2_with fail
    refine (k _).mono ?_
    rintro e w1 ⟨rfl, hx⟩
    have HR := hid (hx.block (heap_alloc_new w _))
    have HX := hid ((Ext.alloc w _).trans hx)
    clear hx k
    obtain ⟨⟨c0, c1, c2, c3⟩, ⟨m0, m1, m2, m3⟩, z0⟩ := box4 HR.out
    go_wp2_with fail
    refine bodyPost_ret (ret_cell1 rfl _ _ w.heap.size 44 _ (0, 0) _ rfl (set4 HR.out) Tryz.underlying44 rfl (by kernel_rfl)) rfl ⟨rfl, ?_⟩
    repeat (first | (with_reducible exact HX.out) | (with_reducible apply Ext.then_drew) | (with_reducible apply Ext.then_alloc) | (with_reducible refine Ext.setCell ?_ (by simp) _))
  · rw [show min s.size 24 = s.size by omega, show s.extract 0 s.size = s by simp] at k ⊢
    go_enter Tryz.func107, Tryz.ntmps107
    go_wp2_with fail
    refine (k _).mono ?_
    rintro e w1 ⟨rfl, hx⟩
    have HR := hid (hx.block (heap_alloc_new w _))
    have HX := hid ((Ext.alloc w _).trans hx)
    clear hx k
    obtain ⟨⟨c0, c1, c2, c3⟩, ⟨m0, m1, m2, m3⟩, z0⟩ := box4 HR.out
    go_wp2_with fail
    refine bodyPost_ret (ret_cell1 rfl _ _ w.heap.size 44 _ (0, 0) _ rfl (set4 HR.out) Tryz.underlying44 rfl (by kernel_rfl)) rfl ⟨rfl, ?_⟩
    repeat (first | (with_reducible exact HX.out) | (with_reducible apply Ext.then_drew) | (with_reducible apply Ext.then_alloc) | (with_reducible refine Ext.setCell ?_ (by simp) _))
end Go.Proofs.YtnldgmpfinlikaaGreat

