/- telltalelaw08.HashParts answers true. Conditions: the reach of a text, numbers within their kinds. -/
import Derived.Test.YtbgapkhcaideiaaHAwk
import Derived.Test.YtbgapkhcaideiaaHSmall
import Derived.Laws.IdiomStrings
namespace Go.Proofs.Ytbgapkhcaideiaa
open Go Go.RowKit

/-- the bytes of a text, in a row of their own: where they lie -/
theorem text_row (w : World) (s : ByteArray) (hm : s.size ≤ maxLen) : ∃ cap w' cs m, (convert 9 39 (.string s)).run Try.prog w = .ok (.slice (some ⟨w.heap.size, 0, none⟩) s.size cap) w' ∧ Ext w w' ∧ s.size ≤ cap ∧ cap ≤ maxLen ∧
    w'.heap[w.heap.size]? = some (.cells cs 5 (m, m + 1)) ∧ s.size ≤ m ∧ cs.size = m ∧ ∀ (j : Nat) (h : j < s.size), cs[j]? = some (.int .u8 (s[j].toNat : Int)) := by
  refine ⟨_, _, _, _, run_bytes_of_string w _ _ _ s Try.underlying9 Try.underlying39 Try.underlying5, (Ext.drew w).then_alloc _, grownCap_ge _ _ _ _, grownCap_le_maxLen _ _ _ _ hm, heap_alloc_new w.drew _, ?_, rfl, ?_⟩
  · unfold bytesRow
    rw [Array.size_append, Array.size_map]
    have : s.data.size = s.size := rfl
    omega
  · intro j h
    unfold bytesRow
    have h' : j < s.data.size := h
    rw [Array.getElem?_append_left (by rw [Array.size_map]; exact h'), Array.getElem?_map, Array.getElem?_eq_getElem h']
    rfl

theorem row_string (w : World) (g cap : Nat) (cs : Array Value) (t : TypeId) (fr : Nat × Nat) (l : List UInt8) (n : Nat) (hn : n = l.length) (hg : w.heap[g]? = some (.cells cs t fr)) (h : ∀ (j : Nat) (hj : j < l.length), cs[j]? = some (.int .u8 (l[j].toNat : Int))) :
    (convert 39 9 (.slice (some ⟨g, 0, none⟩) n cap)).run Try.prog w = .ok (.string ⟨l.toArray⟩) w := by
  subst hn
  exact run_convert_bytes_back w _ _ 5 ⟨g, 0, none⟩ cap l Try.underlying39 Try.underlying5 Try.underlying9 (fun j hj => by
    rw [Addr.add_lit, cell_of_row w g _ cs t fr hg, Nat.zero_add]
    exact h j hj)

/-- one byte turned -/
def turned (l : List UInt8) (k d : Nat) : List UInt8 := l.set k (l[k]?.getD 0 ^^^ UInt8.ofNat d)
theorem turned_sum {l : List UInt8} {k d : Nat} (hk : k < l.length) (h0 : 0 < d) (h1 : d ≤ 255) {s : Nat} (hs : s < 18446744073709551616) : addH s (turned l k d) ≠ addH s l := by
  unfold turned
  rw [List.getElem?_eq_getElem hk, Option.getD_some, List.set_eq_take_append_cons_drop, if_pos hk]
  have e : l.take k ++ l[k] :: l.drop (k + 1) = l := by rw [← List.drop_eq_getElem_cons hk, List.take_append_drop]
  intro h
  have h := h.trans (congrArg (addH s) e).symm
  refine addH_change (l.take k) (l.drop (k + 1)) ?_ hs h
  intro h2
  have h3 := congrArg UInt8.toNat h2
  rw [UInt8.toNat_xor, UInt8.toNat_ofNat'] at h3
  have h4 : l[k].toNat ^^^ d % 2 ^ 8 = l[k].toNat ^^^ 0 := by rw [h3, Nat.xor_zero]
  have h5 := xor_cancel h4
  omega

theorem parts_ab (a b : ByteArray) : addH 14695981039346656037 (a ++ b).data.toList = addH (addH 14695981039346656037 a.data.toList) b.data.toList := by
  rw [← addH_append]
  congr 1

theorem row_frozen (w : World) (g j m : Nat) (cs : Array Value) (t : TypeId) (hg : w.heap[g]? = some (.cells cs t (m, m + 1))) (h : j < m) : w.frozen? ⟨g, j, none⟩ = false := by
  simp [World.frozen?, hg]
  omega
theorem row_set (w : World) (g i : Nat) (cs : Array Value) (t : TypeId) (fr : Nat × Nat) (v : Value) (hb : w.heap[g]? = some (.cells cs t fr)) : (w.setCell ⟨g, i, none⟩ v).heap[g]? = some (.cells (cs.setIfInBounds i v) t fr) := by
  simp [World.setCell, Array.getElem?_modify, hb]
theorem place_is (m : Int) (s : Nat) (hs : 0 < s) (h1 : s ≤ 300) : ∃ k : Nat, k < s ∧ wrap64 ((IntKind.u64.wrap m).tmod (s : Int)) = (k : Int) := by
  rw [IntKind.wrap_u64]
  obtain ⟨u, hu⟩ := Int.eq_ofNat_of_zero_le (show 0 ≤ m % 18446744073709551616 by omega)
  rw [hu, Int.tmod_eq_emod_of_nonneg (by omega), ← Int.natCast_emod]
  have h2 : u % s < s := Nat.mod_lt _ hs
  refine ⟨u % s, h2, ?_⟩
  generalize u % s = q at *
  unfold wrap64
  omega

theorem turned_length (l : List UInt8) (k d : Nat) : (turned l k d).length = l.length := by simp [turned]
theorem turned_cells (a : ByteArray) (cs : Array Value) (k d : Nat) (hk : k < a.size) (hm : a.size ≤ cs.size) (hc : ∀ (j : Nat) (h : j < a.size), cs[j]? = some (.int .u8 (a[j].toNat : Int))) :
    ∀ (j : Nat) (hj : j < (turned a.data.toList k d).length), (cs.setIfInBounds k (.int .u8 ((a[k] ^^^ UInt8.ofNat d).toNat : Int)))[j]? = some (.int .u8 ((turned a.data.toList k d)[j].toNat : Int)) := by
  intro j hj
  have hja : j < a.size := by rw [turned_length] at hj; exact hj
  have hget : ∀ (i : Nat) (h : i < a.size), a.data.toList[i]? = some a[i] := fun i h => by
    rw [List.getElem?_eq_getElem (by rw [size_toList]; exact h)]
    rfl
  by_cases h : j = k
  · subst h
    rw [Array.getElem?_setIfInBounds_self_of_lt (by omega)]
    have e : (turned a.data.toList j d)[j]? = some (a[j] ^^^ UInt8.ofNat d) := by
      unfold turned
      rw [List.getElem?_set_self (by rw [size_toList]; exact hja), hget j hja]
      rfl
    rw [List.getElem?_eq_getElem hj] at e
    rw [Option.some.inj e]
  · rw [Array.getElem?_setIfInBounds_ne (fun e => h e.symm), hc j hja]
    have e : (turned a.data.toList k d)[j]? = some a[j] := by
      unfold turned
      rw [List.getElem?_set_ne (fun e => h e.symm), hget j hja]
    rw [List.getElem?_eq_getElem hj] at e
    rw [Option.some.inj e]
theorem turn_byte (m : Int) : ∃ d : Nat, 0 < d ∧ d ≤ 255 ∧ ∀ x : UInt8, bits .xor .u8 (x.toNat : Int) (IntKind.u64.wrap (1 + (IntKind.u64.wrap m).tmod 255) % 256) = ((x ^^^ UInt8.ofNat d).toNat : Int) := by
  obtain ⟨u, hu⟩ := Int.eq_ofNat_of_zero_le (show 0 ≤ IntKind.u64.wrap m by rw [IntKind.wrap_u64]; omega)
  refine ⟨1 + u % 255, by omega, by omega, fun x => ?_⟩
  have e : IntKind.u64.wrap (1 + (IntKind.u64.wrap m).tmod 255) % 256 = ((1 + u % 255 : Nat) : Int) := by
    rw [hu, Int.tmod_eq_emod_of_nonneg (by omega), IntKind.wrap_u64]
    omega
  have hx := x.toNat_lt
  rw [e, u8_xor_nat _ _ (by omega) (by omega), UInt8.toNat_xor, UInt8.toNat_ofNat', Nat.mod_eq_of_lt (show 1 + u % 255 < 2 ^ 8 by omega)]

set_option maxRecDepth 100000 in
set_option maxHeartbeats 2000000 in
theorem hparts_any (a b : ByteArray) (n m : Int) (w : World) (ha : a.size ≤ 9223372036854775807) (hb : b.size ≤ 9223372036854775807) (hn0 : -9223372036854775808 ≤ n) (hn1 : n ≤ 9223372036854775807) (_hm0 : -9223372036854775808 ≤ m) (_hm1 : m ≤ 9223372036854775807) :
    Calls Try.prog 5 #[.string a, .string b, .agg #[.int .i64 n, .int .i64 m]] w (Says w (.bool true)) := by
  by_cases h1 : 300 < a.size
  · have h1' : (300 : Int) < (a.size : Int) := by omega
    go_enter Try.func5, Try.ntmps5
    go_wp2_with ((with_reducible show Calls _ 7 _ _ _); refine (hawake_any _).mono ?_; rintro e w9 ⟨rfl, hx9⟩)
    go_ret
    exact ⟨rfl, (Ext.alloc w _).trans hx9⟩
  · have h1' : ¬ (300 : Int) < (a.size : Int) := by omega
    by_cases h2 : 300 < b.size
    · have h2' : (300 : Int) < (b.size : Int) := by omega
      go_enter Try.func5, Try.ntmps5
      go_wp2_with ((with_reducible show Calls _ 7 _ _ _); refine (hawake_any _).mono ?_; rintro e w9 ⟨rfl, hx9⟩)
      go_ret
      exact ⟨rfl, (Ext.alloc w _).trans hx9⟩
    · have h2' : ¬ (300 : Int) < (b.size : Int) := by omega
      clear h2
      have hab : (a ++ b).size = a.size + b.size := by simp
      have k1 := fun W => hsum_any (a ++ b) W (by omega)
      rw [parts_ab] at k1
      have k2 := fun W => hsum_any a W ha
      have k3 := fun W => add_any (addH 14695981039346656037 a.data.toList) b W (by have := addH_lt (s := 14695981039346656037) (by decide) a.data.toList; omega) hb
      have k4 := fun W => worker_any a n W ha hn0 hn1
      have hwk := workerH_in a.data.toList n
      obtain ⟨A, hA⟩ : ∃ A, addH 14695981039346656037 a.data.toList = A := ⟨_, rfl⟩
      rw [hA] at k1 k2 k3
      generalize addH A b.data.toList = C at *
      generalize workerH a.data.toList n = K at *
      have HA := hid hA
      clear hA hab
      by_cases h0 : a.size = 0
      · have he : a = ⟨#[]⟩ := ba_eq (List.eq_nil_of_length_eq_zero h0)
        have k7 := fun W => add_any 7 a W (by decide) ha
        rw [show addH 7 a.data.toList = 7 by rw [he]; rfl] at k7
        have h0' : (a.size : Int) = 0 := by omega
        clear he h0
        rcases Int.lt_or_le n 1 with hz | hz
        · obtain rfl : K = 0 := hwk.2.2 (by omega)
          have hz2 : ¬ (0 : Int) < n := by omega
          have hz3 : n ≤ 1 := by omega
          clear hwk hz
          go_enter Try.func5, Try.ntmps5
          go_wp2_with (first
            | ((with_reducible show Calls _ 10 #[.string (a ++ b)] _ _); refine (k1 _).mono ?_; rintro e w1 ⟨rfl, rfl⟩)
            | ((with_reducible show Calls _ 10 #[.string a] _ _); refine (k2 _).mono ?_; rintro e w1 ⟨rfl, rfl⟩)
            | ((with_reducible show Calls _ 8 #[.int .u64 (A : Int), _] _ _); refine (k3 _).mono ?_; rintro e w1 ⟨rfl, rfl⟩)
            | ((with_reducible show Calls _ 8 _ _ _); refine (k7 _).mono ?_; rintro e w1 ⟨rfl, rfl⟩)
            | ((with_reducible show Calls _ 20 _ _ _); refine (k4 _).mono ?_; rintro e w1 ⟨rfl, rfl⟩)
            | ((with_reducible show Calls _ 7 _ _ _); refine (hawake_any _).mono ?_; rintro e w9 ⟨rfl, hx9⟩))
          go_ret
          exact ⟨rfl, (Ext.alloc w _).trans hx9⟩
        · rcases Int.lt_or_le 1 n with hy | hy
          · have hK0 : 0 ≤ K := hwk.1
            have hK1 : K < n := hwk.2.1 (by omega)
            clear hwk hz
            go_enter Try.func5, Try.ntmps5
            go_wp2_with (first
              | ((with_reducible show Calls _ 10 #[.string (a ++ b)] _ _); refine (k1 _).mono ?_; rintro e w1 ⟨rfl, rfl⟩)
              | ((with_reducible show Calls _ 10 #[.string a] _ _); refine (k2 _).mono ?_; rintro e w1 ⟨rfl, rfl⟩)
              | ((with_reducible show Calls _ 8 #[.int .u64 (A : Int), _] _ _); refine (k3 _).mono ?_; rintro e w1 ⟨rfl, rfl⟩)
              | ((with_reducible show Calls _ 8 _ _ _); refine (k7 _).mono ?_; rintro e w1 ⟨rfl, rfl⟩)
              | ((with_reducible show Calls _ 20 _ _ _); refine (k4 _).mono ?_; rintro e w1 ⟨rfl, rfl⟩)
              | ((with_reducible show Calls _ 7 _ _ _); refine (hawake_any _).mono ?_; rintro e w9 ⟨rfl, hx9⟩))
            go_ret
            exact ⟨rfl, (Ext.alloc w _).trans hx9⟩
          · obtain rfl : n = 1 := by omega
            obtain rfl : K = 0 := hwk.2.2 (by omega)
            clear hwk hz hy
            go_enter Try.func5, Try.ntmps5
            go_wp2_with (first
              | ((with_reducible show Calls _ 10 #[.string (a ++ b)] _ _); refine (k1 _).mono ?_; rintro e w1 ⟨rfl, rfl⟩)
              | ((with_reducible show Calls _ 10 #[.string a] _ _); refine (k2 _).mono ?_; rintro e w1 ⟨rfl, rfl⟩)
              | ((with_reducible show Calls _ 8 #[.int .u64 (A : Int), _] _ _); refine (k3 _).mono ?_; rintro e w1 ⟨rfl, rfl⟩)
              | ((with_reducible show Calls _ 8 _ _ _); refine (k7 _).mono ?_; rintro e w1 ⟨rfl, rfl⟩)
              | ((with_reducible show Calls _ 20 _ _ _); refine (k4 _).mono ?_; rintro e w1 ⟨rfl, rfl⟩)
              | ((with_reducible show Calls _ 7 _ _ _); refine (hawake_any _).mono ?_; rintro e w9 ⟨rfl, hx9⟩))
            go_ret
            exact ⟨rfl, (Ext.alloc w _).trans hx9⟩
      · have h0' : ¬ (a.size : Int) = 0 := by omega
        have hp : 0 < a.size := by omega
        obtain ⟨cap, w2, cs, M, hr, hx2, hc0, hc1, hrow, hM, hcs, hcell⟩ := text_row (w.alloc (.cells #[.int .i64 n, .int .i64 m] 28)) a (by simp only [maxLen]; omega)
        have hsz : (w.alloc (.cells #[.int .i64 n, .int .i64 m] 28)).heap.size = w.heap.size + 1 := by simp
        rw [hsz] at hr hrow
        clear hsz
        have HX2 := hid ((Ext.alloc w _).trans hx2)
        have HN := hid (hx2.block (heap_alloc_new w (.cells #[.int .i64 n, .int .i64 m] 28)))
        obtain ⟨⟨n0, n1⟩, ⟨f0, f1⟩, _⟩ := boxH2 HN.out
        have HR := hid hrow
        have HC := hid hcell
        clear hx2 hrow hcell
        obtain ⟨k, hka, hk⟩ := place_is m a.size hp (by omega)
        obtain ⟨d, hd0, hd1, hd⟩ := turn_byte m
        have HD := hid (hd a[k])
        obtain ⟨TL, hTL⟩ : ∃ TL, TL = turned a.data.toList k d := ⟨_, rfl⟩
        have htz : (⟨TL.toArray⟩ : ByteArray).size = a.size := by rw [hTL]; exact turned_length _ _ _
        obtain ⟨D, hD⟩ : ∃ D, D = addH 14695981039346656037 TL := ⟨_, rfl⟩
        have k8 : ∀ W, Calls Try.prog 10 #[.string ⟨TL.toArray⟩] W (Just W (.int .u64 (D : Int))) := fun W => by
          have h := hsum_any ⟨TL.toArray⟩ W (by omega)
          rw [hD]
          exact h
        have hne := turned_sum (s := 14695981039346656037) (show k < a.data.toList.length from hka) hd0 hd1 (by decide)
        rw [← hTL, ← hD, HA.out] at hne
        have hne2 : ((D : Int) != (A : Int)) = true := bne_iff_ne.2 (by omega)
        have HTC := hid (turned_cells a cs k d hka (by omega) HC.out)
        rw [← hTL] at HTC
        have hTL2 : TL.length = a.size := htz
        have HTN := hid hTL2
        obtain ⟨X, hX⟩ : ∃ X : Int, X = ((a[k] ^^^ UInt8.ofNat d).toNat : Int) := ⟨_, rfl⟩
        rw [← hX] at HTC HD
        clear hd hd0 hd1 hTL htz hD hne hTL2 hX
        have z0 : w2.cell? ⟨w.heap.size + 1, k, none⟩ = some (.int .u8 (a[k].toNat : Int)) := by
          have h := cell_of_row w2 _ k _ _ _ HR.out
          rw [HC.out k hka] at h
          exact h
        have z1 : w2.frozen? ⟨w.heap.size + 1, k, none⟩ = false := row_frozen w2 _ k _ _ _ HR.out (by omega)
        rcases Int.lt_or_le n 1 with hz | hz
        · obtain rfl : K = 0 := hwk.2.2 (by omega)
          have hz2 : ¬ (0 : Int) < n := by omega
          have hz3 : n ≤ 1 := by omega
          clear hwk hz
          go_enter Try.func5, Try.ntmps5
          go_wp2_with (first
            | ((with_reducible show Calls _ 10 #[.string (a ++ b)] _ _); refine (k1 _).mono ?_; rintro e w1 ⟨rfl, rfl⟩)
            | ((with_reducible show Calls _ 10 #[.string a] _ _); refine (k2 _).mono ?_; rintro e w1 ⟨rfl, rfl⟩)
            | ((with_reducible show Calls _ 8 _ _ _); refine (k3 _).mono ?_; rintro e w1 ⟨rfl, rfl⟩)
            | ((with_reducible show Calls _ 20 _ _ _); refine (k4 _).mono ?_; rintro e w1 ⟨rfl, rfl⟩))
          go_region
          rw [HD.out]
          have HX3 := hid ((HX2.out.setCell (p := ⟨w.heap.size + 1, k, none⟩) (by show w.heap.size ≤ w.heap.size + 1; omega) (.int .u8 X)).then_drew)
          have HR3 : Hid (((w2.setCell ⟨w.heap.size + 1, k, none⟩ (.int .u8 X)).drew).heap[w.heap.size + 1]? = some (.cells (cs.setIfInBounds k (.int .u8 X)) 5 (M, M + 1))) := hid (row_set w2 _ k _ _ _ (.int .u8 X) HR.out)
          clear n0 n1 f0 f1 z0 z1 hr HN
          generalize (w2.setCell ⟨w.heap.size + 1, k, none⟩ (.int .u8 X)).drew = w3 at *
          have hcv := row_string w3 (w.heap.size + 1) cap _ _ _ TL a.size HTN.out.symm HR3.out HTC.out
          go_wp2_with (first
            | ((with_reducible show Calls _ 10 #[.string a] _ _); refine (k2 _).mono ?_; rintro e w1 ⟨rfl, rfl⟩)
            | ((with_reducible show Calls _ 10 _ _ _); refine (k8 _).mono ?_; rintro e w1 ⟨rfl, rfl⟩)
            | ((with_reducible show Calls _ 7 _ _ _); refine (hawake_any _).mono ?_; rintro e w9 ⟨rfl, hx9⟩))
          go_ret
          exact ⟨rfl, HX3.out.trans hx9⟩
        · rcases Int.lt_or_le 1 n with hy | hy
          · have hK0 : 0 ≤ K := hwk.1
            have hK1 : K < n := hwk.2.1 (by omega)
            clear hwk hz
            go_enter Try.func5, Try.ntmps5
            go_wp2_with (first
              | ((with_reducible show Calls _ 10 #[.string (a ++ b)] _ _); refine (k1 _).mono ?_; rintro e w1 ⟨rfl, rfl⟩)
              | ((with_reducible show Calls _ 10 #[.string a] _ _); refine (k2 _).mono ?_; rintro e w1 ⟨rfl, rfl⟩)
              | ((with_reducible show Calls _ 8 _ _ _); refine (k3 _).mono ?_; rintro e w1 ⟨rfl, rfl⟩)
              | ((with_reducible show Calls _ 20 _ _ _); refine (k4 _).mono ?_; rintro e w1 ⟨rfl, rfl⟩))
            go_region
            rw [HD.out]
            have HX3 := hid ((HX2.out.setCell (p := ⟨w.heap.size + 1, k, none⟩) (by show w.heap.size ≤ w.heap.size + 1; omega) (.int .u8 X)).then_drew)
            have HR3 : Hid (((w2.setCell ⟨w.heap.size + 1, k, none⟩ (.int .u8 X)).drew).heap[w.heap.size + 1]? = some (.cells (cs.setIfInBounds k (.int .u8 X)) 5 (M, M + 1))) := hid (row_set w2 _ k _ _ _ (.int .u8 X) HR.out)
            clear n0 n1 f0 f1 z0 z1 hr HN
            generalize (w2.setCell ⟨w.heap.size + 1, k, none⟩ (.int .u8 X)).drew = w3 at *
            have hcv := row_string w3 (w.heap.size + 1) cap _ _ _ TL a.size HTN.out.symm HR3.out HTC.out
            go_wp2_with (first
              | ((with_reducible show Calls _ 10 #[.string a] _ _); refine (k2 _).mono ?_; rintro e w1 ⟨rfl, rfl⟩)
              | ((with_reducible show Calls _ 10 _ _ _); refine (k8 _).mono ?_; rintro e w1 ⟨rfl, rfl⟩)
              | ((with_reducible show Calls _ 7 _ _ _); refine (hawake_any _).mono ?_; rintro e w9 ⟨rfl, hx9⟩))
            go_ret
            exact ⟨rfl, HX3.out.trans hx9⟩
          · obtain rfl : n = 1 := by omega
            obtain rfl : K = 0 := hwk.2.2 (by omega)
            clear hwk hz hy
            go_enter Try.func5, Try.ntmps5
            go_wp2_with (first
              | ((with_reducible show Calls _ 10 #[.string (a ++ b)] _ _); refine (k1 _).mono ?_; rintro e w1 ⟨rfl, rfl⟩)
              | ((with_reducible show Calls _ 10 #[.string a] _ _); refine (k2 _).mono ?_; rintro e w1 ⟨rfl, rfl⟩)
              | ((with_reducible show Calls _ 8 _ _ _); refine (k3 _).mono ?_; rintro e w1 ⟨rfl, rfl⟩)
              | ((with_reducible show Calls _ 20 _ _ _); refine (k4 _).mono ?_; rintro e w1 ⟨rfl, rfl⟩))
            go_region
            rw [HD.out]
            have HX3 := hid ((HX2.out.setCell (p := ⟨w.heap.size + 1, k, none⟩) (by show w.heap.size ≤ w.heap.size + 1; omega) (.int .u8 X)).then_drew)
            have HR3 : Hid (((w2.setCell ⟨w.heap.size + 1, k, none⟩ (.int .u8 X)).drew).heap[w.heap.size + 1]? = some (.cells (cs.setIfInBounds k (.int .u8 X)) 5 (M, M + 1))) := hid (row_set w2 _ k _ _ _ (.int .u8 X) HR.out)
            clear n0 n1 f0 f1 z0 z1 hr HN
            generalize (w2.setCell ⟨w.heap.size + 1, k, none⟩ (.int .u8 X)).drew = w3 at *
            have hcv := row_string w3 (w.heap.size + 1) cap _ _ _ TL a.size HTN.out.symm HR3.out HTC.out
            go_wp2_with (first
              | ((with_reducible show Calls _ 10 #[.string a] _ _); refine (k2 _).mono ?_; rintro e w1 ⟨rfl, rfl⟩)
              | ((with_reducible show Calls _ 10 _ _ _); refine (k8 _).mono ?_; rintro e w1 ⟨rfl, rfl⟩)
              | ((with_reducible show Calls _ 7 _ _ _); refine (hawake_any _).mono ?_; rintro e w9 ⟨rfl, hx9⟩))
            go_ret
            exact ⟨rfl, HX3.out.trans hx9⟩
end Go.Proofs.Ytbgapkhcaideiaa
