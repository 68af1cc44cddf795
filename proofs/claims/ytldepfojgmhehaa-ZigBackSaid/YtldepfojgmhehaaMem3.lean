/- More words for memory: a part of a slice, a list of numbers behind a slice, one cell of it. Conditions: none. -/
import Derived.Test.YtldepfojgmhehaaMem
namespace Go.Proofs.Ytldepfojgmhehaa
open Go Go.RowKit

theorem own_some {w : World} {base n : Nat} {e : TypeId} {v : Value} {l : List UInt8} (h : w.ownsRow base e 1 v n (bvs l)) (hl : 0 < l.length) :
    ∃ g c, v = .slice (some ⟨g, 0, none⟩) l.length c ∧ l.length ≤ c ∧ c ≤ maxLen ∧ base ≤ g ∧ g < w.heap.size := by
  have hn : l.length = n := by have := h.1; rwa [bvs_length, Nat.mul_one] at this
  rcases h.2 with ⟨_, h0⟩ | ⟨g, cap, cur, hv, hb, hg, hnc, hcm, _⟩
  · omega
  · exact ⟨g, cap, by rw [hn]; exact hv, by omega, hcm, hb, (Array.getElem?_eq_some_iff.1 hg).1⟩

theorem Lies.sub {w : World} {g : Nat} {xs : List Value} (h : Lies w (some ⟨g, 0, none⟩) xs) (p n : Nat) : Lies w (some ⟨g, p, none⟩) ((xs.drop p).take n) := fun hx => by
  obtain ⟨ad, ha, hc⟩ := h (by intro e; subst e; simp at hx)
  injection ha with ha
  subst ha
  refine ⟨_, rfl, fun j u hu => ?_⟩
  rw [List.getElem?_take] at hu
  split at hu
  · rw [List.getElem?_drop] at hu
    have := hc (p + j) u hu
    rw [Addr.add_lit] at this ⊢
    simpa using this
  · cases hu

theorem sub_bytes {w : World} {g N c : Nat} {T : List UInt8} (p n m d : Nat) (h : Bytes w (.slice (some ⟨g, 0, none⟩) N c) T) (hn : m = n) (hpn : p + n ≤ T.length) (hd : n ≤ d) (hdm : d ≤ maxLen) : Bytes w (.slice (some ⟨g, p, none⟩) m d) ((T.drop p).take n) := by
  obtain ⟨A, c', hv, _, _, hl⟩ := h
  injection hv with h1 h2 h3
  subst h1
  have e : ((T.drop p).take n).length = n := by rw [List.length_take, List.length_drop]; omega
  refine ⟨_, d, by rw [e, hn], by rw [e]; exact hd, hdm, ?_⟩
  rw [bvs_take, bvs_drop]
  exact Lies.sub hl p n

def uvs (L : List Nat) : List Value := L.map fun (u : Nat) => Value.int .u64 (u : Int)
theorem uvs_length (L : List Nat) : (uvs L).length = L.length := by simp [uvs]

theorem ba_eq {a b : ByteArray} (h : a.data.toList = b.data.toList) : a = b := by
  cases a
  cases b
  congr 1
  exact Array.toList_inj.1 h

theorem Lies.open_at {w : World} {A : Option Addr} {xs : List Value} (h : Lies w A xs) {k : Nat} (hk : k < xs.length) : ∃ b off, A = some ⟨b, off, none⟩ ∧ w.cell? ⟨b, off + k, none⟩ = some xs[k] := by
  obtain ⟨ad, ha, hc⟩ := h (by intro e; subst e; simp at hk)
  obtain ⟨b, off, spot⟩ := ad
  have hspot : spot = none := by simpa [Addr.add] using World.cell?_spot (hc 0 _ (List.getElem?_eq_getElem (by omega)))
  subst hspot
  exact ⟨b, off, ha, by rw [← Addr.add_lit]; exact hc k _ (List.getElem?_eq_getElem hk)⟩

end Go.Proofs.Ytldepfojgmhehaa
