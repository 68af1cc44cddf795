/- The document's Print of types, by its contract. Conditions: small types. -/
import Derived.Test.YtggafdimbddflaaSR5
import Derived.BigQuiet
namespace Go.Proofs.Ytggafdimbddflaa
open Go Go.RowKit

def FieldSmall (f : FZ) : Prop := f.n.size ≤ 40 ∧ f.k ≤ 255
def TypeSmall (t : TZ) : Prop := t.n.size ≤ 40 ∧ t.f.length ≤ 12 ∧ ∀ f ∈ t.f, FieldSmall f
def TypesSmall (L : List TZ) : Prop := L.length ≤ 12 ∧ ∀ t ∈ L, TypeSmall t
theorem word_len (k : Nat) : (wordV k).size ≤ 4 := by
  unfold wordV
  (repeat' split) <;> decide
theorem field_len {f : FZ} (h : FieldSmall f) : (fieldB f).length ≤ 46 := by
  have h1 : f.n.data.toList.length = f.n.size := rfl
  have h2 : (wordV f.k).data.toList.length = (wordV f.k).size := rfl
  have h3 := word_len f.k
  have h4 := h.1
  show (32 :: f.n.data.toList ++ 58 :: (wordV f.k).data.toList).length ≤ 46
  simp only [List.length_append, List.length_cons]
  omega
theorem fields_len {F : List FZ} : ∀ (_ : ∀ f ∈ F, FieldSmall f), (F.flatMap fieldB).length ≤ 46 * F.length := by
  induction F with
  | nil => intro _; exact Nat.le_refl _
  | cons f r ih =>
    intro h
    have h1 := field_len (h f (List.mem_cons_self ..))
    have h2 := ih (fun g hg => h g (List.mem_cons_of_mem _ hg))
    rw [List.flatMap_cons, List.length_append, List.length_cons]
    omega
theorem type_len {t : TZ} (h : TypeSmall t) : (typeB t).length ≤ 593 := by
  have h1 : t.n.data.toList.length = t.n.size := rfl
  have h2 := fields_len h.2.2
  have h3 := h.1
  have h4 := h.2.1
  show (t.n.data.toList ++ t.f.flatMap fieldB ++ [10]).length ≤ 593
  simp only [List.length_append, List.length_singleton]
  omega
theorem print_len {L : List TZ} : ∀ (_ : ∀ t ∈ L, TypeSmall t), (printZ L).length ≤ 593 * L.length := by
  unfold printZ
  induction L with
  | nil => intro _; exact Nat.le_refl _
  | cons f r ih =>
    intro h
    have h1 := type_len (h f (List.mem_cons_self ..))
    have h2 := ih (fun g hg => h g (List.mem_cons_of_mem _ hg))
    rw [List.flatMap_cons, List.length_append, List.length_cons]
    omega
theorem bytesA_append (a b : List UInt8) : bytesA a ++ bytesA b = bytesA (a ++ b) := by
  refine ba_eq ?_
  rw [bytesA_list]
  simp [bytesA]
theorem bytesA_size (a : List UInt8) : (bytesA a).size = a.length := rfl
/-- a text behind bytes -/
theorem bytesA_text (a : List UInt8) (s : ByteArray) : bytesA a ++ s = bytesA (a ++ s.data.toList) := by
  rw [← bytesA_append, bytesA_self]

set_option maxRecDepth 100000 in
set_option maxHeartbeats 8000000 in
theorem rprint_any (L : List TZ) (v : Value) (w : World) (hv : TypesAt w v L) (hok : TypesSmall L) : Calls Try.prog 17 #[v] w (Says w (.string (bytesA (printZ L)))) := by
  have HV := hid hv
  obtain ⟨A, c, rfl, q1, q2, _⟩ := hv
  obtain ⟨hl12, hsm⟩ := hok
  go_enter Try.func17, Try.ntmps17
  go_wp2_with fail
  go_loopw [3, 4] (fun x y wr => ∃ i : Nat, i ≤ L.length ∧ y = .int .i64 (i : Int) ∧ x = .string (bytesA (printZ (L.take i))) ∧ Ext w wr)
    (fun _ y _ => L.length - (intOf y).toNat)
  case atStart => exact ⟨0, by omega, rfl, rfl, Ext.refl _⟩
  case round =>
    obtain ⟨i, hi, rfl, rfl, hext⟩ := hrel
    have HE := hid hext
    clear hext
    by_cases hlt : i < L.length
    · obtain ⟨g, o, c', r, e1, _, _, d0, d1, hfr⟩ := (HV.out.ext HE.out).open_ hlt
      obtain ⟨rfl, rfl⟩ : A = some ⟨g, o, none⟩ ∧ c = c' := by simpa using e1
      have hp : (printZ (L.take i)).length ≤ 7116 := by
        have := print_len (L := L.take i) (fun t h => hsm t (List.mem_of_mem_take h))
        rw [List.length_take] at this
        omega
      have HT := hid (hsm _ (List.getElem_mem hlt))
      have hstep : printZ (L.take (i + 1)) = printZ (L.take i) ++ typeB L[i] := by
        rw [List.take_succ_eq_append_getElem hlt]
        unfold printZ
        rw [List.flatMap_append, List.flatMap_singleton]
      have HS := hid hstep
      generalize hT : L[i] = T at *
      obtain ⟨N, F⟩ := T
      dsimp only at *
      have HF := hid hfr
      obtain ⟨A3, c3, rfl, _, q5, _⟩ := hfr
      have hn40 : N.size ≤ 40 := HT.out.1
      have hf12 : F.length ≤ 12 := HT.out.2.1
      generalize printZ (L.take i) = P at *
      clear e1 hT hstep
      have hsz : (bytesA P).size + N.size ≤ 9223372036854775807 := by rw [bytesA_size]; omega
      go_wp2_with fail
      go_loopw [3, 5] (fun x y wq => ∃ j : Nat, j ≤ F.length ∧ y = .int .i64 (j : Int) ∧ x = .string (bytesA (P ++ N.data.toList ++ (F.take j).flatMap fieldB)) ∧ Ext wr wq)
        (fun _ y _ => F.length - (intOf y).toNat)
      case atStart => exact ⟨0, by omega, rfl, congrArg Value.string (by rw [bytesA_text, List.take_zero, List.flatMap_nil, List.append_nil]), Ext.refl _⟩
      case round =>
        obtain ⟨j, hj, rfl, rfl, hextq⟩ := hrel
        have HQ := hid hextq
        have x1 : wr.cell? ⟨g, o + i * 2 + 1, none⟩ = some (.slice A3 F.length c3) := hextq.cell d1
        clear hextq
        have hq : (P ++ N.data.toList ++ (F.take j).flatMap fieldB).length ≤ 7708 := by
          have h1 := fields_len (F := F.take j) (fun f h => HT.out.2.2 f (List.mem_of_mem_take h))
          have h2 : N.data.toList.length = N.size := rfl
          rw [List.length_take] at h1
          simp only [List.length_append]
          omega
        by_cases hjl : j < F.length
        · obtain ⟨g3, o3, c', e1, _, _, y0, y1⟩ := (HF.out.ext HQ.out).open_ hjl
          obtain ⟨rfl, rfl⟩ : A3 = some ⟨g3, o3, none⟩ ∧ c3 = c' := by simpa using e1
          have hf := HT.out.2.2 _ (List.getElem_mem hjl)
          have hstep : P ++ N.data.toList ++ (F.take (j + 1)).flatMap fieldB = P ++ N.data.toList ++ (F.take j).flatMap fieldB ++ fieldB F[j] := by
            rw [List.take_succ_eq_append_getElem hjl, List.flatMap_append, List.flatMap_singleton, ← List.append_assoc]
          have HS2 := hid hstep
          generalize P ++ N.data.toList ++ (F.take j).flatMap fieldB = Q at *
          generalize hU : F[j] = U at *
          obtain ⟨n5, k5⟩ := U
          dsimp only at *
          have hn5 : n5.size ≤ 40 := hf.1
          have hk5 := word_len k5
          have kw := fun W => rword4_just k5 W
          have HFB := hid (show fieldB ⟨n5, k5⟩ = 32 :: n5.data.toList ++ 58 :: (wordV k5).data.toList from rfl)
          generalize hW : wordV k5 = W5 at *
          clear hstep hU e1 hf hW
          have hQs : (bytesA Q).size ≤ 7708 := by rw [bytesA_size]; omega
          generalize hB : bytesA Q = B at *
          have HB := hid hB
          clear hB
          go_wp2_with fail
          go_quiet (first | (go_at_call 40; refine Calls.quiet_of_same (kw _)))
          go_wp2_with fail
          go_roundw
          case rel => exact ⟨j + 1, by omega, by go_num, congrArg Value.string (by rw [HS2.out, HFB.out, ← HB.out, show (⟨#[32]⟩ : ByteArray) = bytesA [32] from rfl, show (⟨#[58]⟩ : ByteArray) = bytesA [58] from rfl, bytesA_append, bytesA_text, bytesA_append, bytesA_text]; simp), HQ.out.trans (Ext.drewN _ _)⟩
          case measure => simp only [intOf]; omega
        · have hj' : j = F.length := by omega
          subst hj'
          rw [List.take_length] at hq ⊢
          generalize hQ : P ++ N.data.toList ++ F.flatMap fieldB = Q at *
          have hQs : (bytesA Q).size ≤ 7708 := by rw [bytesA_size]; omega
          have HS3 := hid (show printZ (L.take (i + 1)) = Q ++ [10] by rw [HS.out, ← hQ]; simp [typeB])
          generalize hB : bytesA Q = B at *
          have HB := hid hB
          clear hB hQ
          go_wp2_with fail
          go_roundw
          case rel => exact ⟨i + 1, by omega, by go_num, congrArg Value.string (by rw [HS3.out, ← HB.out, show (⟨#[10]⟩ : ByteArray) = bytesA [10] from rfl, bytesA_append]), HE.out.trans HQ.out⟩
          case measure => simp only [intOf]; omega
    · have hi' : i = L.length := by omega
      subst hi'
      go_wp2_with fail
      go_ret
      refine ⟨?_, HE.out⟩
      rw [List.take_length]
      rfl
end Go.Proofs.Ytggafdimbddflaa
