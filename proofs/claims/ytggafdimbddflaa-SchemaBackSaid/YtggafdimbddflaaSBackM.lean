/- A schema is read of its text, and each text is one schema's: plain. Conditions: none. -/
import Derived.Test.YtggafdimbddflaaSPl
import Derived.Test.YtggafdimbddflaaBase
namespace Go.Proofs.Ytggafdimbddflaa
open Go Go.RowKit

theorem cut_append {c : UInt8} : ∀ (p r : List UInt8), (∀ b ∈ p, b ≠ c) → cutZ c (p ++ c :: r) = (p, r, true)
  | [], r, _ => cut_here rfl
  | b :: p, r, h => by
    show cutZ c (b :: (p ++ c :: r)) = _
    rw [cut_on (h b (List.mem_cons_self ..)), cut_append p r (fun x hx => h x (List.mem_cons_of_mem _ hx))]
theorem cut_all {c : UInt8} : ∀ (p : List UInt8), (∀ b ∈ p, b ≠ c) → cutZ c p = (p, [], false)
  | [], _ => rfl
  | b :: p, h => by
    rw [cut_on (h b (List.mem_cons_self ..)), cut_all p (fun x hx => h x (List.mem_cons_of_mem _ hx))]
theorem cut_join {c : UInt8} : ∀ (l : List UInt8), (cutZ c l).2.2 = true → l = (cutZ c l).1 ++ c :: (cutZ c l).2.1
  | [], h => by cases h
  | b :: r, h => by
    by_cases e : b = c
    · rw [cut_here e, e]; rfl
    · rw [cut_on e] at h ⊢
      have ih := cut_join r h
      show b :: r = b :: ((cutZ c r).1 ++ c :: (cutZ c r).2.1)
      rw [← ih]

/-- the bytes of names -/
def nameB (b : UInt8) : Prop := (97 ≤ b.toNat ∧ b.toNat ≤ 122) ∨ (48 ≤ b.toNat ∧ b.toNat ≤ 57) ∨ b.toNat = 95
theorem letters_all : ∀ (l : List UInt8) (i : Nat), lettersZ i l = true → ∀ b ∈ l, nameB b
  | [], _, _, b, hb => by cases hb
  | x :: r, i, h, b, hb => by
    have h : (letterZ i x.toNat && lettersZ (i + 1) r) = true := h
    rw [Bool.and_eq_true] at h
    rcases List.mem_cons.1 hb with rfl | hb
    · have := of_decide_eq_true h.1
      unfold nameB
      omega
    · exact letters_all r (i + 1) h.2 b hb
theorem name_bytes {s : ByteArray} (h : nameZ s = true) : ∀ b ∈ s.data.toList, nameB b := by
  unfold nameZ at h
  rw [Bool.and_eq_true] at h
  exact letters_all _ 0 h.2
theorem nameB_ne {b c : UInt8} (h : nameB b) (hc : c.toNat = 10 ∨ c.toNat = 32 ∨ c.toNat = 58) : b ≠ c := by
  rintro rfl
  unfold nameB at h
  omega
theorem word_bytes {k : Nat} (h1 : 1 ≤ k) (h4 : k ≤ 4) : ∀ b ∈ (wordV k).data.toList, nameB b := by
  have : k = 1 ∨ k = 2 ∨ k = 3 ∨ k = 4 := by omega
  unfold nameB
  rcases this with rfl | rfl | rfl | rfl <;> decide
theorem kind_word {k : Nat} (h1 : 1 ≤ k) (h4 : k ≤ 4) : kindOf (wordV k).data.toList = k := by
  have : k = 1 ∨ k = 2 ∨ k = 3 ∨ k = 4 := by omega
  rcases this with rfl | rfl | rfl | rfl <;> decide
theorem word_kind {w : List UInt8} (h : kindOf w ≠ 0) : (wordV (kindOf w)).data.toList = w := by
  unfold kindOf at *
  (repeat' split at h) <;> simp_all <;> rfl

/-- what a field needs -/
def FieldFine (f : FZ) : Prop := nameZ f.n = true ∧ 1 ≤ f.k ∧ f.k ≤ 4
def TypeFine (t : TZ) : Prop := nameZ t.n = true ∧ ∀ f ∈ t.f, FieldFine f
/-- a field's text without the space ahead -/
def bodyB (f : FZ) : List UInt8 := f.n.data.toList ++ 58 :: (wordV f.k).data.toList
theorem field_body (f : FZ) : fieldB f = 32 :: bodyB f := rfl
theorem body_bytes {f : FZ} (h : FieldFine f) {c : UInt8} (hc : c.toNat = 10 ∨ c.toNat = 32) : ∀ b ∈ bodyB f, b ≠ c := by
  intro b hb
  unfold bodyB at hb
  rcases List.mem_append.1 hb with hb | hb
  · exact nameB_ne (name_bytes h.1 b hb) (hc.elim Or.inl (fun h => Or.inr (Or.inl h)))
  · rcases List.mem_cons.1 hb with rfl | hb
    · rintro rfl
      have : (58 : UInt8).toNat = 58 := rfl
      omega
    · exact nameB_ne (word_bytes h.2.1 h.2.2 b hb) (hc.elim Or.inl (fun h => Or.inr (Or.inl h)))
theorem word_body {f : FZ} (h : FieldFine f) : wordF (bodyB f) = some f := by
  have hc : cutZ 58 (bodyB f) = (f.n.data.toList, (wordV f.k).data.toList, true) := cut_append _ _ (fun b hb => nameB_ne (name_bytes h.1 b hb) (Or.inr (Or.inr rfl)))
  unfold wordF
  rw [hc]
  have hk := kind_word h.2.1 h.2.2
  rw [if_pos ⟨rfl, by show kindOf (wordV f.k).data.toList ≠ 0; rw [hk]; have := h.2.1; omega⟩]
  show some (⟨bytesA f.n.data.toList, kindOf (wordV f.k).data.toList⟩ : FZ) = some f
  rw [hk]
  have : bytesA f.n.data.toList = f.n := ba_eq rfl
  rw [this]
theorem rest_fields : ∀ (F : List FZ) (f : FZ), FieldFine f → (∀ g ∈ F, FieldFine g) → restZ true (bodyB f ++ F.flatMap fieldB) = some (f :: F)
  | [], f, hf, _ => by
    rw [List.flatMap_nil, List.append_nil, rest_step, cut_all _ (body_bytes hf (Or.inr rfl)), word_body hf]
    rfl
  | g :: F, f, hf, hF => by
    have ih := rest_fields F g (hF g (List.mem_cons_self ..)) (fun x hx => hF x (List.mem_cons_of_mem _ hx))
    rw [List.flatMap_cons, field_body]
    show restZ true (bodyB f ++ (32 :: (bodyB g ++ F.flatMap fieldB))) = _
    rw [rest_step, cut_append _ _ (body_bytes hf (Or.inr rfl)), word_body hf]
    show (match some f, restZ true (bodyB g ++ F.flatMap fieldB) with | some f, some fs => some (f :: fs) | _, _ => none) = _
    rw [ih]
theorem line_type {t : TZ} (h : TypeFine t) : lineZ (t.n.data.toList ++ t.f.flatMap fieldB) = some t := by
  obtain ⟨N, F⟩ := t
  have hn : ∀ b ∈ N.data.toList, b ≠ (32 : UInt8) := fun b hb => nameB_ne (name_bytes h.1 b hb) (Or.inr (Or.inl rfl))
  have hb : bytesA N.data.toList = N := ba_eq rfl
  rw [line_rest]
  cases F with
  | nil =>
    rw [show (⟨N, []⟩ : TZ).n.data.toList ++ (⟨N, []⟩ : TZ).f.flatMap fieldB = N.data.toList from List.append_nil _, cut_all _ hn]
    show some (⟨bytesA N.data.toList, []⟩ : TZ) = _
    rw [hb]
  | cons f F =>
    have hF := h.2
    have e : N.data.toList ++ (f :: F).flatMap fieldB = N.data.toList ++ 32 :: (bodyB f ++ F.flatMap fieldB) := rfl
    rw [show (⟨N, f :: F⟩ : TZ).n.data.toList ++ (⟨N, f :: F⟩ : TZ).f.flatMap fieldB = N.data.toList ++ 32 :: (bodyB f ++ F.flatMap fieldB) from e, cut_append _ _ hn]
    show Option.map (fun F' => (⟨bytesA N.data.toList, F'⟩ : TZ)) (restZ true (bodyB f ++ F.flatMap fieldB)) = _
    rw [rest_fields F f (hF f (List.mem_cons_self ..)) (fun g hg => hF g (List.mem_cons_of_mem _ hg))]
    show some (⟨bytesA N.data.toList, f :: F⟩ : TZ) = _
    rw [hb]
theorem line_bytes {t : TZ} (h : TypeFine t) : ∀ b ∈ t.n.data.toList ++ t.f.flatMap fieldB, b ≠ (10 : UInt8) := by
  intro b hb
  rcases List.mem_append.1 hb with hb | hb
  · exact nameB_ne (name_bytes h.1 b hb) (Or.inl rfl)
  · obtain ⟨f, hf, hb⟩ := List.mem_flatMap.1 hb
    rw [field_body] at hb
    rcases List.mem_cons.1 hb with rfl | hb
    · decide
    · exact body_bytes (h.2 f hf) (Or.inl rfl) b hb
theorem text_print : ∀ (L : List TZ), (∀ t ∈ L, TypeFine t) → textZ (printZ L) = some L
  | [], _ => rfl
  | t :: L, h => by
    have ih := text_print L (fun x hx => h x (List.mem_cons_of_mem _ hx))
    have ht := h t (List.mem_cons_self ..)
    have e : printZ (t :: L) = (t.n.data.toList ++ t.f.flatMap fieldB) ++ 10 :: printZ L := by
      show typeB t ++ printZ L = _
      unfold typeB
      rw [List.append_assoc]
      rfl
    have hc := cut_append (c := 10) _ (printZ L) (line_bytes ht)
    rw [← e] at hc
    rw [text_step (t := t) (by rw [hc]) (by rw [hc]; exact line_type ht), hc, ih]
    rfl

/-! ### the other way -/
theorem word_back {w : List UInt8} {f : FZ} (h : wordF w = some f) : fieldB f = 32 :: w := by
  unfold wordF at h
  split at h
  · rename_i hc
    cases h
    have e := cut_join w hc.1
    show 32 :: ((cutZ 58 w).1 ++ 58 :: (wordV (kindOf (cutZ 58 w).2.1)).data.toList) = 32 :: w
    rw [word_kind hc.2, ← e]
  · cases h
theorem rest_back : ∀ (n : Nat) (l : List UInt8) (fs : List FZ), l.length ≤ n → restZ true l = some fs → fs.flatMap fieldB = 32 :: l := by
  intro n
  induction n with
  | zero =>
    intro l fs hl h
    have : l = [] := List.length_eq_zero_iff.1 (Nat.le_zero.1 hl)
    subst this
    cases h
  | succ n ih =>
    intro l fs hl h
    rw [rest_step] at h
    cases h1 : wordF (cutZ 32 l).1 with
    | none => rw [h1] at h; cases h
    | some f =>
      cases h2 : restZ (cutZ 32 l).2.2 (cutZ 32 l).2.1 with
      | none => rw [h1, h2] at h; cases h
      | some gs =>
        rw [h1, h2] at h
        cases h
        rw [List.flatMap_cons, word_back h1]
        cases hc : (cutZ 32 l).2.2
        · rw [hc] at h2
          cases h2
          rw [cut_no 32 l hc]
          simp
        · rw [hc] at h2
          have hlt := cut_lt2 32 l hc
          rw [ih _ _ (by omega) h2]
          have e := cut_join l hc
          conv => rhs; rw [e]
          rfl
theorem line_back {l : List UInt8} {t : TZ} (h : lineZ l = some t) : typeB t = l ++ [10] := by
  rw [line_rest] at h
  cases h2 : restZ (cutZ 32 l).2.2 (cutZ 32 l).2.1 with
  | none => rw [h2] at h; cases h
  | some fs =>
    rw [h2] at h
    cases h
    show (cutZ 32 l).1 ++ fs.flatMap fieldB ++ [10] = l ++ [10]
    cases hc : (cutZ 32 l).2.2
    · rw [hc] at h2
      cases h2
      rw [cut_no 32 l hc]
      simp
    · rw [hc] at h2
      rw [rest_back _ _ _ (Nat.le_refl _) h2, ← cut_join l hc]
theorem text_back : ∀ (n : Nat) (l : List UInt8) (ts : List TZ), l.length ≤ n → textZ l = some ts → printZ ts = l := by
  intro n
  induction n with
  | zero =>
    intro l ts hl h
    have : l = [] := List.length_eq_zero_iff.1 (Nat.le_zero.1 hl)
    subst this
    cases h
    rfl
  | succ n ih =>
    intro l ts hl h
    by_cases hn : l = []
    · subst hn
      cases h
      rfl
    · cases hc : (cutZ 10 l).2.2
      · rw [text_bad hn (Or.inl hc)] at h; cases h
      · cases h1 : lineZ (cutZ 10 l).1 with
        | none => rw [text_bad hn (Or.inr h1)] at h; cases h
        | some t =>
          rw [text_step hc h1] at h
          cases h2 : textZ (cutZ 10 l).2.1 with
          | none => rw [h2] at h; cases h
          | some us =>
            rw [h2] at h
            cases h
            have hlt := cut_lt2 10 l hc
            show typeB t ++ printZ us = l
            rw [line_back h1, ih _ _ (by omega) h2, List.append_assoc]
            exact (cut_join l hc).symm
end Go.Proofs.Ytggafdimbddflaa
