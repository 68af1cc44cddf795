/- Cutting a text into pieces: plain facts. Conditions: none. -/
import Derived.Test.YtggafdimbddflaaBase
namespace Go.Proofs.Ytggafdimbddflaa
open Go Go.RowKit

theorem cut_le1 (c : UInt8) : ∀ l : List UInt8, (cutZ c l).1.length ≤ l.length
  | [] => Nat.le_refl _
  | b :: r => by
    by_cases h : b = c
    · rw [cut_here h]; exact Nat.zero_le _
    · rw [cut_on h]; exact Nat.succ_le_succ (cut_le1 c r)
theorem cut_le2 (c : UInt8) : ∀ l : List UInt8, (cutZ c l).2.1.length ≤ l.length
  | [] => Nat.le_refl _
  | b :: r => by
    by_cases h : b = c
    · rw [cut_here h]; exact Nat.le_succ _
    · rw [cut_on h]; exact Nat.le_succ_of_le (cut_le2 c r)
theorem cut_lt2 (c : UInt8) : ∀ l : List UInt8, (cutZ c l).2.2 = true → (cutZ c l).2.1.length < l.length
  | [], h => by cases h
  | b :: r, h => by
    by_cases e : b = c
    · rw [cut_here e]; exact Nat.lt_succ_self _
    · rw [cut_on e] at h ⊢; exact Nat.lt_succ_of_lt (cut_lt2 c r h)
theorem cut_no (c : UInt8) : ∀ l : List UInt8, (cutZ c l).2.2 = false → cutZ c l = (l, [], false)
  | [], _ => rfl
  | b :: r, h => by
    by_cases e : b = c
    · rw [cut_here e] at h; cases h
    · rw [cut_on e] at h ⊢
      rw [cut_no c r h]
theorem pieces_ne (c : UInt8) : ∀ l : List UInt8, piecesZ c l ≠ []
  | [] => by intro h; cases h
  | b :: r => by
    unfold piecesZ
    by_cases h : b = c
    · rw [if_pos h]; intro e; cases e
    · rw [if_neg h]; split <;> (intro e; cases e)
/-- the pieces, piece by piece -/
theorem pieces_yes (c : UInt8) : ∀ l : List UInt8, (cutZ c l).2.2 = true → piecesZ c l = (cutZ c l).1 :: piecesZ c (cutZ c l).2.1
  | [], h => by cases h
  | b :: r, h => by
    by_cases e : b = c
    · rw [cut_here e]
      unfold piecesZ
      rw [if_pos e]
      cases r <;> rfl
    · rw [cut_on e] at h ⊢
      have ih := pieces_yes c r h
      conv => lhs; unfold piecesZ
      rw [if_neg e, ih]
theorem pieces_no (c : UInt8) : ∀ l : List UInt8, (cutZ c l).2.2 = false → piecesZ c l = [l]
  | [], _ => rfl
  | b :: r, h => by
    by_cases e : b = c
    · rw [cut_here e] at h; cases h
    · rw [cut_on e] at h
      have ih := pieces_no c r h
      unfold piecesZ
      rw [if_neg e, ih]

/-- the fields of what is left of a line -/
def restZ (more : Bool) (l : List UInt8) : Option (List FZ) := if more then wordsZ (piecesZ 32 l) else some []
theorem rest_step (l : List UInt8) : restZ true l = match wordF (cutZ 32 l).1, restZ (cutZ 32 l).2.2 (cutZ 32 l).2.1 with
    | some f, some fs => some (f :: fs)
    | _, _ => none := by
  show wordsZ (piecesZ 32 l) = _
  cases h : (cutZ 32 l).2.2
  · rw [pieces_no 32 l h, cut_no 32 l h]
    show (match wordF l, wordsZ [] with | some f, some fs => some (f :: fs) | _, _ => none) = _
    rfl
  · rw [pieces_yes 32 l h]
    rfl
theorem rest_end (l : List UInt8) : restZ false l = some [] := rfl
theorem line_rest (l : List UInt8) : lineZ l = (restZ (cutZ 32 l).2.2 (cutZ 32 l).2.1).map fun f => ⟨bytesA (cutZ 32 l).1, f⟩ := by
  unfold lineZ
  cases h : (cutZ 32 l).2.2
  · rw [pieces_no 32 l h, cut_no 32 l h]
    rfl
  · rw [pieces_yes 32 l h]
    rfl
theorem kindof_le (w : List UInt8) : kindOf w ≤ 4 := by
  unfold kindOf
  (repeat' split) <;> omega

/-- the types of what is left of a text -/
def textZ (l : List UInt8) : Option (List TZ) := linesZ (piecesZ 10 l)
theorem text_end : textZ [] = some [] := rfl
theorem text_bad {l : List UInt8} (h : l ≠ []) (hb : (cutZ 10 l).2.2 = false ∨ lineZ (cutZ 10 l).1 = none) : textZ l = none := by
  unfold textZ
  cases hc : (cutZ 10 l).2.2
  · rw [pieces_no 10 l hc]
    exact if_neg h
  · rw [pieces_yes 10 l hc]
    rcases hb with hb | hb
    · rw [hc] at hb; cases hb
    · cases hp : piecesZ 10 (cutZ 10 l).2.1 with
      | nil => exact absurd hp (pieces_ne _ _)
      | cons q r =>
        show (match lineZ (cutZ 10 l).1, linesZ (q :: r) with | some t, some ts => some (t :: ts) | _, _ => none) = none
        rw [hb]
theorem text_step {l : List UInt8} {t : TZ} (hc : (cutZ 10 l).2.2 = true) (hl : lineZ (cutZ 10 l).1 = some t) : textZ l = (textZ (cutZ 10 l).2.1).map (t :: ·) := by
  unfold textZ
  rw [pieces_yes 10 l hc]
  cases hp : piecesZ 10 (cutZ 10 l).2.1 with
  | nil => exact absurd hp (pieces_ne _ _)
  | cons q r =>
    show (match lineZ (cutZ 10 l).1, linesZ (q :: r) with | some t, some ts => some (t :: ts) | _, _ => none) = _
    rw [hl]
    cases linesZ (q :: r) <;> rfl
theorem parse_text (l : List UInt8) : parseZ l = match textZ l with
    | none => ([], 4)
    | some ts => if checkZ ts = 0 then (ts, 0) else ([], checkZ ts) := rfl

/-- what a line's type is made of is no longer than the line -/
theorem words_le : ∀ (n : Nat) (ps : List (List UInt8)) (fs : List FZ), wordsZ ps = some fs → (∀ p ∈ ps, p.length ≤ n) → ∀ f ∈ fs, f.n.size ≤ n ∧ f.k ≤ 4
  | _, [], fs, h, _ => by cases h; intro f hf; cases hf
  | n, p :: ps, fs, h, hp => by
    unfold wordsZ at h
    cases h1 : wordF p with
    | none => rw [h1] at h; cases h
    | some g =>
      cases h2 : wordsZ ps with
      | none => rw [h1, h2] at h; cases h
      | some gs =>
        rw [h1, h2] at h
        cases h
        intro f hf
        rcases List.mem_cons.1 hf with rfl | hf
        · unfold wordF at h1
          split at h1
          · cases h1
            exact ⟨Nat.le_trans (cut_le1 58 p) (hp p (List.mem_cons_self ..)), kindof_le _⟩
          · cases h1
        · exact words_le n ps gs h2 (fun q hq => hp q (List.mem_cons_of_mem _ hq)) f hf
theorem pieces_le (c : UInt8) : ∀ l : List UInt8, ∀ p ∈ piecesZ c l, p.length ≤ l.length
  | [], p, h => by
    rcases List.mem_cons.1 h with rfl | h
    · exact Nat.le_refl _
    · cases h
  | b :: r, p, h => by
    have ih := pieces_le c r
    unfold piecesZ at h
    by_cases e : b = c
    · rw [if_pos e] at h
      rcases List.mem_cons.1 h with rfl | h
      · exact Nat.zero_le _
      · exact Nat.le_succ_of_le (ih p h)
    · rw [if_neg e] at h
      cases hp : piecesZ c r with
      | nil => exact absurd hp (pieces_ne _ _)
      | cons q qs =>
        rw [hp] at h ih
        rcases List.mem_cons.1 h with rfl | h
        · exact Nat.succ_le_succ (ih q (List.mem_cons_self ..))
        · exact Nat.le_succ_of_le (ih p (List.mem_cons_of_mem _ h))
theorem line_le {l : List UInt8} {t : TZ} (h : lineZ l = some t) : t.n.size ≤ l.length ∧ ∀ f ∈ t.f, f.n.size ≤ l.length ∧ f.k ≤ 4 := by
  unfold lineZ at h
  have hle := pieces_le 32 l
  cases hp : piecesZ 32 l with
  | nil => exact absurd hp (pieces_ne _ _)
  | cons p ps =>
    rw [hp] at h hle
    replace h : (wordsZ ps).map (fun f => (⟨bytesA p, f⟩ : TZ)) = some t := h
    cases hw : wordsZ ps with
    | none => rw [hw] at h; cases h
    | some fs =>
      rw [hw] at h
      cases h
      exact ⟨hle p (List.mem_cons_self ..), words_le _ ps fs hw (fun q hq => hle q (List.mem_cons_of_mem _ hq))⟩
end Go.Proofs.Ytggafdimbddflaa
