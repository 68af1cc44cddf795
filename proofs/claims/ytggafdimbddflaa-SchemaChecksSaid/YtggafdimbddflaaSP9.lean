/- What the landed program's parse keeps of types and fields is enough: plain. And its parseType, by its contract. Conditions: texts of up to 2^20 bytes. -/
import Derived.Test.YtggafdimbddflaaSP8
namespace Go.Proofs.Ytggafdimbddflaa
open Go Go.RowKit

/-- a type, its fields cut to seven -/
def clipF (t : TZ) : TZ := ⟨t.n, t.f.take 7⟩
def clipT (l : List TZ) : List TZ := (l.map clipF).take 9
theorem one_clip (t : TZ) : oneZ (clipF t) = oneZ t := by
  show (if nameZ t.n = false then (4 : Int) else if 6 < (t.f.take 7).length then 5 else fieldsZ [] (t.f.take 7)) = if nameZ t.n = false then 4 else if 6 < t.f.length then 5 else fieldsZ [] t.f
  rw [List.length_take]
  by_cases h : 6 < t.f.length
  · rw [if_pos h, if_pos (show 6 < min 7 t.f.length by omega)]
  · rw [if_neg h, if_neg (show ¬ 6 < min 7 t.f.length by omega), List.take_of_length_le (by omega)]
theorem types_clip : ∀ (l ahead : List TZ), typesZ (ahead.map clipF) (l.map clipF) = typesZ ahead l
  | [], _ => rfl
  | t :: r, ahead => by
    have ih := types_clip r (ahead ++ [t])
    rw [List.map_append] at ih
    have hex : (∃ g ∈ ahead.map clipF, g.n = (clipF t).n) ↔ (∃ g ∈ ahead, g.n = t.n) := by
      constructor
      · rintro ⟨g, hg, e⟩
        obtain ⟨u, hu, rfl⟩ := List.mem_map.1 hg
        exact ⟨u, hu, e⟩
      · rintro ⟨g, hg, e⟩
        exact ⟨clipF g, List.mem_map.2 ⟨g, hg, rfl⟩, e⟩
    show (if oneZ (clipF t) ≠ 0 then oneZ (clipF t) else if ∃ g ∈ ahead.map clipF, g.n = (clipF t).n then 21 else typesZ (ahead.map clipF ++ [clipF t]) (r.map clipF)) = if oneZ t ≠ 0 then oneZ t else if ∃ g ∈ ahead, g.n = t.n then 21 else typesZ (ahead ++ [t]) r
    rw [one_clip]
    by_cases h : oneZ t ≠ 0
    · rw [if_pos h, if_pos h]
    · rw [if_neg h, if_neg h]
      by_cases h2 : ∃ g ∈ ahead, g.n = t.n
      · rw [if_pos h2, if_pos (hex.2 h2)]
      · rw [if_neg h2, if_neg (fun e => h2 (hex.1 e)), ← ih]
        rfl
theorem check_clip (l : List TZ) : checkZ (clipT l) = checkZ l := by
  unfold checkZ clipT
  rw [List.length_take, List.length_map]
  by_cases h : 8 < l.length
  · rw [if_pos h, if_pos (show 8 < min 9 l.length by omega)]
  · rw [if_neg h, if_neg (show ¬ 8 < min 9 l.length by omega), List.take_of_length_le (by rw [List.length_map]; omega)]
    exact types_clip l []
theorem fields_six {t : TZ} (h : oneZ t = 0) : t.f.length ≤ 6 := by
  unfold oneZ at h
  cases hn : nameZ t.n
  · rw [if_pos hn] at h; cases h
  · rw [if_neg (by rw [hn]; decide)] at h
    by_cases h6 : 6 < t.f.length
    · rw [if_pos h6] at h; cases h
    · omega
theorem types_all : ∀ (L ahead : List TZ), typesZ ahead L = 0 → ∀ t ∈ L, oneZ t = 0
  | [], _, _, t, ht => by cases ht
  | g :: r, ahead, h, t, ht => by
    unfold typesZ at h
    by_cases h1 : oneZ g = 0
    · rw [if_neg (fun e => e h1)] at h
      split at h
      · cases h
      · rcases List.mem_cons.1 ht with rfl | ht
        · exact h1
        · exact types_all r _ h t ht
    · rw [if_pos h1] at h
      exact absurd h h1
theorem clip_same {l : List TZ} (h : checkZ l = 0) : clipT l = l := by
  unfold checkZ at h
  by_cases h8 : 8 < l.length
  · rw [if_pos h8] at h; cases h
  · rw [if_neg h8] at h
    unfold clipT
    rw [List.take_of_length_le (by rw [List.length_map]; omega)]
    have : ∀ t ∈ l, clipF t = t := fun t ht => by
      have h6 := fields_six (types_all l [] h t ht)
      show (⟨t.n, t.f.take 7⟩ : TZ) = t
      rw [List.take_of_length_le (by omega)]
    rw [List.map_congr_left this]
    exact List.map_id l
theorem clip_more (l : List TZ) (t : TZ) : clipT (l ++ [t]) = if l.length ≤ 8 then clipT l ++ [clipF t] else clipT l := by
  unfold clipT
  rw [List.map_append, List.map_singleton]
  by_cases h : l.length ≤ 8
  · rw [if_pos h, List.take_of_length_le (by simp; omega), List.take_of_length_le (by simp; omega)]
  · rw [if_neg h, List.take_append_of_le_length (by rw [List.length_map]; omega)]
theorem clip_len (l : List TZ) : (clipT l).length = min 9 l.length := by
  unfold clipT
  rw [List.length_take, List.length_map]
theorem take_more (l : List FZ) (f : FZ) : (l ++ [f]).take 7 = if l.length ≤ 6 then l.take 7 ++ [f] else l.take 7 := by
  by_cases h : l.length ≤ 6
  · rw [if_pos h, List.take_of_length_le (by simp; omega), List.take_of_length_le (by omega)]
  · rw [if_neg h, List.take_append_of_le_length (by omega)]

/-- a line's type is told, as far as it is kept, its fields in new memory -/
def SaysPT (w : World) (R : Option TZ) (e : Ending) (w' : World) : Prop :=
  ∃ (t : TZ) (r : Value) (b : Bool), e = .returned (.tuple #[.agg #[.string t.n, r], .bool b]) ∧ FieldsAt w' r t.f ∧ (∀ k, r.ownBlock = some k → w.heap.size ≤ k) ∧ Ext w w' ∧ R.map clipF = (if b then some t else none) ∧ (b = false → t = TZ.none)
set_option maxRecDepth 100000 in
set_option maxHeartbeats 8000000 in
theorem sptype_any (s : ByteArray) (w : World) (hs : s.size ≤ 1048576) : Calls Try.prog 49 #[.string s] w (SaysPT w (lineZ s.data.toList)) := by
  obtain ⟨iF, hiF, hzF0, hzF1, hzF2⟩ := info_parts infoF
  have kc := fun W => scut_any s 32 W hs
  have HLR := hid (line_rest s.data.toList)
  generalize lineZ s.data.toList = R at *
  have hc1 := cut_le1 32 s.data.toList
  have hc2 := cut_le2 32 s.data.toList
  rw [size_toList] at hc1 hc2
  unfold SaysCut at kc
  generalize (cutZ 32 s.data.toList).1 = NM at *
  generalize (cutZ 32 s.data.toList).2.1 = RE at *
  generalize (cutZ 32 s.data.toList).2.2 = MO at *
  have kl := fun W => clone_any (bytesA NM) W (by rw [bytesA_size]; omega)
  go_enter Try.func49, Try.ntmps49
  go_wp2_with fail
  refine (kc _).mono ?_
  rintro e w1 ⟨rfl, hx⟩
  have HB0 := hid (hx.block (heap_alloc_new w _))
  have HX := hid ((Ext.alloc w _).trans hx)
  clear hx kc
  go_wp2_with fail
  refine (kl _).mono ?_
  rintro e w2 ⟨rfl, hx⟩
  replace HB0 := hid (hx.block HB0.out)
  replace HX := hid (HX.out.trans hx)
  have hsz1 := HX.out.size
  have hB0lt : w.heap.size < w2.heap.size := (Array.getElem?_eq_some_iff.1 HB0.out).1
  clear hx kl
  go_wp2_with fail
  have HT0 := hid (heap_alloc_new w2 (Obj.cells #[.string (bytesA NM), .slice none 0 0] 30 (0, 0)))
  have HA := hid (Ext.alloc w2 (Obj.cells #[.string (bytesA NM), .slice none 0 0] 30 (0, 0)))
  obtain ⟨S, hS⟩ : ∃ S, S = w2.heap.size := ⟨_, rfl⟩
  rw [← hS] at HT0 hB0lt ⊢
  have HSS := hid hS
  clear hS
  have HR0 := hid (show R = (restZ MO RE).map (fun fs => (⟨bytesA NM, [] ++ fs⟩ : TZ)) from HLR.out)
  clear HLR
  go_loopw [5, 6] (fun x y wq => ∃ (rest : List UInt8) (more : Bool) (done D : List FZ) (v2 : Value), Hid (done.take 7 = D) ∧ x = .string (bytesA rest) ∧ y = .bool more ∧ rest.length ≤ s.size ∧ Hid (R = (restZ more rest).map (fun fs => (⟨bytesA NM, done ++ fs⟩ : TZ))) ∧
      Hid (wq.heap[S]? = some (.cells #[.string (bytesA NM), v2] 30 (0, 0))) ∧ Hid (wq.ownsRow (S + 1) 70 2 v2 D.length (fcells D)) ∧ Hid (Ext w2 wq) ∧ S < wq.heap.size)
    (fun x y _ => (strLen x + 1) * boolN y)
  case atStart => exact ⟨RE, MO, [], [], .slice none 0 0, hid rfl, rfl, rfl, hc2, HR0, HT0, World.ownsRow_nil _ _ _ _, HA, by rw [HSS.out]; simp⟩
  case round =>
    obtain ⟨rest, more, done, D, v2, hD, rfl, rfl, hle, ho, hblk, hown, hext, hSlt⟩ := hrel
    obtain ⟨A5, c5, rfl, z1, z2, _⟩ := own_form hown.out
    have HB9 := hid (hext.out.block HB0.out)
    have HX9 := hid (HX.out.trans hext.out)
    cases more
    · obtain ⟨⟨b0, b1⟩, ⟨m0, m1⟩, _⟩ := box2 hblk.out
      obtain ⟨⟨a0, a1⟩, ⟨n0, n1⟩, hlt0⟩ := box2 HB9.out
      have HGE := hid (fun k h => own_block_ge hown.out k h)
      have HRG := hid (show R.map clipF = some (⟨bytesA NM, D⟩ : TZ) by rw [ho.out, rest_end, ← hD.out]; simp [clipF])
      go_wp2_with fail
      refine bodyPost_ret (ret_cell_tmp rfl _ _ w.heap.size 30 _ (0, 0) _ rfl (set2 HB9.out) Try.underlying30 rfl (by kernel_rfl)) rfl ?_
      refine ⟨⟨bytesA NM, D⟩, _, true, rfl, ?_, (fun k h => by have := HGE.out k h; omega), ?_, HRG.out, fun h => by cases h⟩
      · exact FieldsAt.of_own (ownsRow_setCell_below (ownsRow_setCell_below hown.out (show w.heap.size < S + 1 by omega) _) (show w.heap.size < S + 1 by omega) _)
      · repeat (first | (with_reducible exact HX9.out) | (with_reducible refine Ext.setCell ?_ (by simp) _))
    · have kc := fun W => scut_any (bytesA rest) 32 W (by rw [bytesA_size]; omega)
      unfold SaysCut at kc
      rw [bytesA_list] at kc
      have hst := rest_step rest
      have hl1 := cut_le1 32 rest
      have hl2 := cut_le2 32 rest
      have hl3 := cut_lt2 32 rest
      generalize cutZ 32 rest = C at *
      obtain ⟨WD, RE2, MO2⟩ := C
      dsimp only at *
      have kf := fun W => spfield_any (bytesA WD) W (by rw [bytesA_size]; omega)
      unfold SaysField at kf
      rw [bytesA_list] at kf
      generalize wordF WD = WF at *
      have HST := hid hst
      have HL3 := hid hl3
      clear hst hl3
      go_wp2_with fail
      refine (kc _).mono ?_
      rintro e w3 ⟨rfl, hx⟩
      replace HB9 := hid (hx.block HB9.out)
      replace HX9 := hid (HX9.out.trans hx)
      have HBK := hid (hx.block hblk.out)
      have HOW := hid (own_later hown.out hx)
      have HEX := hid (Ext.trans hext.out hx)
      clear hx kc
      go_wp2_with fail
      refine (kf _).mono ?_
      rintro e w4 ⟨f, b, rfl, hx, hWF⟩
      have hxa := hx.then_alloc (Obj.cells #[.string f.n, .int .u8 (f.k : Int)] 70 (0, 0))
      replace HB9 := hid (hxa.block HB9.out)
      replace HX9 := hid (HX9.out.trans hxa)
      replace HBK := hid (hxa.block HBK.out)
      replace HOW := hid (own_later HOW.out hxa)
      replace HEX := hid (Ext.trans HEX.out hxa)
      have HFB := hid (heap_alloc_new w4 (Obj.cells #[.string f.n, .int .u8 (f.k : Int)] 70 (0, 0)))
      obtain ⟨fn, fk⟩ := f
      dsimp only at *
      clear hx hxa kf
      obtain ⟨⟨b0, b1⟩, ⟨m0, m1⟩, _⟩ := box2 HBK.out
      obtain ⟨⟨a0, a1⟩, ⟨n0, n1⟩, hlt0⟩ := box2 HB9.out
      obtain ⟨⟨f0, f1⟩, ⟨k0, k1⟩, _⟩ := box2 HFB.out
      subst hWF
      cases b
      · have HRB := hid (show R.map clipF = none by rw [ho.out, HST.out]; rfl)
        go_wp2_with fail
        refine bodyPost_ret (ret_cell_tmp rfl _ _ w.heap.size 30 _ (0, 0) _ rfl (set2 HB9.out) Try.underlying30 rfl (by kernel_rfl)) rfl ?_
        refine ⟨TZ.none, _, false, rfl, FieldsAt.nil _, (fun k h => by cases h), ?_, HRB.out, fun _ => rfl⟩
        repeat (first | (with_reducible exact HX9.out) | (with_reducible refine Ext.setCell ?_ (by simp) _))
      · have HRG := hid (show R = (restZ MO2 RE2).map (fun fs => (⟨bytesA NM, (done ++ [⟨fn, fk⟩]) ++ fs⟩ : TZ)) by
          rw [ho.out, HST.out]
          cases restZ MO2 RE2 with
          | none => rfl
          | some fs => simp)
        have HTK := take_more done ⟨fn, fk⟩
        have hlen7 : D.length = min 7 done.length := by rw [← hD.out]; exact List.length_take
        rw [hD.out] at HTK
        have HME := hid (show (RE2.length + 1) * boolN (.bool MO2) < (rest.length + 1) * 1 by
          cases MO2
          · simp [boolN]
          · have h2 := HL3.out rfl
            simp [boolN]
            omega)
        by_cases h6 : done.length ≤ 6
        · rw [if_pos h6] at HTK
          replace HTK := hid HTK
          have h6' : (D.length : Int) ≤ 6 := by omega
          have hq12 : D.length ≤ 7 := by omega
          clear h6 hlen7
          have hS4 : S < w4.heap.size + 1 := by have := (Array.getElem?_eq_some_iff.1 HBK.out).1; simpa using this
          go_wp2_with (at_builtin; refine Go.wpList_append_lies _ rfl (.tmp 40) (.tmp 42) 28 rfl (S + 1) 70 iF (.agg #[.string ⟨#[]⟩, .int .u8 0]) 2 24 Try.underlying28 hiF hzF0 hzF1 hzF2 rfl (by decide) (.slice A5 D.length c5) D.length _ rfl (HOW.out.alloc _) ⟨w4.heap.size + 1, 0, none⟩ 1 1 [.string fn, .int .u8 (fk : Int)] rfl rfl (fun j u h => World.news_of_block (heap_alloc2_new w4 _ _) j u h) (by intro u hu; simp at hu; rcases hu with rfl | rfl <;> rfl) (by decide) (by unfold maxLen; omega) (by omega) (by simp; omega) _ rfl ?_)
          intro g9 cap9 w9 hown9 hgrow9 hat9 hlt9
          have hblk9 := grown_block (Ext.alloc (w4.alloc (Obj.cells #[.string fn, .int .u8 (fk : Int)] 70 (0, 0))) _) hgrow9 (fun k hk => own_block_ge HOW.out k hk) HBK.out (Nat.lt_succ_self S)
          have HG9 := hid (Ext.grown (Ext.then_alloc HEX.out _) hgrow9 (fun k hk => by have := own_block_ge HOW.out k hk; have := HSS.out; omega))
          have HW9 := hid (show w9.ownsRow (S + 1) 70 2 (.slice (some ⟨g9, 0, none⟩) (D.length + 1) cap9) (D ++ [(⟨fn, fk⟩ : FZ)]).length (fcells (D ++ [⟨fn, fk⟩])) by rw [fcells_append, List.length_append]; exact hown9)
          have HBK9 := hid hblk9
          obtain ⟨⟨e0, e1⟩, ⟨q0, q1⟩, e2⟩ := box2 hblk9
          clear hgrow9 hown9 hat9 hlt9 hblk9 b0 b1 m0 m1 a0 a1 n0 n1 f0 f1 k0 k1
          go_wp2_with fail
          go_roundw
          case rel => exact ⟨RE2, MO2, done ++ [⟨fn, fk⟩], D ++ [⟨fn, fk⟩], _, HTK, rfl, rfl, by omega, HRG, hid (by simpa using heap_setCell_same w9 S 1 _ _ _ HBK9.out), hid (ownsRow_setCell_below (a := ⟨S, 1, none⟩) HW9.out (Nat.lt_succ_self S) _), Ext.setCell HG9.out (by have := HSS.out; show _ ≤ S; omega) _, by simpa [World.setCell] using e2⟩
          case measure => simpa [strLen, boolN, bytesA_size] using HME.out
        · rw [if_neg h6] at HTK
          replace HTK := hid HTK
          have h6' : ¬ (D.length : Int) ≤ 6 := by omega
          clear h6 hlen7
          go_wp2_with fail
          go_roundw
          case rel => exact ⟨RE2, MO2, done ++ [⟨fn, fk⟩], D, _, HTK, rfl, rfl, by omega, HRG, HBK, HOW, HEX, (Array.getElem?_eq_some_iff.1 HBK.out).1⟩
          case measure => simpa [strLen, boolN, bytesA_size] using HME.out
end Go.Proofs.Ytggafdimbddflaa
