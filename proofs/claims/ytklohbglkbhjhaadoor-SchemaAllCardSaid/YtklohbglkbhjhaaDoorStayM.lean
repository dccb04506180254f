/- What is made may be; what may be goes on to be: mathematics. -/
import Derived.Test.YtklohbglkbhjhaaDoorBackM
import Derived.Test.YtklohbglkbhjhaaDoorPlayS
namespace Go.Proofs.YtklohbglkbhjhaaDoor
open Go.RowKit
set_option linter.unusedVariables false

theorem nameC_ok (i : Nat) (h : i ≤ 20) : NameL (nameC i) := by
  match i with
  | 0 | 1 | 2 | 3 | 4 | 5 | 6 | 7 | 8 | 9 | 10 | 11 | 12 | 13 | 14 | 15 | 16 | 17 | 18 | 19 | 20 => decide +kernel
  | n + 21 => omega
theorem idB_ok : NameL idB := by decide +kernel
theorem tB_ok : NameL tB := by decide +kernel
theorem notIn2 {a b : ByteArray} {l : List ByteArray} (h : a ≠ b) (h' : a ∉ l) : a ∉ b :: l := fun e => by
  rcases List.mem_cons.1 e with e | e
  · exact h e
  · exact h' e
theorem play_may (t0 : Int) (m : Nat) (ts : List Int) (hm : m ≤ 2) (htl : ts.length = m) (ht0 : 1 ≤ t0 ∧ t0 ≤ 4) (hts : ∀ t ∈ ts, 1 ≤ t ∧ t ≤ 4) : MayQ (playCols t0 m ts) ((m + 2 : Nat) : Int) ∧ otherB ∉ (playCols t0 m ts).map (·.2.1) := by
  match m, ts, htl with
  | 0, [], _ =>
    refine ⟨⟨⟨by simp [playCols, exC], by simp [playCols, exC]⟩, by simp, ?_, ?_, ?_⟩, ?_⟩
    · intro x hx
      simp only [playCols, exC, List.mem_cons, List.not_mem_nil, or_false] at hx
      rcases hx with rfl | rfl
      · exact ⟨⟨by simp, by simp⟩, idB_ok, ht0⟩
      · exact ⟨⟨by simp, by simp⟩, tB_ok, by show (1 : Int) ≤ 4 ∧ (4 : Int) ≤ 4; omega⟩
    · show [(1 : Int), 2].Nodup; decide
    · show [idB, tB].Nodup; decide +kernel
    · show otherB ∉ [idB, tB]
      exact notIn2 (by decide +kernel) (notIn2 (by decide +kernel) List.not_mem_nil)
  | 1, [a], _ =>
    have ha := hts a (by simp)
    refine ⟨⟨⟨by simp [playCols, exC], by simp [playCols, exC]⟩, by simp, ?_, ?_, ?_⟩, ?_⟩
    · intro x hx
      simp only [playCols, exC, List.mem_cons, List.not_mem_nil, or_false] at hx
      rcases hx with rfl | rfl | rfl
      · exact ⟨⟨by simp, by simp⟩, idB_ok, ht0⟩
      · exact ⟨⟨by simp, by simp⟩, tB_ok, by show (1 : Int) ≤ 4 ∧ (4 : Int) ≤ 4; omega⟩
      · exact ⟨⟨by simp, by simp⟩, nameC_ok _ (by omega), ha⟩
    · show [(1 : Int), 2, 3].Nodup; decide
    · show [idB, tB, nameC 1].Nodup; decide +kernel
    · show otherB ∉ [idB, tB, nameC 1]
      exact notIn2 (by decide +kernel) (notIn2 (by decide +kernel) (notIn2 (by decide +kernel) List.not_mem_nil))
  | 2, [a, b], _ =>
    have ha := hts a (by simp)
    have hb := hts b (by simp)
    refine ⟨⟨⟨by simp [playCols, exC], by simp [playCols, exC]⟩, by simp, ?_, ?_, ?_⟩, ?_⟩
    · intro x hx
      simp only [playCols, exC, List.mem_cons, List.not_mem_nil, or_false] at hx
      rcases hx with rfl | rfl | rfl | rfl
      · exact ⟨⟨by simp, by simp⟩, idB_ok, ht0⟩
      · exact ⟨⟨by simp, by simp⟩, tB_ok, by show (1 : Int) ≤ 4 ∧ (4 : Int) ≤ 4; omega⟩
      · exact ⟨⟨by simp, by simp⟩, nameC_ok _ (by omega), ha⟩
      · exact ⟨⟨by simp, by simp⟩, nameC_ok _ (by omega), hb⟩
    · show [(1 : Int), 2, 3, 4].Nodup; decide
    · show [idB, tB, nameC 2, nameC 1].Nodup; decide +kernel
    · show otherB ∉ [idB, tB, nameC 2, nameC 1]
      exact notIn2 (by decide +kernel) (notIn2 (by decide +kernel) (notIn2 (by decide +kernel) (notIn2 (by decide +kernel) List.not_mem_nil)))
theorem play_ids (t0 : Int) (m : Nat) (ts : List Int) (hm : m ≤ 2) (htl : ts.length = m) (id : Int) (h1 : 1 ≤ id) (h2 : id ≤ ((m + 2 : Nat) : Int)) : id ∈ (playCols t0 m ts).map (·.1) := by
  match m, ts, htl with
  | 0, [], _ =>
    show id ∈ [(1 : Int), 2]
    obtain rfl | rfl : id = 1 ∨ id = 2 := by omega
    all_goals decide
  | 1, [a], _ =>
    show id ∈ [(1 : Int), 2, 3]
    obtain rfl | rfl | rfl : id = 1 ∨ id = 2 ∨ id = 3 := by omega
    all_goals decide
  | 2, [a, b], _ =>
    show id ∈ [(1 : Int), 2, 3, 4]
    obtain rfl | rfl | rfl | rfl : id = 1 ∨ id = 2 ∨ id = 3 ∨ id = 4 := by omega
    all_goals decide
theorem play_lay (t0 : Int) (m : Nat) (ts : List Int) (hm : m ≤ 2) (htl : ts.length = m) (d0 d1 d2 : Int) (es : List Int) (hes : es.length = m + 2) (he : ∀ t ∈ es, 1 ≤ t ∧ t ≤ 5) (hlay : Lay d0 d1 d2 (m + 2)) : LayQ ((playCols t0 m ts).map (·.1)) (playCols t0 m ts).length ⟨d0, d1, d2, es⟩ := by
  obtain ⟨⟨a1, a2⟩, h2⟩ := hlay
  refine ⟨?_, ?_, ?_, he, ?_⟩
  · by_cases h : d0 = 0
    · exact .inl h
    · exact .inr (play_ids t0 m ts hm htl d0 (by omega) (by omega))
  · show 1 ≤ d2 ∧ d2 ≤ 4
    omega
  · rcases h2 with ⟨h, h'⟩ | ⟨h, h', _⟩
    · exact .inr ⟨h, h'⟩
    · exact .inl (play_ids t0 m ts hm htl d1 h h')
  · show es.length = (playCols t0 m ts).length
    have : (playCols t0 m ts).length = ts.length + 2 := by
      match m, ts, htl with
      | 0, [], _ => rfl
      | 1, [a], _ => rfl
      | 2, [a, b], _ => rfl
    omega

/-- What a change keeps. -/
structure Keep (s t : St3) (col : Int) : Prop where
  may : MayQ t.1 t.2.1
  lay : LayQ (t.1.map (·.1)) t.1.length t.2.2
  last : t.2.1 = s.2.1 ∨ t.2.1 = s.2.1 + 1
  cols : ∀ x ∈ t.1, x.1 = s.2.1 + 1 ∨ (x.1 = col ∧ col ∈ s.1.map (·.1)) ∨ x ∈ s.1
theorem mem_insA_iff {α : Type} {l : List α} {i : Nat} {x y : α} : y ∈ insA l i x ↔ y = x ∨ y ∈ l := by
  rw [(insA_perm l i x).mem_iff, List.mem_cons]
theorem MayQ.grow {l : List Col3} {last : Int} (h : MayQ l last) (hl : last < 10000) : ∀ x ∈ l, ColL (last + 1) x := fun x hx => by
  obtain ⟨⟨h1, h2⟩, h3⟩ := h.col x hx
  exact ⟨⟨h1, by omega⟩, h3⟩
theorem keep_add {s t : St3} {c : Chg} {typ : Int} {val : Val3} {i : Nat} (h : MayQ s.1 s.2.1) (hl : LayQ (s.1.map (·.1)) s.1.length s.2.2) (ha : addM s c typ val i = .ok t) : Keep s t c.col := by
  have hty : TypL typ ∧ ¬ (findC s.1 c.name).isSome = true := by
    unfold addM at ha
    by_cases h1 : ¬ (NameL c.name ∧ TypL typ)
    · rw [if_pos h1] at ha; cases ha
    · rw [if_neg h1] at ha
      by_cases h2 : (findC s.1 c.name).isSome = true
      · rw [if_pos h2] at ha; cases ha
      · exact ⟨(Classical.not_not.1 h1).2, h2⟩
  obtain ⟨hty, hnf⟩ := hty
  obtain ⟨⟨hn, h6, hlt⟩, rfl⟩ := addM_ok ha
  have hnm : c.name ∉ s.1.map (·.2.1) := fun e => hnf (findC_mem.2 e)
  have hpos : 0 ≤ s.2.1 := by
    have h0 : 0 < s.1.length := by have := h.len; omega
    have := (h.col _ (List.getElem_mem h0)).1
    omega
  refine ⟨⟨?_, ?_, ?_, ?_, ?_⟩, ⟨?_, hl.parts, ?_, ?_, ?_⟩, .inr rfl, ?_⟩
  · show 1 ≤ (insA s.1 i _).length ∧ (insA s.1 i _).length ≤ 6
    rw [insA_len]; omega
  · show s.2.1 + 1 ≤ 10000; omega
  · intro x hx
    rcases mem_insA_iff.1 hx with rfl | hx
    · exact ⟨⟨by show 1 ≤ s.2.1 + 1; omega, Int.le_refl _⟩, hn, hty⟩
    · exact h.grow hlt x hx
  · show ((insA s.1 i (s.2.1 + 1, c.name, typ)).map (·.1)).Nodup
    rw [insA_map, (insA_perm _ _ _).nodup_iff, List.nodup_cons]
    refine ⟨fun hm => ?_, h.ids⟩
    obtain ⟨x, hx, he⟩ := List.mem_map.1 hm
    have := (h.col x hx).1.2
    simp only at he
    omega
  · show ((insA s.1 i (s.2.1 + 1, c.name, typ)).map (·.2.1)).Nodup
    rw [insA_map, (insA_perm _ _ _).nodup_iff, List.nodup_cons]
    exact ⟨hnm, h.nms⟩
  · show s.2.2.sb = 0 ∨ s.2.2.sb ∈ (insA s.1 i (s.2.1 + 1, c.name, typ)).map (·.1)
    rw [insA_map, mem_insA_iff]
    rcases hl.sb with h | h
    · exact .inl h
    · exact .inr (.inr h)
  · show s.2.2.pb ∈ (insA s.1 i (s.2.1 + 1, c.name, typ)).map (·.1) ∨ _
    rw [insA_map, mem_insA_iff]
    rcases hl.pb with h | h
    · exact .inl (.inr h)
    · exact .inr h
  · intro e he
    rcases mem_insA_iff.1 he with rfl | he
    · exact ⟨by omega, by omega⟩
    · exact hl.enc e he
  · show (insA s.2.2.enc i 1).length = (insA s.1 i _).length
    rw [insA_len, insA_len, hl.len]
  · intro x hx
    rcases mem_insA_iff.1 hx with rfl | hx
    · exact .inl rfl
    · exact .inr (.inr hx)
theorem keep_drop {s t : St3} {c : Chg} {i : Nat} (h : MayQ s.1 s.2.1) (hl : LayQ (s.1.map (·.1)) s.1.length s.2.2) (hf : findI s.1 c.col = some i) (ha : dropM s c i = .ok t) : Keep s t c.col := by
  unfold dropM at ha
  by_cases h1 : s.1.length = 1 ∨ heldM s c
  · rw [if_pos h1] at ha; cases ha
  rw [if_neg h1] at ha
  injection ha with ha
  subst ha
  obtain ⟨hi, hic⟩ := findI_lt hf
  have e1 : (s.1.eraseIdx i).length = s.1.length - 1 := by rw [List.length_eraseIdx, if_pos hi]
  have hi2 : i < s.2.2.enc.length := by rw [hl.len]; exact hi
  have e2 : (s.2.2.enc.eraseIdx i).length = s.2.2.enc.length - 1 := by rw [List.length_eraseIdx, if_pos hi2]
  have hin : ∀ id, id ∈ s.1.map (·.1) → id ≠ c.col → id ∈ (s.1.eraseIdx i).map (·.1) := fun id hid hne => by
    obtain ⟨x, hx, rfl⟩ := List.mem_map.1 hid
    obtain ⟨j, hj, rfl⟩ := List.getElem_of_mem hx
    refine List.mem_map.2 ⟨s.1[j], List.mem_eraseIdx_iff_getElem.2 ⟨j, hj, fun e => ?_, rfl⟩, rfl⟩
    subst e
    exact hne hic
  have hlen := h.len
  have hn1 : s.1.length ≠ 1 := fun e => h1 (.inl e)
  refine ⟨⟨by show 1 ≤ (s.1.eraseIdx i).length ∧ _; rw [e1]; omega, h.last, fun x hx => h.col x (List.mem_of_mem_eraseIdx hx), h.ids.sublist ((List.eraseIdx_sublist _ _).map _), h.nms.sublist ((List.eraseIdx_sublist _ _).map _)⟩, ⟨?_, hl.parts, ?_, fun e he => hl.enc e (List.mem_of_mem_eraseIdx he), by show (s.2.2.enc.eraseIdx i).length = (s.1.eraseIdx i).length; rw [e1, e2, hl.len]⟩, .inl rfl, fun x hx => .inr (.inr (List.mem_of_mem_eraseIdx hx))⟩
  · rcases hl.sb with h | h
    · exact .inl h
    · exact .inr (hin _ h fun e => h1 (.inr (.inl e.symm)))
  · rcases hl.pb with h | h
    · exact .inl (hin _ h fun e => h1 (.inr (.inr e.symm)))
    · exact .inr h
theorem keep_mod {s t : St3} {col : Int} {k : Nat} {f : Col3 → Col3} (hm : MayQ t.1 t.2.1) (hl : LayQ (s.1.map (·.1)) s.1.length s.2.2) (ht : t.1 = s.1.modify k f) (hfx : ∀ x, (f x).1 = x.1) (he : t.2 = s.2) (hk : ∀ (h : k < s.1.length), s.1[k].1 = col) : Keep s t col := by
  have hids : t.1.map (·.1) = s.1.map (·.1) := by
    rw [ht]
    refine List.ext_getElem (by simp) fun i h1 h2 => ?_
    simp only [List.getElem_map, List.getElem_modify]
    split
    · rw [hfx]
    · rfl
  have hlen : t.1.length = s.1.length := by rw [ht, List.length_modify]
  refine ⟨hm, by rw [hids, hlen, he]; exact hl, .inl (by rw [he]), fun x hx => ?_⟩
  rw [ht] at hx
  obtain ⟨i, hi, rfl⟩ := List.getElem_of_mem hx
  rw [List.length_modify] at hi
  rw [List.getElem_modify]
  by_cases e : k = i
  · subst e
    rw [if_pos rfl, hfx]
    exact .inr (.inl ⟨hk hi, hk hi ▸ List.mem_map.2 ⟨_, List.getElem_mem hi, rfl⟩⟩)
  · rw [if_neg e]
    exact .inr (.inr (List.getElem_mem hi))
theorem keep_lay {s : St3} {col : Int} {m : Lay4} (h : MayQ s.1 s.2.1) (hl : LayQ (s.1.map (·.1)) s.1.length m) : Keep s (s.1, s.2.1, m) col := ⟨h, hl, .inl rfl, fun x hx => .inr (.inr hx)⟩
theorem keep_any {s t : St3} {c : Chg} (h : MayQ s.1 s.2.1) (hl : LayQ (s.1.map (·.1)) s.1.length s.2.2) (ha : changeM s c = .ok t) : Keep s t c.col := by
  unfold changeM at ha
  by_cases k1 : c.kind = 1
  · rw [if_pos k1] at ha; exact keep_add h hl ha
  rw [if_neg k1] at ha
  by_cases k6 : c.kind = 6
  · rw [if_pos k6] at ha
    unfold resortM at ha
    by_cases h1 : c.col ≠ 0 ∧ (findI s.1 c.col).isSome = false
    · rw [if_pos h1] at ha; cases ha
    rw [if_neg h1] at ha
    injection ha with ha
    subst ha
    refine keep_lay h ⟨?_, hl.parts, hl.pb, hl.enc, hl.len⟩
    by_cases e : c.col = 0
    · exact .inl e
    · refine .inr (findI_mem.1 ?_)
      rcases hh : (findI s.1 c.col).isSome with _ | _
      · exact absurd ⟨e, hh⟩ h1
      · rfl
  rw [if_neg k6] at ha
  by_cases k7 : c.kind = 7
  · rw [if_pos k7] at ha
    unfold repartM at ha
    by_cases h1 : c.num < 1 ∨ 4 < c.num
    · rw [if_pos h1] at ha; cases ha
    rw [if_neg h1] at ha
    by_cases h2 : (findI s.1 c.col).isSome = false ∧ (c.col ≠ 0 ∨ c.num ≠ 1)
    · rw [if_pos h2] at ha; cases ha
    rw [if_neg h2] at ha
    injection ha with ha
    subst ha
    refine keep_lay h ⟨hl.sb, by show 1 ≤ c.num ∧ c.num ≤ 4; omega, ?_, hl.enc, hl.len⟩
    rcases hh : (findI s.1 c.col).isSome with _ | _
    · have : ¬ (c.col ≠ 0 ∨ c.num ≠ 1) := fun e => h2 ⟨hh, e⟩
      exact .inr (by show c.col = 0 ∧ c.num = 1; omega)
    · exact .inl (findI_mem.1 hh)
  rw [if_neg k7] at ha
  by_cases k8 : c.kind = 8
  · rw [if_pos k8] at ha
    injection ha with ha
    subst ha
    exact ⟨h, hl, .inl rfl, fun x hx => .inr (.inr hx)⟩
  rw [if_neg k8] at ha
  by_cases kk : c.kind = 2 ∨ c.kind = 3 ∨ c.kind = 4 ∨ c.kind = 5 ∨ c.kind = 9
  rotate_left
  · rw [if_neg kk] at ha; cases ha
  rw [if_pos kk] at ha
  rcases hf : findI s.1 c.col with _ | i
  · rw [hf] at ha; cases ha
  rw [hf] at ha
  simp only at ha
  obtain ⟨hi, hic⟩ := findI_lt hf
  by_cases k2 : c.kind = 2
  · rw [if_pos k2] at ha; exact keep_drop h hl hf ha
  rw [if_neg k2] at ha
  by_cases k3 : c.kind = 3
  · rw [if_pos k3] at ha
    unfold renameM at ha
    by_cases h1 : ¬ NameL c.name
    · rw [if_pos h1] at ha; cases ha
    rw [if_neg h1] at ha
    by_cases h2 : (findC s.1 c.name).isSome = true ∧ findC s.1 c.name ≠ some i
    · rw [if_pos h2] at ha; cases ha
    rw [if_neg h2] at ha
    injection ha with ha
    subst ha
    refine keep_mod (k := i) (f := fun x => (x.1, c.name, x.2.2)) (h.name (Classical.not_not.1 h1) fun j hj hji he => ?_) hl rfl (fun _ => rfl) rfl (fun _ => hic)
    have h3 := h.findC hj
    rw [he] at h3
    refine h2 ⟨by rw [h3]; rfl, fun e => ?_⟩
    rw [h3] at e
    injection e with e
    exact hji e
  rw [if_neg k3] at ha
  by_cases k4 : c.kind = 4
  · rw [if_pos k4] at ha
    unfold widenM at ha
    by_cases h1 : typOf s.1 i = 3
    · rw [if_pos h1] at ha
      injection ha with ha
      subst ha
      exact keep_mod (k := i) (f := fun x => (x.1, x.2.1, 1)) (h.type ⟨by omega, by omega⟩) hl rfl (fun _ => rfl) rfl (fun _ => hic)
    rw [if_neg h1] at ha
    by_cases h2 : typOf s.1 i = 1
    · rw [if_pos h2] at ha
      injection ha with ha
      subst ha
      exact keep_mod (k := i) (f := fun x => (x.1, x.2.1, 2)) (h.type ⟨by omega, by omega⟩) hl rfl (fun _ => rfl) rfl (fun _ => hic)
    rw [if_neg h2] at ha
    cases ha
  rw [if_neg k4] at ha
  by_cases k5 : c.kind = 5
  · rw [if_pos k5] at ha
    unfold splitM at ha
    by_cases h1 : typOf s.1 i ≠ 4
    · rw [if_pos h1] at ha; cases ha
    rw [if_neg h1] at ha
    by_cases h2 : heldM s c
    · rw [if_pos h2] at ha; cases ha
    rw [if_neg h2] at ha
    exact keep_add h hl ha
  rw [if_neg k5] at ha
  unfold recodeM at ha
  by_cases h1 : ¬ EncL c.num
  · rw [if_pos h1] at ha; cases ha
  rw [if_neg h1] at ha
  injection ha with ha
  subst ha
  refine keep_lay h ⟨hl.sb, hl.parts, hl.pb, fun e he => ?_, by show (s.2.2.enc.set i c.num).length = _; rw [List.length_set]; exact hl.len⟩
  rcases List.mem_or_eq_of_mem_set he with he | rfl
  · exact hl.enc _ he
  · exact Classical.not_not.1 h1
/-- What SchemaStays asks of a column behind a change. -/
theorem Keep.col {s t : St3} {col : Int} (h : Keep s t col) (hm : MayQ s.1 s.2.1) {x : Col3} (hx : x ∈ t.1) :
    (findI s.1 x.1 = none → x.1 = s.2.1 + 1) ∧ ∀ j (hj : j < s.1.length), findI s.1 x.1 = some j → x = s.1[j] ∨ x.1 = col := by
  refine ⟨fun hn => ?_, fun j hj hf => ?_⟩
  · have hno := first_none.1 hn
    rcases h.cols x hx with h1 | ⟨h1, h2⟩ | h1
    · exact h1
    · exact absurd (h1 ▸ h2) hno
    · exact absurd (List.mem_map.2 ⟨x, h1, rfl⟩) hno
  · rcases h.cols x hx with h1 | ⟨h1, _⟩ | h1
    · obtain ⟨hj2, he⟩ := findI_lt hf
      have := (hm.col _ (List.getElem_mem hj2)).1.2
      omega
    · exact .inr h1
    · obtain ⟨i, hi, rfl⟩ := List.getElem_of_mem h1
      have h2 := hm.findI hi
      rw [hf] at h2
      injection h2 with h2
      subst h2
      exact .inl rfl
end Go.Proofs.YtklohbglkbhjhaaDoor
