
import Derived.Test.YtklohbglkbhjhaaDoorIdsM
import Derived.Test.YtklohbglkbhjhaaDoorPlayS
import Derived.Test.YtklohbglkbhjhaaDoorBase
import Derived.Test.YtklohbglkbhjhaaDoorChgE
import Derived.Test.YtklohbglkbhjhaaDoorRowsM
import Derived.Test.YtklohbglkbhjhaaDoorPlayV
import Derived.Test.YtklohbglkbhjhaaDoorPlayN
import Derived.WalkKit
import Derived.Laws.OwnMore
import Derived.Laws.BytesArg
import Derived.Laws.Rows
import Derived.Deep.AppendLies
import Derived.Deep.Draws
import Derived.Test.YtklohbglkbhjhaaDoorChecked
import Derived.Deep.OwnRows
import Derived.Lib.Hide
import Derived.Deep.Quiet
import Derived.Laws.AppendOwnNone
import Derived.Lib.Strings
import Derived.Outline
import Derived.WalkLawsBesides
import Derived.WalkSpells
import Derived.PlainAid
import Derived.Deep.QuietTactic
import Derived.BigQuiet
import Derived.RegionTactic
import Derived.BigRegion
import Derived.Handy
import Derived.Laws.BitsAllLaws
import Derived.Deep.RegionWith
import Derived.Lib.AppendStr
import Derived.Deep.RegionLaw
import Derived.Maps.AppendAt
import Derived.OpenShut
import Derived.WideShapes
import Derived.ChangeArms
import Derived.Deep.Slices
import Derived.Sort.Grow
import Derived.OrdersHeld
import Derived.LaidEql
import Derived.Stop.Asserts
import Derived.RowKitTokens
import Derived.Stop.IfaceNil
import Derived.Laws.BitsLemmas
import Derived.Laws.Bits64
import Derived.WalkSmall
import Derived.Lib.Bytealg
import Derived.Deep.SlicePairs
import Derived.Shelf.Abstract
/- What is made may be; what may be goes on to be: mathematics. -/


namespace Go.Proofs.YtklohbglkbhjhaaDoor
open Go.RowKit
set_option linter.unusedVariables false

theorem nameC_ok (i : Nat) (h : i ≤ 20) : NameL (nameC i) := by
  match i with
  | 0 | 1 | 2 | 3 | 4 | 5 | 6 | 7 | 8 | 9 | 10 | 11 | 12 | 13 | 14 | 15 | 16 | 17 | 18 | 19 | 20 => decide +kernel
  | n + 21 => omega
theorem idB_ok : NameL idB := by decide +kernel
theorem tB_ok : NameL tB := by decide +kernel
theorem notIn2 {a b : ByteArray} {l : List ByteArray} (h : a ≠ b) (h' : a ∉ l) : a ∉ b :: l := fun e => by
  rcases List.mem_cons.1 e with e | e
  · exact h e
  · exact h' e
theorem play_may (t0 : Int) (m : Nat) (ts : List Int) (hm : m ≤ 2) (htl : ts.length = m) (ht0 : 1 ≤ t0 ∧ t0 ≤ 4) (hts : ∀ t ∈ ts, 1 ≤ t ∧ t ≤ 4) : MayQ (playCols t0 m ts) ((m + 2 : Nat) : Int) ∧ otherB ∉ (playCols t0 m ts).map (·.2.1) := by
  match m, ts, htl with
  | 0, [], _ =>
    refine ⟨⟨⟨by simp [playCols, exC], by simp [playCols, exC]⟩, by simp, ?_, ?_, ?_⟩, ?_⟩
    · intro x hx
      simp only [playCols, exC, List.mem_cons, List.not_mem_nil, or_false] at hx
      rcases hx with rfl | rfl
      · exact ⟨⟨by simp, by simp⟩, idB_ok, ht0⟩
      · exact ⟨⟨by simp, by simp⟩, tB_ok, by show (1 : Int) ≤ 4 ∧ (4 : Int) ≤ 4; omega⟩
    · show [(1 : Int), 2].Nodup; decide
    · show [idB, tB].Nodup; decide +kernel
    · show otherB ∉ [idB, tB]
      exact notIn2 (by decide +kernel) (notIn2 (by decide +kernel) List.not_mem_nil)
  | 1, [a], _ =>
    have ha := hts a (by simp)
    refine ⟨⟨⟨by simp [playCols, exC], by simp [playCols, exC]⟩, by simp, ?_, ?_, ?_⟩, ?_⟩
    · intro x hx
      simp only [playCols, exC, List.mem_cons, List.not_mem_nil, or_false] at hx
      rcases hx with rfl | rfl | rfl
      · exact ⟨⟨by simp, by simp⟩, idB_ok, ht0⟩
      · exact ⟨⟨by simp, by simp⟩, tB_ok, by show (1 : Int) ≤ 4 ∧ (4 : Int) ≤ 4; omega⟩
      · exact ⟨⟨by simp, by simp⟩, nameC_ok _ (by omega), ha⟩
    · show [(1 : Int), 2, 3].Nodup; decide
    · show [idB, tB, nameC 1].Nodup; decide +kernel
    · show otherB ∉ [idB, tB, nameC 1]
      exact notIn2 (by decide +kernel) (notIn2 (by decide +kernel) (notIn2 (by decide +kernel) List.not_mem_nil))
  | 2, [a, b], _ =>
    have ha := hts a (by simp)
    have hb := hts b (by simp)
    refine ⟨⟨⟨by simp [playCols, exC], by simp [playCols, exC]⟩, by simp, ?_, ?_, ?_⟩, ?_⟩
    · intro x hx
      simp only [playCols, exC, List.mem_cons, List.not_mem_nil, or_false] at hx
      rcases hx with rfl | rfl | rfl | rfl
      · exact ⟨⟨by simp, by simp⟩, idB_ok, ht0⟩
      · exact ⟨⟨by simp, by simp⟩, tB_ok, by show (1 : Int) ≤ 4 ∧ (4 : Int) ≤ 4; omega⟩
      · exact ⟨⟨by simp, by simp⟩, nameC_ok _ (by omega), ha⟩
      · exact ⟨⟨by simp, by simp⟩, nameC_ok _ (by omega), hb⟩
    · show [(1 : Int), 2, 3, 4].Nodup; decide
    · show [idB, tB, nameC 2, nameC 1].Nodup; decide +kernel
    · show otherB ∉ [idB, tB, nameC 2, nameC 1]
      exact notIn2 (by decide +kernel) (notIn2 (by decide +kernel) (notIn2 (by decide +kernel) (notIn2 (by decide +kernel) List.not_mem_nil)))
/-- What a change keeps. -/
structure Keep (s t : St3) (col : Int) : Prop where
  may : MayQ t.1 t.2.1
  lay : LayQ (t.1.map (·.1)) t.1.length t.2.2
  last : t.2.1 = s.2.1 ∨ t.2.1 = s.2.1 + 1
  cols : ∀ x ∈ t.1, x.1 = s.2.1 + 1 ∨ (x.1 = col ∧ col ∈ s.1.map (·.1)) ∨ x ∈ s.1
theorem mem_insA_iff {α : Type} {l : List α} {i : Nat} {x y : α} : y ∈ insA l i x ↔ y = x ∨ y ∈ l := by
  rw [(insA_perm l i x).mem_iff, List.mem_cons]
theorem MayQ.grow {l : List Col3} {last : Int} (h : MayQ l last) (hl : last < 10000) : ∀ x ∈ l, ColL (last + 1) x := fun x hx => by
  obtain ⟨⟨h1, h2⟩, h3⟩ := h.col x hx
  exact ⟨⟨h1, by omega⟩, h3⟩
theorem keep_add {s t : St3} {c : Chg} {typ : Int} {val : Val3} {i : Nat} (h : MayQ s.1 s.2.1) (hl : LayQ (s.1.map (·.1)) s.1.length s.2.2) (ha : addM s c typ val i = .ok t) : Keep s t c.col := by
  have hty : TypL typ ∧ ¬ (findC s.1 c.name).isSome = true := by
    unfold addM at ha
    by_cases h1 : ¬ (NameL c.name ∧ TypL typ)
    · rw [if_pos h1] at ha; cases ha
    · rw [if_neg h1] at ha
      by_cases h2 : (findC s.1 c.name).isSome = true
      · rw [if_pos h2] at ha; cases ha
      · exact ⟨(Classical.not_not.1 h1).2, h2⟩
  obtain ⟨hty, hnf⟩ := hty
  obtain ⟨⟨hn, h6, hlt⟩, rfl⟩ := addM_ok ha
  have hnm : c.name ∉ s.1.map (·.2.1) := fun e => hnf (findC_mem.2 e)
  have hpos : 0 ≤ s.2.1 := by
    have h0 : 0 < s.1.length := by have := h.len; omega
    have := (h.col _ (List.getElem_mem h0)).1
    omega
  refine ⟨⟨?_, ?_, ?_, ?_, ?_⟩, ⟨?_, hl.parts, ?_, ?_, ?_⟩, .inr rfl, ?_⟩
  · show 1 ≤ (insA s.1 i _).length ∧ (insA s.1 i _).length ≤ 6
    rw [insA_len]; omega
  · show s.2.1 + 1 ≤ 10000; omega
  · intro x hx
    rcases mem_insA_iff.1 hx with rfl | hx
    · exact ⟨⟨by show 1 ≤ s.2.1 + 1; omega, Int.le_refl _⟩, hn, hty⟩
    · exact h.grow hlt x hx
  · show ((insA s.1 i (s.2.1 + 1, c.name, typ)).map (·.1)).Nodup
    rw [insA_map, (insA_perm _ _ _).nodup_iff, List.nodup_cons]
    refine ⟨fun hm => ?_, h.ids⟩
    obtain ⟨x, hx, he⟩ := List.mem_map.1 hm
    have := (h.col x hx).1.2
    simp only at he
    omega
  · show ((insA s.1 i (s.2.1 + 1, c.name, typ)).map (·.2.1)).Nodup
    rw [insA_map, (insA_perm _ _ _).nodup_iff, List.nodup_cons]
    exact ⟨hnm, h.nms⟩
  · show s.2.2.sb = 0 ∨ s.2.2.sb ∈ (insA s.1 i (s.2.1 + 1, c.name, typ)).map (·.1)
    rw [insA_map, mem_insA_iff]
    rcases hl.sb with h | h
    · exact .inl h
    · exact .inr (.inr h)
  · show s.2.2.pb ∈ (insA s.1 i (s.2.1 + 1, c.name, typ)).map (·.1) ∨ _
    rw [insA_map, mem_insA_iff]
    rcases hl.pb with h | h
    · exact .inl (.inr h)
    · exact .inr h
  · intro e he
    rcases mem_insA_iff.1 he with rfl | he
    · exact ⟨by omega, by omega⟩
    · exact hl.enc e he
  · show (insA s.2.2.enc i 1).length = (insA s.1 i _).length
    rw [insA_len, insA_len, hl.len]
  · intro x hx
    rcases mem_insA_iff.1 hx with rfl | hx
    · exact .inl rfl
    · exact .inr (.inr hx)
theorem keep_drop {s t : St3} {c : Chg} {i : Nat} (h : MayQ s.1 s.2.1) (hl : LayQ (s.1.map (·.1)) s.1.length s.2.2) (hf : findI s.1 c.col = some i) (ha : dropM s c i = .ok t) : Keep s t c.col := by
  unfold dropM at ha
  by_cases h1 : s.1.length = 1 ∨ heldM s c
  · rw [if_pos h1] at ha; cases ha
  rw [if_neg h1] at ha
  injection ha with ha
  subst ha
  obtain ⟨hi, hic⟩ := findI_lt hf
  have e1 : (s.1.eraseIdx i).length = s.1.length - 1 := by rw [List.length_eraseIdx, if_pos hi]
  have hi2 : i < s.2.2.enc.length := by rw [hl.len]; exact hi
  have e2 : (s.2.2.enc.eraseIdx i).length = s.2.2.enc.length - 1 := by rw [List.length_eraseIdx, if_pos hi2]
  have hin : ∀ id, id ∈ s.1.map (·.1) → id ≠ c.col → id ∈ (s.1.eraseIdx i).map (·.1) := fun id hid hne => by
    obtain ⟨x, hx, rfl⟩ := List.mem_map.1 hid
    obtain ⟨j, hj, rfl⟩ := List.getElem_of_mem hx
    refine List.mem_map.2 ⟨s.1[j], List.mem_eraseIdx_iff_getElem.2 ⟨j, hj, fun e => ?_, rfl⟩, rfl⟩
    subst e
    exact hne hic
  have hlen := h.len
  have hn1 : s.1.length ≠ 1 := fun e => h1 (.inl e)
  refine ⟨⟨by show 1 ≤ (s.1.eraseIdx i).length ∧ _; rw [e1]; omega, h.last, fun x hx => h.col x (List.mem_of_mem_eraseIdx hx), h.ids.sublist ((List.eraseIdx_sublist _ _).map _), h.nms.sublist ((List.eraseIdx_sublist _ _).map _)⟩, ⟨?_, hl.parts, ?_, fun e he => hl.enc e (List.mem_of_mem_eraseIdx he), by show (s.2.2.enc.eraseIdx i).length = (s.1.eraseIdx i).length; rw [e1, e2, hl.len]⟩, .inl rfl, fun x hx => .inr (.inr (List.mem_of_mem_eraseIdx hx))⟩
  · rcases hl.sb with h | h
    · exact .inl h
    · exact .inr (hin _ h fun e => h1 (.inr (.inl e.symm)))
  · rcases hl.pb with h | h
    · exact .inl (hin _ h fun e => h1 (.inr (.inr e.symm)))
    · exact .inr h
theorem keep_mod {s t : St3} {col : Int} {k : Nat} {f : Col3 → Col3} (hm : MayQ t.1 t.2.1) (hl : LayQ (s.1.map (·.1)) s.1.length s.2.2) (ht : t.1 = s.1.modify k f) (hfx : ∀ x, (f x).1 = x.1) (he : t.2 = s.2) (hk : ∀ (h : k < s.1.length), s.1[k].1 = col) : Keep s t col := by
  have hids : t.1.map (·.1) = s.1.map (·.1) := by
    rw [ht]
    refine List.ext_getElem (by simp) fun i h1 h2 => ?_
    simp only [List.getElem_map, List.getElem_modify]
    split
    · rw [hfx]
    · rfl
  have hlen : t.1.length = s.1.length := by rw [ht, List.length_modify]
  refine ⟨hm, by rw [hids, hlen, he]; exact hl, .inl (by rw [he]), fun x hx => ?_⟩
  rw [ht] at hx
  obtain ⟨i, hi, rfl⟩ := List.getElem_of_mem hx
  rw [List.length_modify] at hi
  rw [List.getElem_modify]
  by_cases e : k = i
  · subst e
    rw [if_pos rfl, hfx]
    exact .inr (.inl ⟨hk hi, hk hi ▸ List.mem_map.2 ⟨_, List.getElem_mem hi, rfl⟩⟩)
  · rw [if_neg e]
    exact .inr (.inr (List.getElem_mem hi))
theorem keep_lay {s : St3} {col : Int} {m : Lay4} (h : MayQ s.1 s.2.1) (hl : LayQ (s.1.map (·.1)) s.1.length m) : Keep s (s.1, s.2.1, m) col := ⟨h, hl, .inl rfl, fun x hx => .inr (.inr hx)⟩
theorem keep_any {s t : St3} {c : Chg} (h : MayQ s.1 s.2.1) (hl : LayQ (s.1.map (·.1)) s.1.length s.2.2) (ha : changeM s c = .ok t) : Keep s t c.col := by
  unfold changeM at ha
  by_cases k1 : c.kind = 1
  · rw [if_pos k1] at ha; exact keep_add h hl ha
  rw [if_neg k1] at ha
  by_cases k6 : c.kind = 6
  · rw [if_pos k6] at ha
    unfold resortM at ha
    by_cases h1 : c.col ≠ 0 ∧ (findI s.1 c.col).isSome = false
    · rw [if_pos h1] at ha; cases ha
    rw [if_neg h1] at ha
    injection ha with ha
    subst ha
    refine keep_lay h ⟨?_, hl.parts, hl.pb, hl.enc, hl.len⟩
    by_cases e : c.col = 0
    · exact .inl e
    · refine .inr (findI_mem.1 ?_)
      rcases hh : (findI s.1 c.col).isSome with _ | _
      · exact absurd ⟨e, hh⟩ h1
      · rfl
  rw [if_neg k6] at ha
  by_cases k7 : c.kind = 7
  · rw [if_pos k7] at ha
    unfold repartM at ha
    by_cases h1 : c.num < 1 ∨ 4 < c.num
    · rw [if_pos h1] at ha; cases ha
    rw [if_neg h1] at ha
    by_cases h2 : (findI s.1 c.col).isSome = false ∧ (c.col ≠ 0 ∨ c.num ≠ 1)
    · rw [if_pos h2] at ha; cases ha
    rw [if_neg h2] at ha
    injection ha with ha
    subst ha
    refine keep_lay h ⟨hl.sb, by show 1 ≤ c.num ∧ c.num ≤ 4; omega, ?_, hl.enc, hl.len⟩
    rcases hh : (findI s.1 c.col).isSome with _ | _
    · have : ¬ (c.col ≠ 0 ∨ c.num ≠ 1) := fun e => h2 ⟨hh, e⟩
      exact .inr (by show c.col = 0 ∧ c.num = 1; omega)
    · exact .inl (findI_mem.1 hh)
  rw [if_neg k7] at ha
  by_cases k8 : c.kind = 8
  · rw [if_pos k8] at ha
    injection ha with ha
    subst ha
    exact ⟨h, hl, .inl rfl, fun x hx => .inr (.inr hx)⟩
  rw [if_neg k8] at ha
  by_cases kk : c.kind = 2 ∨ c.kind = 3 ∨ c.kind = 4 ∨ c.kind = 5 ∨ c.kind = 9
  rotate_left
  · rw [if_neg kk] at ha; cases ha
  rw [if_pos kk] at ha
  rcases hf : findI s.1 c.col with _ | i
  · rw [hf] at ha; cases ha
  rw [hf] at ha
  simp only at ha
  obtain ⟨hi, hic⟩ := findI_lt hf
  by_cases k2 : c.kind = 2
  · rw [if_pos k2] at ha; exact keep_drop h hl hf ha
  rw [if_neg k2] at ha
  by_cases k3 : c.kind = 3
  · rw [if_pos k3] at ha
    unfold renameM at ha
    by_cases h1 : ¬ NameL c.name
    · rw [if_pos h1] at ha; cases ha
    rw [if_neg h1] at ha
    by_cases h2 : (findC s.1 c.name).isSome = true ∧ findC s.1 c.name ≠ some i
    · rw [if_pos h2] at ha; cases ha
    rw [if_neg h2] at ha
    injection ha with ha
    subst ha
    refine keep_mod (k := i) (f := fun x => (x.1, c.name, x.2.2)) (h.name (Classical.not_not.1 h1) fun j hj hji he => ?_) hl rfl (fun _ => rfl) rfl (fun _ => hic)
    have h3 := h.findC hj
    rw [he] at h3
    refine h2 ⟨by rw [h3]; rfl, fun e => ?_⟩
    rw [h3] at e
    injection e with e
    exact hji e
  rw [if_neg k3] at ha
  by_cases k4 : c.kind = 4
  · rw [if_pos k4] at ha
    unfold widenM at ha
    by_cases h1 : typOf s.1 i = 3
    · rw [if_pos h1] at ha
      injection ha with ha
      subst ha
      exact keep_mod (k := i) (f := fun x => (x.1, x.2.1, 1)) (h.type ⟨by omega, by omega⟩) hl rfl (fun _ => rfl) rfl (fun _ => hic)
    rw [if_neg h1] at ha
    by_cases h2 : typOf s.1 i = 1
    · rw [if_pos h2] at ha
      injection ha with ha
      subst ha
      exact keep_mod (k := i) (f := fun x => (x.1, x.2.1, 2)) (h.type ⟨by omega, by omega⟩) hl rfl (fun _ => rfl) rfl (fun _ => hic)
    rw [if_neg h2] at ha
    cases ha
  rw [if_neg k4] at ha
  by_cases k5 : c.kind = 5
  · rw [if_pos k5] at ha
    unfold splitM at ha
    by_cases h1 : typOf s.1 i ≠ 4
    · rw [if_pos h1] at ha; cases ha
    rw [if_neg h1] at ha
    by_cases h2 : heldM s c
    · rw [if_pos h2] at ha; cases ha
    rw [if_neg h2] at ha
    exact keep_add h hl ha
  rw [if_neg k5] at ha
  unfold recodeM at ha
  by_cases h1 : ¬ EncL c.num
  · rw [if_pos h1] at ha; cases ha
  rw [if_neg h1] at ha
  injection ha with ha
  subst ha
  refine keep_lay h ⟨hl.sb, hl.parts, hl.pb, fun e he => ?_, by show (s.2.2.enc.set i c.num).length = _; rw [List.length_set]; exact hl.len⟩
  rcases List.mem_or_eq_of_mem_set he with he | rfl
  · exact hl.enc _ he
  · exact Classical.not_not.1 h1
/-- What SchemaStays asks of a column behind a change. -/
theorem Keep.col {s t : St3} {col : Int} (h : Keep s t col) (hm : MayQ s.1 s.2.1) {x : Col3} (hx : x ∈ t.1) :
    (findI s.1 x.1 = none → x.1 = s.2.1 + 1) ∧ ∀ j (hj : j < s.1.length), findI s.1 x.1 = some j → x = s.1[j] ∨ x.1 = col := by
  refine ⟨fun hn => ?_, fun j hj hf => ?_⟩
  · have hno := first_none.1 hn
    rcases h.cols x hx with h1 | ⟨h1, h2⟩ | h1
    · exact h1
    · exact absurd (h1 ▸ h2) hno
    · exact absurd (List.mem_map.2 ⟨x, h1, rfl⟩) hno
  · rcases h.cols x hx with h1 | ⟨h1, _⟩ | h1
    · obtain ⟨hj2, he⟩ := findI_lt hf
      have := (hm.col _ (List.getElem_mem hj2)).1.2
      omega
    · exact .inr h1
    · obtain ⟨i, hi, rfl⟩ := List.getElem_of_mem h1
      have h2 := hm.findI hi
      rw [hf] at h2
      injection h2 with h2
      subst h2
      exact .inl rfl
end Go.Proofs.YtklohbglkbhjhaaDoor

/- The walk of rabbetplay's Row. -/

namespace Go.Proofs.YtklohbglkbhjhaaDoor
open Go.RowKit
set_option linter.unusedVariables false

theorem HasX.far {W W' : World} {g : Nat} {A : Option Addr} {xs : List Value} (h : HasX (some g) W A xs) (hf : Far g W W') : HasX (some g) W' A xs := by
  rcases h with h | ⟨b, off, hA, hb, hne, hc⟩
  · exact .inl h
  · exact .inr ⟨b, off, hA, Nat.lt_of_lt_of_le hb hf.size, hne, fun k v hv => by rw [cell_block (hf.2.2 b hb (fun e => hne (by rw [e])))]; exact hc k v hv⟩
/-- A value, as Value makes it, of a type. -/
def FitV (t : Int) (v : Val3) : Prop := (v = (0, 0, ⟨#[]⟩) ∨ (v.1 = tyOf t ∧ MayV v.1 v.2.1 v.2.2.size ∧ In64 v.2.1)) ∧ v.2.2.size ≠ 11
/-- .. a row, as Row makes it. -/
def FitR (xs : List Col3) (row : List Val3) : Prop := ∀ (i : Nat) (x : Col3) (v : Val3), xs[i]? = some x → row[i]? = some v → FitV x.2.2 v
theorem FitR.nil (xs : List Col3) : FitR xs [] := fun _ _ _ _ h => by simp at h
theorem FitR.snoc {xs : List Col3} {row : List Val3} (h : FitR xs row) {x : Col3} {v : Val3} (hx : xs[row.length]? = some x) (hv : FitV x.2.2 v) : FitR xs (row ++ [v]) := by
  intro i y u hy hu
  rcases Nat.lt_trichotomy i row.length with hi | rfl | hi
  · rw [List.getElem?_append_left hi] at hu; exact h i y u hy hu
  · rw [List.getElem?_append_right (Nat.le_refl _), Nat.sub_self] at hu
    rw [hx] at hy
    injection hy with hy; injection hu with hu
    subst hy hu; exact hv
  · rw [List.getElem?_eq_none (by rw [List.length_append, List.length_singleton]; omega)] at hu; cases hu
def RowP (xs : List Col3) (g : Nat) (A : Option Addr) (n c : Nat) (bs : List Nat) (w : World) (e : Ending) (w' : World) : Prop :=
  ∃ (row : List Val3) (R : Option Addr) (rc : Nat), e = .returned (.slice R row.length rc) ∧ row.length = xs.length ∧ FitR xs row ∧ w'.ownsRow w.heap.size 29 3 (.slice R row.length rc) row.length (fl row) ∧ (R = none → rc = 0) ∧ Pks w' g A n c bs ∧ Far g w w'
/-- Where Row's loop stands. -/
def RwJ (xs : List Col3) (g : Nat) (A : Option Addr) (n c : Nat) (bs : List Nat) (V : Option Addr) (vc : Nat) (last : Int) (w : World) (rv iv : Value) (wr : World) : Prop :=
  ∃ (row : List Val3) (R : Option Addr) (rc k : Nat), rv = .slice R k rc ∧ iv = .int .i64 k ∧ row.length = k ∧ k ≤ xs.length ∧ FitR xs row ∧ wr.ownsRow (w.heap.size + 1) 29 3 (.slice R k rc) k (fl row) ∧ (R = none → rc = 0) ∧ Pks wr g A n c bs ∧ Far g w wr ∧ Blk wr w.heap.size #[.slice V xs.length vc, .int .i64 last] 24
theorem RwJ.mk {xs : List Col3} {g : Nat} {A : Option Addr} {n c : Nat} {bs : List Nat} {V : Option Addr} {vc : Nat} {last : Int} {w wr : World} (y : Int) (row : List Val3) (R : Option Addr) (m rc k : Nat) (hm : m = k) (hy : y = (k : Int)) (hk : row.length = k) (hkx : k ≤ xs.length) (hf : FitR xs row) (ho : wr.ownsRow (w.heap.size + 1) 29 3 (.slice R m rc) m (fl row)) (hn : R = none → rc = 0)
    (hp : Pks wr g A n c bs) (hF : Far g w wr) (hB : Blk wr w.heap.size #[.slice V xs.length vc, .int .i64 last] 24) : RwJ xs g A n c bs V vc last w (.slice R m rc) (.int .i64 y) wr := by
  subst hy hm; exact ⟨row, R, rc, m, rfl, rfl, hk, hkx, hf, ho, hn, hp, hF, hB⟩

set_option maxRecDepth 100000 in
set_option maxHeartbeats 4000000 in
theorem row_any (g : Nat) (A : Option Addr) (n c : Nat) (bs : List Nat) (V : Option Addr) (vn vc : Nat) (last : Int) (xs : List Col3) (w : World) (hc : PkC n bs) (hp : Pks w g A n c bs) (hvn : vn = xs.length) (hl : vn ≤ 1000) (hV : HasX (some g) w V (fc xs)) :
    Calls Tryd.prog 30 #[.pointer (some ⟨g, 0, none⟩), .agg #[.slice V vn vc, .int .i64 last]] w (RowP xs g A n c bs w) := by
  obtain ⟨h0, hh0⟩ : ∃ x, w.heap.size = x := ⟨_, rfl⟩
  obtain ⟨w1, hw1⟩ : ∃ x : World, w.alloc (.cells #[.slice V vn vc, .int .i64 last] 24) = x := ⟨_, rfl⟩
  have l1 : Later w w1 := hw1 ▸ Later.new w _
  have HI0 := Lib.hid (RwJ.mk (xs := xs) (g := g) (A := A) (n := n) (c := c) (bs := bs) (V := V) (vc := vc) (last := last) (w := w) (wr := w1) 0 [] none 0 0 0 rfl rfl rfl (Nat.zero_le _) (FitR.nil _) (ownG_nil _ _ _ _) (fun _ => rfl) (hp.later l1) (Far.of hp.lt l1) (hvn ▸ hw1 ▸ Blk.new _ _ _ _ rfl))
  have HV := Lib.hid hV
  have HVN := Lib.hid hvn
  have HG := Lib.hid hp.lt
  have HS1 := Lib.hid (show w1.heap.size = h0 + 1 by rw [← hw1, ← hh0]; simp)
  clear l1 hp hV hvn
  go_enter Tryd.func30, Tryd.ntmps30
  go_wp2_with fail
  clear hw1
  go_loopw [5, 6] (fun rv iv wr => RwJ xs g A n c bs V vc last w rv iv wr) (fun _ i _ => vn - (intOf i).toNat)
  case atStart => exact HI0.out
  case round =>
    obtain ⟨row, R, rc, k, rfl, rfl, hrow, hkx, hfit, hown, hnil, hpk, hfar, hblk⟩ := hrel
    have HFIT := Lib.hid hfit
    have HNIL := Lib.hid hnil
    have HBLK := Lib.hid hblk
    have HFAR := Lib.hid hfar
    have HROW := Lib.hid hrow
    have HOWN := Lib.hid hown
    rw [← HVN.out, hh0] at hblk
    have c0 := hblk.cell 0 _ rfl
    clear HI0 hfit hnil hfar hblk hrow hown
    by_cases hlt : k < vn
    · have hkl : (k : Int) < (vn : Int) := by omega
      have hkxs : k < xs.length := by have := HVN.out; omega
      obtain ⟨b, off, hA, v0, v1, v2⟩ := (HV.out.far HFAR.out).has.col3 k hkxs
      subst hA
      have HX := Lib.hid (show xs[row.length]? = some xs[k] by rw [HROW.out]; exact List.getElem?_eq_getElem hkxs)
      generalize xs[k] = x at v0 v1 v2 HX
      obtain ⟨xi, xn, xt⟩ := x
      dsimp only at v0 v1 v2
      go_wp2_with fail
      refine (valueP xt g A n c bs wr hc hpk).mono ?_
      rintro e wn ⟨vt, i, s, rfl, hv, hp2, hf2, h11⟩
      have HFITV := Lib.hid (show FitV xt (vt, i, s) from ⟨hv.imp (fun h => by obtain ⟨rfl, rfl, rfl⟩ := h; rfl) id, h11⟩)
      clear h11
      have HP2 := Lib.hid hp2
      have HF2 := Lib.hid (HFAR.out.trans hf2)
      have HB2 := Lib.hid (hf2.blk HBLK.out (by have := HG.out; omega))
      have HOA := Lib.hid (fun (o : Obj) => own_later (hf2.own (by have := HG.out; omega) HOWN.out) (Later.new wn o))
      have HBK := Lib.hid (fun (wz : World) => Blk.new wz #[.int .i64 vt, .int .i64 i, .string s] 29 wz.heap.size rfl)
      have HSZ := Lib.hid (show w.heap.size + 1 ≤ wn.heap.size from HB2.out.lt)
      clear hv hp2 hf2 c0 v0 v1 v2 hpk
      go_wp2_with (at_builtin; refine wpList_append_g _ rfl (.tmp 14) (.tmp 23) 33 rfl (w.heap.size + 1) 29 _ 3 32 Tryd.underlying33 info_v rfl (by decide) _ k _ rfl (HOA.out _) _ 1 1 (fl [(vt, i, s)]) rfl (HBK.out wn).has rfl (by intro h; cases h) (fl_one _) (by unfold maxLen; omega) (by omega) (by have := HSZ.out; simp; omega) ?_; rintro A' c' wq hO _ hbel hn2; have HO2 := Lib.hid hO; have HN2 := Lib.hid hn2; have HL2 := Lib.hid (((Later.new wn _).below.mono HSZ.out).trans hbel); clear hO hn2 hbel)
      go_roundw
      all_goals first
        | exact RwJ.mk _ (row ++ [(vt, i, s)]) _ _ _ (k + 1) (by omega) (by omega) (by rw [List.length_append, HROW.out]; rfl) (by omega) (FitR.snoc HFIT.out HX.out HFITV.out) (by rw [fl_append]; exact HO2.out) HN2.out (HP2.out.below HL2.out (by have := HG.out; omega)) (HF2.out.below (HL2.out.mono (by omega))) ((HL2.out.block _ (Nat.lt_succ_self _)).trans HB2.out)
        | (simp [intOf]; done)
        | (simp [intOf]; omega)
    · have hkn : k = xs.length := by have := HVN.out; omega
      have HKN := Lib.hid hkn
      clear hkn
      go_wp2_with fail
      go_ret
      have hr := HROW.out
      have hk := HKN.out
      subst hr
      refine ⟨row, R, rc, rfl, hk, HFIT.out, ?_, HNIL.out, hpk, HFAR.out⟩
      obtain ⟨p1, p2⟩ := HOWN.out
      refine ⟨p1, ?_⟩
      rcases p2 with p2 | ⟨q, cap, cur, ha, hb, hrest⟩
      · exact .inl p2
      · exact .inr ⟨q, cap, cur, ha, by omega, hrest⟩
end Go.Proofs.YtklohbglkbhjhaaDoor
