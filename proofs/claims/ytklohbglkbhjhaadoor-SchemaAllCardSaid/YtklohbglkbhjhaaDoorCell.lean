
import Derived.Test.YtklohbglkbhjhaaDoorNumB
import Derived.Test.YtklohbglkbhjhaaDoorBase
import Derived.Test.YtklohbglkbhjhaaDoorPlainMath
import Derived.Lib.AppendStr
import Derived.Deep.RegionWith
import Derived.Deep.RegionLaw
import Derived.BigQuiet
/- Package cell: Type, Count, All; fault.At; the six sentinels. -/

/- Walks of package cell: Type, Count. -/

namespace Go.Proofs.YtklohbglkbhjhaaDoor
open Go.RowKit
set_option linter.unusedVariables false

/-- The sentinel in global g. -/
def CSent (w : World) (g : Nat) : Prop := ∃ a : Addr, w.cell? ⟨g, 0, none⟩ = some (.iface 143 (.pointer (some a)))
theorem CSent.later {w w' : World} {g : Nat} (h : CSent w g) (l : Later w w') : CSent w' g := h.elim fun a h => ⟨a, l.cell h⟩
/-- An error of fault.At. -/
def Where (v : Value) : Prop := ∃ p : Addr, v = .iface 112 (.pointer (some p))

end Go.Proofs.YtklohbglkbhjhaaDoor

/- Walks of package cell: All. -/

namespace Go.Proofs.YtklohbglkbhjhaaDoor
open Go.RowKit
set_option linter.unusedVariables false


end Go.Proofs.YtklohbglkbhjhaaDoor

namespace Go.Proofs.YtklohbglkbhjhaaDoor
open Go.RowKit
set_option linter.unusedVariables false

abbrev vagg (t i : Int) (s : ByteArray) : Value := .agg #[.int .i64 t, .int .i64 i, .string s]
/-- A call that gives bytes of its own. -/
def Gives (l : List Nat) (w : World) (e : Ending) (w' : World) : Prop :=
  ∃ A c, e = .returned (.slice A l.length c) ∧ Has w' A (ints .u8 l) ∧ l.length ≤ c ∧ c ≤ 9223372036854775807 ∧ (A = none → c = 0) ∧ Later w w'
theorem own_capmax {w : World} {base : Nat} {e : TypeId} {A : Option Addr} {c : Nat} {n : Nat} {xs : List Value} (h : w.ownsRow base e 1 (.slice A n c) n xs) : c ≤ 9223372036854775807 := by
  rcases h.2 with ⟨h1, rfl⟩ | ⟨g, cap, cur, h1, _, _, _, h2, _⟩
  · injection h1 with _ _ h1; omega
  · injection h1 with _ _ h1
    unfold maxLen at h2
    omega
theorem Makes.gives {l : List Nat} {w : World} {e : Ending} {w' : World} (h : Makes l w e w') : Gives l w e w' := by
  obtain ⟨A, c, rfl, ho, hb, hn⟩ := h
  exact ⟨A, c, rfl, Has.own ho, own_cap ho, own_capmax ho, hn, hb⟩

theorem conv_str (A : Option Addr) (n c : Nat) (l : List Nat) (hn : n = l.length) (w : World) (B : Nat) (hr : Rd w B A (ints .u8 l)) :
    (convert 34 9 (.slice A n c)).run Tryd.prog w = .ok (.string (bstr l)) w :=
  run_bstr 34 5 9 Tryd.underlying34 Tryd.underlying5 Tryd.underlying9 A n c l hn w B hr
theorem three_blk {w : World} {g : Nat} {cs : Array Value} {t : TypeId} (h : Blk w g cs t) (hs : cs.size = 3) (x y z : Value) : Blk (((w.setCell ⟨g, 0, none⟩ x).setCell ⟨g, 1, none⟩ y).setCell ⟨g, 2, none⟩ z) g #[x, y, z] t := by
  have := ((h.set_ 0 x).set_ 1 y).set_ 2 z
  have e : ((cs.setIfInBounds 0 x).setIfInBounds 1 y).setIfInBounds 2 z = #[x, y, z] := by
    match cs, hs with
    | ⟨[a, b, c]⟩, _ => rfl
  rwa [e] at this
theorem three_later {w w' : World} {g : Nat} (h : Later w w') (hg : w.heap.size ≤ g) (x y z : Value) : Later w (((w'.setCell ⟨g, 0, none⟩ x).setCell ⟨g, 1, none⟩ y).setCell ⟨g, 2, none⟩ z) := ((h.set_ hg _).set_ hg _).set_ hg _
end Go.Proofs.YtklohbglkbhjhaaDoor

/- Lists that calls give; fault.List; the reference's SameValues. -/

namespace Go.Proofs.YtklohbglkbhjhaaDoor
open Go.RowKit
set_option linter.unusedVariables false

instance (t : Int) (l : List Val3) : Decidable (OkL t l) := by unfold OkL; infer_instance
theorem own_later {w w' : World} {base : Nat} {e : TypeId} {k : Nat} {v : Value} {n : Nat} {xs : List Value} (h : w.ownsRow base e k v n xs) (l : Later w w') : w'.ownsRow base e k v n xs := by
  obtain ⟨h1, h2⟩ := h
  refine ⟨h1, ?_⟩
  rcases h2 with h2 | ⟨g, cap, cur, ha, hb, hg, hrest⟩
  · exact .inl h2
  · refine .inr ⟨g, cap, cur, ha, hb, (Below.block l g ?_).trans hg, hrest⟩
    rcases Nat.lt_or_ge g w.heap.size with h' | h'
    · exact h'
    · rw [Array.getElem?_eq_none h'] at hg; cases hg

/-- What a face tells: a list, or a no. -/
def PutsB (o : Option (List Nat)) (w : World) (e : Ending) (w' : World) : Prop :=
  ((o = none ∧ e = .returned (.tuple #[.slice none 0 0, .bool false])) ∨
    ∃ l A c, o = some l ∧ e = .returned (.tuple #[.slice A l.length c, .bool true]) ∧ Has w' A (ints .u8 l) ∧ l.length ≤ c ∧ c ≤ 9223372036854775807 ∧ (A = none → c = 0)) ∧ Later w w'
def PutsV (o : Option (List Val3)) (w : World) (e : Ending) (w' : World) : Prop :=
  ((o = none ∧ e = .returned (.tuple #[.slice none 0 0, .bool false])) ∨
    ∃ l A c, o = some l ∧ e = .returned (.tuple #[.slice A l.length c, .bool true]) ∧ Has w' A (fl l)) ∧ Later w w'
theorem PutsB.no {o : Option (List Nat)} {w w' : World} {e : Ending} (h : PutsB o w e w') (hn : o = none) : e = .returned (.tuple #[.slice none 0 0, .bool false]) ∧ Later w w' := by
  obtain ⟨⟨_, h⟩ | ⟨l, A, c, h, _⟩, L⟩ := h
  · exact ⟨h, L⟩
  · rw [hn] at h; cases h
theorem PutsB.yes {o : Option (List Nat)} {w w' : World} {e : Ending} {l : List Nat} (h : PutsB o w e w') (hs : o = some l) : ∃ A c, e = .returned (.tuple #[.slice A l.length c, .bool true]) ∧ Has w' A (ints .u8 l) ∧ l.length ≤ c ∧ c ≤ 9223372036854775807 ∧ (A = none → c = 0) ∧ Later w w' := by
  obtain ⟨⟨h, _⟩ | ⟨l', A, c, h, h1, h2, h3, h4, h5⟩, L⟩ := h
  · rw [hs] at h; cases h
  · rw [hs] at h; cases h; exact ⟨A, c, h1, h2, h3, h4, h5, L⟩
theorem PutsV.no {o : Option (List Val3)} {w w' : World} {e : Ending} (h : PutsV o w e w') (hn : o = none) : e = .returned (.tuple #[.slice none 0 0, .bool false]) ∧ Later w w' := by
  obtain ⟨⟨_, h⟩ | ⟨l, A, c, h, _⟩, L⟩ := h
  · exact ⟨h, L⟩
  · rw [hn] at h; cases h
theorem PutsV.yes {o : Option (List Val3)} {w w' : World} {e : Ending} {l : List Val3} (h : PutsV o w e w') (hs : o = some l) : ∃ A c, e = .returned (.tuple #[.slice A l.length c, .bool true]) ∧ Has w' A (fl l) ∧ Later w w' := by
  obtain ⟨⟨h, _⟩ | ⟨l', A, c, h, h1, h2⟩, L⟩ := h
  · rw [hs] at h; cases h
  · rw [hs] at h; cases h; exact ⟨A, c, h1, h2, L⟩

theorem info_v : (Tryd.prog.info? 29).map (fun i => (i.zero, i.size, i.bytes)) = some (some (vagg 0 0 ⟨#[]⟩), 3, 32) := by kernel_rfl
theorem Blk.has {w : World} {g : Nat} {cs : List Value} {t : TypeId} (h : Blk w g cs.toArray t) : Has w (some ⟨g, 0, none⟩) cs :=
  .inr ⟨g, 0, rfl, h.lt, fun k v hv => by rw [Nat.zero_add]; exact h.cell k v (by simpa using hv)⟩
theorem bytes_ne {a b : ByteArray} (h : a ≠ b) : (a.toList == b.toList) = false := by
  rw [beq_eq_false_iff_ne, Lib.toList_data, Lib.toList_data]
  intro e
  apply h
  cases a; cases b
  congr 1
  exact Array.ext' e
def TellsP (p : Prop) (w : World) (e : Ending) (w' : World) : Prop := ∃ r : Bool, (r = true ↔ p) ∧ e = .returned (.bool r) ∧ Later w w'
theorem TellsP.yes {p : Prop} (hp : p) {w w' : World} {e : Ending} (h : TellsP p w e w') : e = .returned (.bool true) ∧ Later w w' := by
  obtain ⟨r, hr, rfl, l⟩ := h
  rw [hr.2 hp]; exact ⟨rfl, l⟩
theorem TellsP.no {p : Prop} (hp : ¬ p) {w w' : World} {e : Ending} (h : TellsP p w e w') : e = .returned (.bool false) ∧ Later w w' := by
  obtain ⟨r, hr, rfl, l⟩ := h
  cases r
  · exact ⟨rfl, l⟩
  · exact absurd (hr.1 rfl) hp
theorem TellsP.t {p : Prop} (hp : p) {w w' : World} (l : Later w w') : TellsP p w (.returned (.bool true)) w' := ⟨true, by simp [hp], rfl, l⟩
theorem TellsP.f {p : Prop} (hp : ¬ p) {w w' : World} (l : Later w w') : TellsP p w (.returned (.bool false)) w' := ⟨false, by simp [hp], rfl, l⟩

set_option maxRecDepth 100000 in
set_option maxHeartbeats 1000000 in
theorem sameValues_len (A B : Option Addr) (n ca cb : Nat) (a b : List Val3) (w : World) (hna : a.length = n) (hnb : b.length = n) (ha : Has w A (fl a)) (hb : Has w B (fl b)) (hl : n ≤ 100000) :
    Calls Tryd.prog 57 #[.slice A n ca, .slice B n cb] w (TellsP (a = b) w) := by
  have HNA := Lib.hid hna
  have HNB := Lib.hid hnb
  clear hna hnb
  go_enter Tryd.func57, Tryd.ntmps57
  go_wp2_with fail
  go_loopw [5] (fun i wr => ∃ j : Nat, j ≤ n ∧ i = .int .i64 j ∧ a.take j = b.take j ∧ Later w wr) (fun i _ => n - (intOf i).toNat)
  case atStart => exact ⟨0, Nat.zero_le _, rfl, by simp, Later.refl _⟩
  case round =>
    obtain ⟨j, hj, rfl, heq, lat⟩ := hrel
    by_cases hlt : j < n
    · have hj1 : j < a.length := by have := HNA.out; omega
      have hj2 : j < b.length := by have := HNB.out; omega
      obtain ⟨b1, o1, rfl, c0, c1, c2⟩ := (ha.later lat).val3 j hj1
      obtain ⟨b2, o2, rfl, d0, d1, d2⟩ := (hb.later lat).val3 j hj2
      have HEQ := Lib.hid (fun (h : a[j] = b[j]) => show a.take (j + 1) = b.take (j + 1) by
        rw [List.take_succ_eq_append_getElem hj1, List.take_succ_eq_append_getElem hj2, heq, h])
      have HNE := Lib.hid (fun (h : a[j] ≠ b[j]) => show a ≠ b from fun e => h (by subst e; rfl))
      generalize a[j] = x at c0 c1 c2 HEQ HNE
      generalize b[j] = y at d0 d1 d2 HEQ HNE
      obtain ⟨t, i, s⟩ := x
      obtain ⟨t', i', s'⟩ := y
      dsimp only at c0 c1 c2 d0 d1 d2
      have LAT := Lib.hid lat
      clear lat heq ha hb
      by_cases h1 : t = t'
      · subst h1
        by_cases h2 : i = i'
        · subst h2
          by_cases h3 : s = s'
          · subst h3
            go_wp2_with fail
            go_quiet (fail)
            go_wp2_with fail
            go_roundw
            case rel => exact ⟨j + 1, hlt, by go_num, HEQ.out trivial, (LAT.out.drewN _)⟩
            case measure => simp [intOf]; omega
          · have e3 := bytes_ne h3
            have HX := Lib.hid (HNE.out (by simp [h3]))
            go_wp2_with fail
            go_quiet (fail)
            go_wp2_with fail
            go_ret
            exact TellsP.f HX.out (LAT.out.drewN _)
        · have e2 : (i == i') = false := by simp [h2]
          have HX := Lib.hid (HNE.out (by simp [h2]))
          go_wp2_with fail
          go_quiet (fail)
          go_wp2_with fail
          go_ret
          exact TellsP.f HX.out (LAT.out.drewN _)
      · have e1 : (t == t') = false := by simp [h1]
        have HX := Lib.hid (HNE.out (by simp [h1]))
        go_wp2_with fail
        go_quiet (fail)
        go_wp2_with fail
        go_ret
        exact TellsP.f HX.out (LAT.out.drewN _)
    · have HEQ := Lib.hid (show a = b by rw [List.take_of_length_le (by have := HNA.out; omega), List.take_of_length_le (by have := HNB.out; omega)] at heq; exact heq)
      have LAT := Lib.hid lat
      clear lat heq ha hb
      go_wp2_with fail
      go_ret
      exact TellsP.t HEQ.out LAT.out

set_option maxRecDepth 100000 in
theorem sameValues_any (A B : Option Addr) (ca cb : Nat) (a b : List Val3) (w : World) (ha : Has w A (fl a)) (hb : Has w B (fl b)) (hl : a.length ≤ 100000) (hl2 : b.length ≤ 100000) :
    Calls Tryd.prog 57 #[.slice A a.length ca, .slice B b.length cb] w (TellsP (a = b) w) := by
  by_cases hlen : a.length = b.length
  · rw [hlen]
    exact sameValues_len A B b.length ca cb a b w hlen rfl ha hb hl2
  · have hd : ((a.length : Int) != b.length) = true := by simp; omega
    clear ha hb
    go_enter Tryd.func57, Tryd.ntmps57
    go_wp2_with fail
    go_ret
    exact TellsP.f (fun h => hlen (by rw [h])) (Later.refl _)
end Go.Proofs.YtklohbglkbhjhaaDoor

/- Package cell: Put. -/

namespace Go.Proofs.YtklohbglkbhjhaaDoor
open Go.RowKit
set_option linter.unusedVariables false


end Go.Proofs.YtklohbglkbhjhaaDoor

/- Walks of bytes.Equal; of package cell: Same. -/

namespace Go.Proofs.YtklohbglkbhjhaaDoor
open Go.RowKit
set_option linter.unusedVariables false

end Go.Proofs.YtklohbglkbhjhaaDoor
