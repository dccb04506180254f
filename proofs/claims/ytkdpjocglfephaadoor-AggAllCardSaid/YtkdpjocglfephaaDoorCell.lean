
import Derived.Test.YtkdpjocglfephaaDoorBase
import Derived.Lib.AppendStr
import Derived.Deep.RegionWith
import Derived.Deep.RegionLaw
import Derived.BigQuiet
import Derived.WalkKit
import Derived.Laws.OwnMore
import Derived.Laws.BytesArg
import Derived.Laws.Rows
import Derived.Deep.AppendLies
import Derived.Deep.Draws
import Derived.Test.YtkdpjocglfephaaDoorChecked
import Derived.Deep.OwnRows
import Derived.Lib.Hide
import Derived.Deep.Quiet
import Derived.Laws.AppendOwnNone
import Derived.Lib.Strings
import Derived.Outline
import Derived.WalkLawsBesides
import Derived.WalkSpells
import Derived.PlainAid
import Derived.Deep.QuietTactic
import Derived.RegionTactic
import Derived.BigRegion
import Derived.Handy
import Derived.Laws.BitsAllLaws
import Derived.Maps.AppendAt
import Derived.OpenShut
import Derived.WideShapes
import Derived.ChangeArms
import Derived.Deep.Slices
import Derived.Sort.Grow
import Derived.LaidEql
import Derived.Stop.Asserts
import Derived.RowKitTokens
import Derived.Laws.BitsLemmas
import Derived.Laws.Bits64
import Derived.WalkSmall
import Derived.Stop.IfaceNil
import Derived.Lib.Bytealg
import Derived.Deep.SlicePairs
import Derived.Test.YtkdpjocglfephaaDoorShelf
import Derived.Laws.Externs








/- Package cell: Type, Count, All; fault.At; the six sentinels. -/

/- Walks of package cell: Type, Count. -/

namespace Go.Proofs.YtkdpjocglfephaaDoor
open Go.RowKit
set_option linter.unusedVariables false

/-- The sentinel in global g. -/
def CSent (w : World) (g : Nat) : Prop := ∃ a : Addr, w.cell? ⟨g, 0, none⟩ = some (.iface 184 (.pointer (some a)))
theorem CSent.later {w w' : World} {g : Nat} (h : CSent w g) (l : Later w w') : CSent w' g := h.elim fun a h => ⟨a, l.cell h⟩
/-- An error of fault.At. -/
def Where (v : Value) : Prop := ∃ p : Addr, v = .iface 144 (.pointer (some p))

end Go.Proofs.YtkdpjocglfephaaDoor

/- Walks of package cell: All. -/

namespace Go.Proofs.YtkdpjocglfephaaDoor
open Go.RowKit
set_option linter.unusedVariables false


end Go.Proofs.YtkdpjocglfephaaDoor

namespace Go.Proofs.YtkdpjocglfephaaDoor
open Go.RowKit
set_option linter.unusedVariables false

abbrev vagg (t i : Int) (s : ByteArray) : Value := .agg #[.int .i64 t, .int .i64 i, .string s]
theorem own_mono {w : World} {base base' : Nat} {e : TypeId} {v : Value} {n : Nat} {xs : List Value} (h : w.ownsRow base e 1 v n xs) (hb : base' ≤ base) : w.ownsRow base' e 1 v n xs := by
  obtain ⟨h1, h2⟩ := h
  refine ⟨h1, ?_⟩
  rcases h2 with h2 | ⟨g, cap, cur, ha, hb2, hrest⟩
  · exact .inl h2
  · exact .inr ⟨g, cap, cur, ha, Nat.le_trans hb hb2, hrest⟩
/-- A call that gives bytes of its own. -/
def Gives (l : List Nat) (w : World) (e : Ending) (w' : World) : Prop :=
  ∃ A c, e = .returned (.slice A l.length c) ∧ Has w' A (ints .u8 l) ∧ l.length ≤ c ∧ c ≤ 9223372036854775807 ∧ (A = none → c = 0) ∧ Later w w'
theorem own_capmax {w : World} {base : Nat} {e : TypeId} {A : Option Addr} {c : Nat} {n : Nat} {xs : List Value} (h : w.ownsRow base e 1 (.slice A n c) n xs) : c ≤ 9223372036854775807 := by
  rcases h.2 with ⟨h1, rfl⟩ | ⟨g, cap, cur, h1, _, _, _, h2, _⟩
  · injection h1 with _ _ h1; omega
  · injection h1 with _ _ h1
    unfold maxLen at h2
    omega
theorem Makes.gives {l : List Nat} {w : World} {e : Ending} {w' : World} (h : Makes l w e w') : Gives l w e w' := by
  obtain ⟨A, c, rfl, ho, hb, hn⟩ := h
  exact ⟨A, c, rfl, Has.own ho, own_cap ho, own_capmax ho, hn, hb⟩

theorem conv_str (A : Option Addr) (n c : Nat) (l : List Nat) (hn : n = l.length) (w : World) (B : Nat) (hr : Rd w B A (ints .u8 l)) :
    (convert 22 9 (.slice A n c)).run Tryd.prog w = .ok (.string (bstr l)) w :=
  run_bstr 22 5 9 Tryd.underlying22 Tryd.underlying5 Tryd.underlying9 A n c l hn w B hr
theorem three_blk {w : World} {g : Nat} {cs : Array Value} {t : TypeId} (h : Blk w g cs t) (hs : cs.size = 3) (x y z : Value) : Blk (((w.setCell ⟨g, 0, none⟩ x).setCell ⟨g, 1, none⟩ y).setCell ⟨g, 2, none⟩ z) g #[x, y, z] t := by
  have := ((h.set_ 0 x).set_ 1 y).set_ 2 z
  have e : ((cs.setIfInBounds 0 x).setIfInBounds 1 y).setIfInBounds 2 z = #[x, y, z] := by
    match cs, hs with
    | ⟨[a, b, c]⟩, _ => rfl
  rwa [e] at this
theorem three_later {w w' : World} {g : Nat} (h : Later w w') (hg : w.heap.size ≤ g) (x y z : Value) : Later w (((w'.setCell ⟨g, 0, none⟩ x).setCell ⟨g, 1, none⟩ y).setCell ⟨g, 2, none⟩ z) := ((h.set_ hg _).set_ hg _).set_ hg _
end Go.Proofs.YtkdpjocglfephaaDoor

/- Lists that calls give; fault.List; the reference's SameValues. -/

namespace Go.Proofs.YtkdpjocglfephaaDoor
open Go.RowKit
set_option linter.unusedVariables false

instance (t : Int) (l : List Val3) : Decidable (OkL t l) := by unfold OkL; infer_instance
theorem own_later {w w' : World} {base : Nat} {e : TypeId} {k : Nat} {v : Value} {n : Nat} {xs : List Value} (h : w.ownsRow base e k v n xs) (l : Later w w') : w'.ownsRow base e k v n xs := by
  obtain ⟨h1, h2⟩ := h
  refine ⟨h1, ?_⟩
  rcases h2 with h2 | ⟨g, cap, cur, ha, hb, hg, hrest⟩
  · exact .inl h2
  · refine .inr ⟨g, cap, cur, ha, hb, (Below.block l g ?_).trans hg, hrest⟩
    rcases Nat.lt_or_ge g w.heap.size with h' | h'
    · exact h'
    · rw [Array.getElem?_eq_none h'] at hg; cases hg

/-- What a face tells: a list, or a no. -/
def PutsB (o : Option (List Nat)) (w : World) (e : Ending) (w' : World) : Prop :=
  ((o = none ∧ e = .returned (.tuple #[.slice none 0 0, .bool false])) ∨
    ∃ l A c, o = some l ∧ e = .returned (.tuple #[.slice A l.length c, .bool true]) ∧ Has w' A (ints .u8 l) ∧ l.length ≤ c ∧ c ≤ 9223372036854775807 ∧ (A = none → c = 0)) ∧ Later w w'
def PutsV (o : Option (List Val3)) (w : World) (e : Ending) (w' : World) : Prop :=
  ((o = none ∧ e = .returned (.tuple #[.slice none 0 0, .bool false])) ∨
    ∃ l A c, o = some l ∧ e = .returned (.tuple #[.slice A l.length c, .bool true]) ∧ Has w' A (fl l)) ∧ Later w w'
theorem PutsB.no {o : Option (List Nat)} {w w' : World} {e : Ending} (h : PutsB o w e w') (hn : o = none) : e = .returned (.tuple #[.slice none 0 0, .bool false]) ∧ Later w w' := by
  obtain ⟨⟨_, h⟩ | ⟨l, A, c, h, _⟩, L⟩ := h
  · exact ⟨h, L⟩
  · rw [hn] at h; cases h
theorem PutsB.yes {o : Option (List Nat)} {w w' : World} {e : Ending} {l : List Nat} (h : PutsB o w e w') (hs : o = some l) : ∃ A c, e = .returned (.tuple #[.slice A l.length c, .bool true]) ∧ Has w' A (ints .u8 l) ∧ l.length ≤ c ∧ c ≤ 9223372036854775807 ∧ (A = none → c = 0) ∧ Later w w' := by
  obtain ⟨⟨h, _⟩ | ⟨l', A, c, h, h1, h2, h3, h4, h5⟩, L⟩ := h
  · rw [hs] at h; cases h
  · rw [hs] at h; cases h; exact ⟨A, c, h1, h2, h3, h4, h5, L⟩
theorem PutsV.no {o : Option (List Val3)} {w w' : World} {e : Ending} (h : PutsV o w e w') (hn : o = none) : e = .returned (.tuple #[.slice none 0 0, .bool false]) ∧ Later w w' := by
  obtain ⟨⟨_, h⟩ | ⟨l, A, c, h, _⟩, L⟩ := h
  · exact ⟨h, L⟩
  · rw [hn] at h; cases h
theorem PutsV.yes {o : Option (List Val3)} {w w' : World} {e : Ending} {l : List Val3} (h : PutsV o w e w') (hs : o = some l) : ∃ A c, e = .returned (.tuple #[.slice A l.length c, .bool true]) ∧ Has w' A (fl l) ∧ Later w w' := by
  obtain ⟨⟨h, _⟩ | ⟨l', A, c, h, h1, h2⟩, L⟩ := h
  · rw [hs] at h; cases h
  · rw [hs] at h; cases h; exact ⟨A, c, h1, h2, L⟩

theorem info_v : (Tryd.prog.info? 26).map (fun i => (i.zero, i.size, i.bytes)) = some (some (vagg 0 0 ⟨#[]⟩), 3, 32) := by kernel_rfl
theorem Blk.has {w : World} {g : Nat} {cs : List Value} {t : TypeId} (h : Blk w g cs.toArray t) : Has w (some ⟨g, 0, none⟩) cs :=
  .inr ⟨g, 0, rfl, h.lt, fun k v hv => by rw [Nat.zero_add]; exact h.cell k v (by simpa using hv)⟩
theorem bytes_ne {a b : ByteArray} (h : a ≠ b) : (a.toList == b.toList) = false := by
  rw [beq_eq_false_iff_ne, Lib.toList_data, Lib.toList_data]
  intro e
  apply h
  cases a; cases b
  congr 1
  exact Array.ext' e
def TellsP (p : Prop) (w : World) (e : Ending) (w' : World) : Prop := ∃ r : Bool, (r = true ↔ p) ∧ e = .returned (.bool r) ∧ Later w w'
theorem TellsP.yes {p : Prop} (hp : p) {w w' : World} {e : Ending} (h : TellsP p w e w') : e = .returned (.bool true) ∧ Later w w' := by
  obtain ⟨r, hr, rfl, l⟩ := h
  rw [hr.2 hp]; exact ⟨rfl, l⟩
theorem TellsP.no {p : Prop} (hp : ¬ p) {w w' : World} {e : Ending} (h : TellsP p w e w') : e = .returned (.bool false) ∧ Later w w' := by
  obtain ⟨r, hr, rfl, l⟩ := h
  cases r
  · exact ⟨rfl, l⟩
  · exact absurd (hr.1 rfl) hp
theorem TellsP.t {p : Prop} (hp : p) {w w' : World} (l : Later w w') : TellsP p w (.returned (.bool true)) w' := ⟨true, by simp [hp], rfl, l⟩
theorem TellsP.f {p : Prop} (hp : ¬ p) {w w' : World} (l : Later w w') : TellsP p w (.returned (.bool false)) w' := ⟨false, by simp [hp], rfl, l⟩

set_option maxRecDepth 100000 in
set_option maxHeartbeats 1000000 in
theorem sameValues_len (A B : Option Addr) (n ca cb : Nat) (a b : List Val3) (w : World) (hna : a.length = n) (hnb : b.length = n) (ha : Has w A (fl a)) (hb : Has w B (fl b)) (hl : n ≤ 100000) :
    Calls Tryd.prog 64 #[.slice A n ca, .slice B n cb] w (TellsP (a = b) w) := by
  have HNA := Lib.hid hna
  have HNB := Lib.hid hnb
  clear hna hnb
  go_enter Tryd.func64, Tryd.ntmps64
  go_wp2_with fail
  go_loopw [5] (fun i wr => ∃ j : Nat, j ≤ n ∧ i = .int .i64 j ∧ a.take j = b.take j ∧ Later w wr) (fun i _ => n - (intOf i).toNat)
  case atStart => exact ⟨0, Nat.zero_le _, rfl, by simp, Later.refl _⟩
  case round =>
    obtain ⟨j, hj, rfl, heq, lat⟩ := hrel
    by_cases hlt : j < n
    · have hj1 : j < a.length := by have := HNA.out; omega
      have hj2 : j < b.length := by have := HNB.out; omega
      obtain ⟨b1, o1, rfl, c0, c1, c2⟩ := (ha.later lat).val3 j hj1
      obtain ⟨b2, o2, rfl, d0, d1, d2⟩ := (hb.later lat).val3 j hj2
      have HEQ := Lib.hid (fun (h : a[j] = b[j]) => show a.take (j + 1) = b.take (j + 1) by
        rw [List.take_succ_eq_append_getElem hj1, List.take_succ_eq_append_getElem hj2, heq, h])
      have HNE := Lib.hid (fun (h : a[j] ≠ b[j]) => show a ≠ b from fun e => h (by subst e; rfl))
      generalize a[j] = x at c0 c1 c2 HEQ HNE
      generalize b[j] = y at d0 d1 d2 HEQ HNE
      obtain ⟨t, i, s⟩ := x
      obtain ⟨t', i', s'⟩ := y
      dsimp only at c0 c1 c2 d0 d1 d2
      have LAT := Lib.hid lat
      clear lat heq ha hb
      by_cases h1 : t = t'
      · subst h1
        by_cases h2 : i = i'
        · subst h2
          by_cases h3 : s = s'
          · subst h3
            go_wp2_with fail
            go_quiet (fail)
            go_wp2_with fail
            go_roundw
            case rel => exact ⟨j + 1, hlt, by go_num, HEQ.out trivial, (LAT.out.drewN _)⟩
            case measure => simp [intOf]; omega
          · have e3 := bytes_ne h3
            have HX := Lib.hid (HNE.out (by simp [h3]))
            go_wp2_with fail
            go_quiet (fail)
            go_wp2_with fail
            go_ret
            exact TellsP.f HX.out (LAT.out.drewN _)
        · have e2 : (i == i') = false := by simp [h2]
          have HX := Lib.hid (HNE.out (by simp [h2]))
          go_wp2_with fail
          go_quiet (fail)
          go_wp2_with fail
          go_ret
          exact TellsP.f HX.out (LAT.out.drewN _)
      · have e1 : (t == t') = false := by simp [h1]
        have HX := Lib.hid (HNE.out (by simp [h1]))
        go_wp2_with fail
        go_quiet (fail)
        go_wp2_with fail
        go_ret
        exact TellsP.f HX.out (LAT.out.drewN _)
    · have HEQ := Lib.hid (show a = b by rw [List.take_of_length_le (by have := HNA.out; omega), List.take_of_length_le (by have := HNB.out; omega)] at heq; exact heq)
      have LAT := Lib.hid lat
      clear lat heq ha hb
      go_wp2_with fail
      go_ret
      exact TellsP.t HEQ.out LAT.out

set_option maxRecDepth 100000 in
theorem sameValues_any (A B : Option Addr) (ca cb : Nat) (a b : List Val3) (w : World) (ha : Has w A (fl a)) (hb : Has w B (fl b)) (hl : a.length ≤ 100000) (hl2 : b.length ≤ 100000) :
    Calls Tryd.prog 64 #[.slice A a.length ca, .slice B b.length cb] w (TellsP (a = b) w) := by
  by_cases hlen : a.length = b.length
  · rw [hlen]
    exact sameValues_len A B b.length ca cb a b w hlen rfl ha hb hl2
  · have hd : ((a.length : Int) != b.length) = true := by simp; omega
    clear ha hb
    go_enter Tryd.func64, Tryd.ntmps64
    go_wp2_with fail
    go_ret
    exact TellsP.f (fun h => hlen (by rw [h])) (Later.refl _)
end Go.Proofs.YtkdpjocglfephaaDoor

/- Package cell: Put. -/

namespace Go.Proofs.YtkdpjocglfephaaDoor
open Go.RowKit
set_option linter.unusedVariables false


end Go.Proofs.YtkdpjocglfephaaDoor

/- Walks of bytes.Equal; of package cell: Same. -/

namespace Go.Proofs.YtkdpjocglfephaaDoor
open Go.RowKit
set_option linter.unusedVariables false

end Go.Proofs.YtkdpjocglfephaaDoor

/- value.Compare, in a seat without value.width (where XValB .. XValCmp do not serve; never beside them). -/




namespace Go.Proofs.YtkdpjocglfephaaDoor
open Go.RowKit
set_option linter.unusedVariables false

theorem rank_any (t i : Int) (s : ByteArray) (w : World) : Calls Tryd.prog 83 #[.agg #[.int .i64 t, .int .i64 i, .string s]] w fun e w' => e = .returned (.int .i64 (rankV t)) ∧ Grows w w' := by
  have HE1 := Lib.hid (fun o : Obj => Grows.new w o)
  go_enter Tryd.func83, Tryd.ntmps83
  go_wp2_with fail
  all_goals go_ret
  all_goals simp only [beq_iff_eq, beq_eq_false_iff_ne, ne_eq] at *
  all_goals exact ⟨ret_int (by simp [rankV, *]), HE1.out _⟩
theorem nan_int (a : Int) (w : World) : Calls Tryd.prog 89 #[.int .i64 a] w fun e w' => e = .returned (.bool false) ∧ w = w' := by
  have h : (a != a) = false := by simp
  go_enter Tryd.func89, Tryd.ntmps89
  go_wp2_with fail
  go_ret
  exact ⟨rfl, rfl⟩
theorem nan_int64 (a : Int) (w : World) : Calls Tryd.prog 91 #[.int .i64 a] w fun e w' => e = .returned (.bool false) ∧ w = w' := by
  have h : (a != a) = false := by simp
  go_enter Tryd.func91, Tryd.ntmps91
  go_wp2_with fail
  go_ret
  exact ⟨rfl, rfl⟩
theorem cmp_int (a b : Int) (w : World) : Calls Tryd.prog 84 #[.int .i64 a, .int .i64 b] w fun e w' => e = .returned (.int .i64 (cmpI a b)) ∧ w = w' := by
  go_enter Tryd.func84, Tryd.ntmps84
  go_wp2_with (go_at_call 89; refine (nan_int _ w).mono ?_; rintro e w' ⟨rfl, rfl⟩)
  all_goals go_ret
  all_goals exact ⟨ret_int (by unfold cmpI; split <;> (try split) <;> omega), rfl⟩
theorem cmp_int64 (a b : Int) (w : World) : Calls Tryd.prog 86 #[.int .i64 a, .int .i64 b] w fun e w' => e = .returned (.int .i64 (cmpI a b)) ∧ w = w' := by
  go_enter Tryd.func86, Tryd.ntmps86
  go_wp2_with (go_at_call 91; refine (nan_int64 _ w).mono ?_; rintro e w' ⟨rfl, rfl⟩)
  all_goals go_ret
  all_goals exact ⟨ret_int (by unfold cmpI; split <;> (try split) <;> omega), rfl⟩
theorem strings_cmp (a b : ByteArray) (w : World) : Calls Tryd.prog 85 #[.string a, .string b] w fun e w' => e = .returned (.int .i64 (cmpS a.data.toList b.data.toList)) ∧ w = w' :=
  (Tryd.strings_Compare a b w).mono fun e w' h => ⟨h.1, h.2.symm⟩
theorem rank_l (t i : Int) (s : ByteArray) (w : World) : Calls Tryd.prog 83 #[vagg t i s] w fun e w' => e = .returned (.int .i64 (rankV t)) ∧ Grows w w' := rank_any t i s w
/-- What a call tells that gives a number and leaves what was there; and one that has grown alone. -/
def TellsInt (v : Int) (w : World) (e : Ending) (w' : World) : Prop := e = .returned (.int .i64 v) ∧ Later w w'
def GrowsInt (v : Int) (w : World) (e : Ending) (w' : World) : Prop := e = .returned (.int .i64 v) ∧ Grows w w'

set_option maxRecDepth 100000 in
set_option maxHeartbeats 1000000 in
theorem valCmp_g (t i : Int) (s : ByteArray) (t' i' : Int) (s' : ByteArray) (w : World) :
    Calls Tryd.prog 74 #[vagg t i s, vagg t' i' s'] w (GrowsInt (cmpV t i s t' i' s') w) := by
  obtain ⟨w1, hw1⟩ : ∃ w1 : World, (w.alloc (.cells #[.int .i64 t, .int .i64 i, .string s] 26)).alloc (.cells #[.int .i64 t', .int .i64 i', .string s'] 26) = w1 := ⟨_, rfl⟩
  have L1 : Grows w w1 := hw1 ▸ ((Grows.refl w).alloc _).alloc _
  have A1 : Blk w1 w.heap.size #[.int .i64 t, .int .i64 i, .string s] 26 := hw1 ▸ (Blk.new w _ _ _ rfl).later (Later.new _ _)
  have B1 : Blk w1 (w.heap.size + 1) #[.int .i64 t', .int .i64 i', .string s'] 26 := hw1 ▸ Blk.new _ _ _ _ (by simp)
  have HW := Lib.hid hw1
  have HR1 := Lib.hid (rank_l t i s w1)
  clear hw1
  go_enter Tryd.func74, Tryd.ntmps74
  go_wp2_with fail
  rw [HW.out]
  refine HR1.out.mono ?_
  rintro e w2 ⟨rfl, l2⟩
  have A2 := A1.later l2.later
  have B2 := B1.later l2.later
  have L2 := L1.trans l2
  have hb0 := B2.cell 0 _ rfl
  have hb1 := B2.cell 1 _ rfl
  have hb2 := B2.cell 2 _ rfl
  clear HW HR1 A1 B1 L1 l2
  go_wp2_with fail
  refine (rank_l t' i' s' w2).mono ?_
  rintro e w3 ⟨rfl, l3⟩
  have A3 := A2.later l3.later
  have B3 := B2.later l3.later
  have L3 := L2.trans l3
  clear hb0 hb1 hb2 A2 B2 L2 l3
  go_wp2_with fail
  refine (cmp_int _ _ w3).mono ?_
  rintro e w' ⟨rfl, rfl⟩
  by_cases hrr : rankV t = rankV t'
  · have e0 : cmpI (rankV t) (rankV t') = 0 := cmpI_eq hrr
    rw [e0]
    have hin := rankV_in t
    have HV := Lib.hid (cmpV_near (i := i) (s := s) (i' := i') (s' := s') hrr)
    have hr4 : rankV 4 = 2 := by decide
    clear e0 hrr
    by_cases h0 : rankV t = 0
    · rw [h0]
      have HZ := Lib.hid (show cmpV t i s t' i' s' = 0 from by rw [HV.out, if_pos h0])
      clear hin h0 hr4
      go_wp2_with fail
      go_ret
      exact ⟨ret_int HZ.out.symm, L3⟩
    · by_cases h2 : rankV t = 2
      · rw [h2]
        have HZ := Lib.hid (show cmpV t i s t' i' s' = cmpS s.data.toList s'.data.toList from by rw [HV.out, if_neg h0, if_pos h2])
        have HR := Lib.hid (rank_l 4 0 ⟨#[]⟩ w3)
        have H4 := Lib.hid hr4
        clear hin h0 h2 hr4
        go_wp2_with fail
        refine HR.out.mono ?_
        rintro e w4 ⟨rfl, l4⟩
        rw [H4.out]
        have A4 := A3.later l4.later
        have B4 := B3.later l4.later
        have L4 := L3.trans l4
        have ha := A4.cell 2 _ rfl
        have hb := B4.cell 2 _ rfl
        clear A3 B3 L3 l4 HR
        go_wp2_with fail
        refine (strings_cmp _ _ w4).mono ?_
        rintro e w' ⟨rfl, rfl⟩
        clear ha hb
        go_wp2_with fail
        go_ret
        exact ⟨ret_int HZ.out.symm, L4⟩
      · have h1 : rankV t = 1 := by rcases hin with h | h | h <;> omega
        rw [h1]
        have HZ := Lib.hid (show cmpV t i s t' i' s' = cmpI i i' from by rw [HV.out, if_neg h0, if_neg h2])
        have HR := Lib.hid (rank_l 4 0 ⟨#[]⟩ w3)
        have H4 := Lib.hid hr4
        clear hin h0 h1 h2 hr4
        go_wp2_with fail
        refine HR.out.mono ?_
        rintro e w4 ⟨rfl, l4⟩
        rw [H4.out]
        have A4 := A3.later l4.later
        have B4 := B3.later l4.later
        have L4 := L3.trans l4
        have ha := A4.cell 1 _ rfl
        have hb := B4.cell 1 _ rfl
        clear A3 B3 L3 l4 HR
        go_wp2_with fail
        refine (cmp_int64 _ _ w4).mono ?_
        rintro e w' ⟨rfl, rfl⟩
        clear ha hb
        go_wp2_with fail
        go_ret
        exact ⟨ret_int HZ.out.symm, L4⟩
  · have HV := Lib.hid (cmpV_far (i := i) (s := s) (i' := i') (s' := s') hrr)
    obtain ⟨z, hz⟩ : ∃ z, z = cmpI (rankV t) (rankV t') := ⟨_, rfl⟩
    have hz0 : (z != 0) = true := by
      rw [hz]; rcases cmpI_in (rankV t) (rankV t') with h | h | h
      · rw [h.2]; rfl
      · exact absurd h.1 hrr
      · rw [h.2]; rfl
    have hz1 : (z == 0) = false := by simpa using hz0
    rw [← hz] at HV ⊢
    clear hz hrr
    go_wp2_with fail
    go_ret
    exact ⟨ret_int HV.out.symm, L3⟩
theorem valCmp_any (t i : Int) (s : ByteArray) (t' i' : Int) (s' : ByteArray) (w : World) :
    Calls Tryd.prog 74 #[vagg t i s, vagg t' i' s'] w (TellsInt (cmpV t i s t' i' s') w) := (valCmp_g t i s t' i' s' w).mono fun _ _ h => ⟨h.1, h.2.later⟩
end Go.Proofs.YtkdpjocglfephaaDoor

/- Rows and columns of values in memory; schemas' columns; what appends leave alone. -/

namespace Go.Proofs.YtkdpjocglfephaaDoor
open Go.RowKit
set_option linter.unusedVariables false

/-- The slice holds xs, in a block that is there and is not the block o. -/
def HasX (o : Option Nat) (w : World) (A : Option Addr) (xs : List Value) : Prop :=
  xs = [] ∨ ∃ b off, A = some ⟨b, off, none⟩ ∧ b < w.heap.size ∧ some b ≠ o ∧ ∀ k v, xs[k]? = some v → w.cell? ⟨b, off + k, none⟩ = some v
section
variable {o o' : Option Nat} {w w' : World} {A : Option Addr} {xs : List Value}
theorem HasX.has (h : HasX o w A xs) : Has w A xs := by
  rcases h with h | ⟨b, off, hA, hb, _, hc⟩
  · exact .inl h
  · exact .inr ⟨b, off, hA, hb, hc⟩
theorem HasX.of (h : Has w A xs) : HasX none w A xs := by
  rcases h with h | ⟨b, off, hA, hb, hc⟩
  · exact .inl h
  · exact .inr ⟨b, off, hA, hb, by simp, hc⟩
theorem HasX.later (h : HasX o w A xs) (l : Later w w') : HasX o w' A xs := by
  rcases h with h | ⟨b, off, hA, hb, hn, hc⟩
  · exact .inl h
  · exact .inr ⟨b, off, hA, Nat.lt_of_lt_of_le hb l.size, hn, fun k v hv => l.cell (hc k v hv)⟩
theorem cell_block {b k : Nat} (h : w'.heap[b]? = w.heap[b]?) : w'.cell? ⟨b, k, none⟩ = w.cell? ⟨b, k, none⟩ := World.cell?_of_block (w := w) h
theorem HasX.grown (h : HasX o w A xs) (g : w.grownBy w' o) (ho : o' = o ∨ o' = some w.heap.size) : HasX o' w' A xs := by
  rcases h with h | ⟨b, off, hA, hb, hn, hc⟩
  · exact .inl h
  · refine .inr ⟨b, off, hA, Nat.lt_of_lt_of_le hb g.size, ?_, fun k v hv => ?_⟩
    · rcases ho with rfl | rfl
      · exact hn
      · intro e; injection e with e; omega
    · rw [cell_block (g.block b hb hn)]; exact hc k v hv
/-- What a row of a call's own holds lies in no block that was there ahead of it. -/
theorem HasX.own {base n c size : Nat} {e : TypeId} (h : w.ownsRow base e size (.slice A n c) n xs) (ho : ∀ g, o = some g → g < base) : HasX o w A xs := by
  have h1 : Has w A xs := Has.ownG h
  rcases h1 with h1 | ⟨b, off, hA, hb, hc⟩
  · exact .inl h1
  · refine .inr ⟨b, off, hA, hb, ?_, hc⟩
    rintro rfl
    have h2 := ho b rfl
    have := (h.lt b (by subst hA; rfl)).1
    omega
end

/-- A row (or a column) of values: where it lies, its room, what it is. -/
structure SlV where
  a : Option Addr
  c : Nat
  l : List Val3
instance : Inhabited SlV := ⟨⟨none, 0, []⟩⟩
def SlV.v (s : SlV) : Value := .slice s.a s.l.length s.c
theorem SlV.v_eq (s : SlV) : s.v = .slice s.a s.l.length s.c := rfl
def SlV.okX (o : Option Nat) (w : World) (s : SlV) : Prop := HasX o w s.a (fl s.l) ∧ s.l.length ≤ s.c ∧ s.c ≤ 9223372036854775807 ∧ (s.a = none → s.c = 0)
theorem SlV.okX.later {o : Option Nat} {w w' : World} {s : SlV} (h : s.okX o w) (l : Later w w') : s.okX o w' := ⟨h.1.later l, h.2⟩
theorem SlV.okX.grown {o o' : Option Nat} {w w' : World} {s : SlV} (h : s.okX o w) (g : w.grownBy w' o) (ho : o' = o ∨ o' = some w.heap.size) : s.okX o' w' := ⟨h.1.grown g ho, h.2⟩
theorem SlV.okX.own {o : Option Nat} {w : World} {base n c : Nat} {e : TypeId} {A : Option Addr} {l : List Val3} (h : w.ownsRow base e 3 (.slice A n c) n (fl l)) (hn : n = l.length) (hA : A = none → c = 0) (ho : ∀ g, o = some g → g < base) : (⟨A, c, l⟩ : SlV).okX o w := by
  subst hn
  exact ⟨HasX.own h ho, ownG_cap h, ownG_capmax h, hA⟩
/-- A slice of rows (or of columns). -/
def RowsAt (w : World) (A : Option Addr) (ss : List SlV) : Prop := Has w A (ss.map SlV.v) ∧ ∀ s ∈ ss, s.okX none w
theorem RowsAt.later {w w' : World} {A : Option Addr} {ss : List SlV} (h : RowsAt w A ss) (l : Later w w') : RowsAt w' A ss := ⟨h.1.later l, fun s hs => (h.2 s hs).later l⟩
theorem RowsAt.get {w : World} {A : Option Addr} {ss : List SlV} (h : RowsAt w A ss) (k : Nat) (hk : k < ss.length) :
    ∃ b off, A = some ⟨b, off, none⟩ ∧ w.cell? ⟨b, off + k, none⟩ = some (.slice ss[k].a ss[k].l.length ss[k].c) ∧ Has w ss[k].a (fl ss[k].l) ∧ ss[k].l.length ≤ ss[k].c ∧ ss[k].c ≤ 9223372036854775807 ∧ (ss[k].a = none → ss[k].c = 0) := by
  have ho := h.2 _ (List.getElem_mem hk)
  rcases h.1 with h1 | ⟨b, off, hA, _, hc⟩
  · have h2 : ss = [] := by simpa using h1
    subst h2
    simp at hk
  · refine ⟨b, off, hA, hc k _ ?_, ho.1.has, ho.2⟩
    rw [List.getElem?_map, List.getElem?_eq_getElem hk]; rfl
/-- Rows on their way: the slice of them the call's own, its block none of theirs. -/
def RowsOn (base : Nat) (w : World) (A : Option Addr) (n c : Nat) (ss : List SlV) : Prop :=
  n = ss.length ∧ w.ownsRow base 56 1 (.slice A n c) n (ss.map SlV.v) ∧ (∀ s ∈ ss, s.okX (Value.slice A n c).ownBlock w) ∧ (A = none → c = 0)
theorem RowsOn.later {base : Nat} {w w' : World} {A : Option Addr} {n c : Nat} {ss : List SlV} (h : RowsOn base w A n c ss) (l : Later w w') : RowsOn base w' A n c ss := ⟨h.1, own_later h.2.1 l, fun s hs => (h.2.2.1 s hs).later l, h.2.2.2⟩
theorem HasX.weak {o : Option Nat} {w : World} {A : Option Addr} {xs : List Value} (h : HasX o w A xs) : HasX none w A xs := HasX.of h.has
theorem RowsOn.at_ {base : Nat} {w : World} {A : Option Addr} {n c : Nat} {ss : List SlV} (h : RowsOn base w A n c ss) : RowsAt w A ss ∧ n ≤ c ∧ c ≤ 9223372036854775807 :=
  ⟨⟨Has.own h.2.1, fun s hs => ⟨(h.2.2.1 s hs).1.weak, (h.2.2.1 s hs).2⟩⟩, ownG_cap h.2.1, ownG_capmax h.2.1⟩
theorem RowsOn.nil_ (base : Nat) (w : World) : RowsOn base w none 0 0 [] := ⟨rfl, ownG_nil _ _ _ _, (fun s hs => by cases hs), fun _ => rfl⟩

theorem info_row : (Tryd.prog.info? 56).map (fun i => (i.zero, i.size, i.bytes)) = some (some (.slice none 0 0), 1, 24) := by kernel_rfl

/-- append of a literal's elements onto a row of the call's own; what it leaves alone is told whole. -/
theorem wpList_append_x {P : Program} (w : World) {ops : Array Oper} {rest : List Oper} {o : Oper} {a : Act} {Q : Exit → Act → World → Prop} (hgd : o.guard = none) (s x : Operand) (t : TypeId)
    (ho : o.op = .call { callee := .builtin .append, args := #[s, x], argTypes := #[t, t] })
    (base : Nat) (e : TypeId) (z : Value) (size bytes : Nat) (ht : P.underlying t = some (.slice e)) (hinfo : (P.info? e).map (fun i => (i.zero, i.size, i.bytes)) = some (some z, size, bytes)) (hzs : z.cells.size = size) (hsz0 : 0 < size)
    (v : Value) (n : Nat) (xs : List Value) (hs : a.eval s = v) (hown : w.ownsRow base e size v n xs)
    (b off m c : Nat) (news : List Value) (hx : a.eval x = .slice (some ⟨b, off, none⟩) m c) (hr : Has w (some ⟨b, off, none⟩) news) (hm : news.length = m * size) (h1 : ∀ u ∈ news, u.oneCell' = true)
    (h63 : n + m ≤ maxLen) (hbytes : (n + m) * bytes ≤ 140737488355328) (hbase : base ≤ w.heap.size)
    (h : ∀ A' c' w', w'.ownsRow base e size (.slice A' (n + m) c') (n + m) (xs ++ news) → w.grownBy w' v.ownBlock → Below base w w' → ((Value.slice A' (n + m) c').ownBlock = v.ownBlock ∨ (Value.slice A' (n + m) c').ownBlock = some w.heap.size) → (A' = none → c' = 0) → wpList P ops Q rest (a.put o.dst (.slice A' (n + m) c')) w') : wpList P ops Q (o :: rest) a w := by
  obtain ⟨i, hi, hz, hsz, hby⟩ := info_parts hinfo
  have hcells : ∀ j u, news[j]? = some u → w.cell? ((⟨b, off, none⟩ : Addr).add j) = some u := by
    intro j u hu
    rcases hr with h | ⟨b', off', h, _, hc⟩
    · subst h; simp at hu
    · injection h with h
      injection h with h1 h2
      subst h1 h2
      rw [add_plain]
      exact hc j u hu
  refine wpList_append_own_at w hgd s x t ho base e i z size bytes ht hi hz hsz hby hzs hsz0 v n xs hs hown ⟨b, off, none⟩ m c news hx hm hcells h1 h63 hbytes hbase fun v' w' h2 h3 _ hat => ?_
  obtain ⟨A', c', hv, hc'⟩ := ownG_shape h2
  subst hv
  exact h A' c' w' h2 h3 ((Below.refl _ _).grown h3 hbase fun k hk => (hown.lt k hk).1) hat hc'

/-- A row more. -/
theorem RowsOn.more {base : Nat} {w w' : World} {A A' : Option Addr} {n c c' : Nat} {ss : List SlV} {s : SlV} (h : RowsOn base w A n c ss)
    (hs : s.okX (Value.slice A n c).ownBlock w) (ho : w'.ownsRow base 56 1 (.slice A' (n + 1) c') (n + 1) (ss.map SlV.v ++ [s.v])) (g : w.grownBy w' (Value.slice A n c).ownBlock) (hat : (Value.slice A' (n + 1) c').ownBlock = (Value.slice A n c).ownBlock ∨ (Value.slice A' (n + 1) c').ownBlock = some w.heap.size) (hn : A' = none → c' = 0) : RowsOn base w' A' (n + 1) c' (ss ++ [s]) := by
  refine ⟨by rw [List.length_append, ← h.1]; rfl, ?_, fun x hx => ?_, hn⟩
  · rw [List.map_append]; exact ho
  · rcases List.mem_append.1 hx with hx | hx
    · exact (h.2.2.1 x hx).grown g hat
    · rw [List.mem_singleton] at hx; subst hx; exact hs.grown g hat

/-- A column of a schema: its ID, name, type. -/
abbrev Col3 := Int × ByteArray × Int
abbrev cagg (x : Int) (s : ByteArray) (t : Int) : Value := .agg #[.int .i64 x, .string s, .int .i64 t]
def fc (l : List Col3) : List Value := l.flatMap fun x => [.int .i64 x.1, .string x.2.1, .int .i64 x.2.2]
theorem fc_append (a b : List Col3) : fc (a ++ b) = fc a ++ fc b := List.flatMap_append
theorem fc_length : ∀ l : List Col3, (fc l).length = l.length * 3
  | [] => rfl
  | x :: r => by
    have := fc_length r
    show ([_, _, _] ++ fc r).length = _
    rw [List.length_append, this, List.length_cons]
    simp; omega
theorem fc_get : ∀ (l : List Col3) (k : Nat) (h : k < l.length), (fc l)[k * 3]? = some (.int .i64 l[k].1) ∧ (fc l)[k * 3 + 1]? = some (.string l[k].2.1) ∧ (fc l)[k * 3 + 2]? = some (.int .i64 l[k].2.2)
  | x :: r, 0, _ => ⟨rfl, rfl, rfl⟩
  | x :: r, k + 1, h => by
    have ih := fc_get r k (by simpa using h)
    rw [show (k + 1) * 3 = k * 3 + 3 by omega, show k * 3 + 3 + 1 = k * 3 + 1 + 3 by omega, show k * 3 + 3 + 2 = k * 3 + 2 + 3 by omega]
    exact ih
theorem fc_one (l : List Col3) : ∀ u ∈ fc l, u.oneCell' = true := by
  intro u hu
  obtain ⟨x, _, hx⟩ := List.mem_flatMap.1 hu
  simp only [List.mem_cons, List.not_mem_nil, or_false] at hx
  rcases hx with rfl | rfl | rfl <;> rfl
theorem Has.col3 {w : World} {A : Option Addr} {l : List Col3} (h : Has w A (fc l)) (k : Nat) (hk : k < l.length) :
    ∃ b off, A = some ⟨b, off, none⟩ ∧ w.cell? ⟨b, off + k * 3, none⟩ = some (.int .i64 l[k].1) ∧ w.cell? ⟨b, off + k * 3 + 1, none⟩ = some (.string l[k].2.1) ∧ w.cell? ⟨b, off + k * 3 + 2, none⟩ = some (.int .i64 l[k].2.2) := by
  rcases h with h | ⟨b, off, hA, _, hc⟩
  · have h1 := fc_length l
    rw [h] at h1
    simp at h1
    omega
  · obtain ⟨h0, h1, h2⟩ := fc_get l k hk
    exact ⟨b, off, hA, hc _ _ h0, hc _ _ h1, hc _ _ h2⟩
end Go.Proofs.YtkdpjocglfephaaDoor

/- Errors of agg: chains of fault.At, and errors.Is on them. -/


namespace Go.Proofs.YtkdpjocglfephaaDoor
open Go.RowKit
set_option linter.unusedVariables false

/-- An error that so many calls of fault.At have wrapped, in blocks from B on. -/
def ErrD (B : Nat) : Nat → World → Value → Addr → Prop
  | 0, _, v, a => v = .iface 184 (.pointer (some a))
  | d + 1, w, v, a => ∃ p : Nat, v = .iface 144 (.pointer (some ⟨p, 0, none⟩)) ∧ B ≤ p ∧ ∃ u, w.cell? ⟨p, 2, none⟩ = some u ∧ ErrD B d w u a
theorem ErrD.later {B : Nat} : ∀ {d : Nat} {w w' : World} {v : Value} {a : Addr}, ErrD B d w v a → Later w w' → ErrD B d w' v a
  | 0, _, _, _, _, h, _ => h
  | d + 1, _, _, _, _, ⟨p, h1, hb, u, h2, h3⟩, l => ⟨p, h1, hb, u, l.cell h2, h3.later l⟩
theorem ErrD.mono {B B' : Nat} (hB : B' ≤ B) : ∀ {d : Nat} {w : World} {v : Value} {a : Addr}, ErrD B d w v a → ErrD B' d w v a
  | 0, _, _, _, h => h
  | d + 1, _, _, _, ⟨p, h1, hb, u, h2, h3⟩ => ⟨p, h1, Nat.le_trans hB hb, u, h2, h3.mono hB⟩
theorem ErrD.set_ {B g o : Nat} (hg : g < B) (x : Value) : ∀ {d : Nat} {w : World} {v : Value} {a : Addr}, ErrD B d w v a → ErrD B d (w.setCell ⟨g, o, none⟩ x) v a
  | 0, _, _, _, h => h
  | d + 1, w, _, _, ⟨p, h1, hb, u, h2, h3⟩ => ⟨p, h1, hb, u, (World.cell?_setCell_other _ _ _ _ (by intro e; simp only [Addr.mk.injEq] at e; omega)).trans h2, h3.set_ hg x⟩

theorem at_e0 (s : ByteArray) (p : Int) (a : Addr) (w : World) :
    Calls Tryd.prog 48 #[.string s, .int .i64 p, .iface 184 (.pointer (some a))] w fun r w' => ∃ v, r = .returned v ∧ ErrD w.heap.size 1 w' v a ∧ Later w w' :=
  (at_any s p _ _ w rfl).mono fun r w' ⟨h1, h2⟩ => ⟨_, h1, ⟨w.heap.size, rfl, Nat.le_refl _, _, (by rw [← h2]; exact (Blk.new w _ _ _ rfl).cell 2 _ rfl), rfl⟩, h2 ▸ Later.new _ _⟩
theorem at_e1 (s : ByteArray) (p : Int) (B d : Nat) (v : Value) (a : Addr) (w : World) (hB : B ≤ w.heap.size) (h : ErrD B (d + 1) w v a) :
    Calls Tryd.prog 48 #[.string s, .int .i64 p, v] w fun r w' => ∃ v', r = .returned v' ∧ ErrD B (d + 2) w' v' a ∧ Later w w' := by
  obtain ⟨q, rfl, hb, u, hu, hd⟩ := h
  have HH := Lib.hid (show ErrD B (d + 1) w (.iface 144 (.pointer (some ⟨q, 0, none⟩))) a from ⟨q, rfl, hb, u, hu, hd⟩)
  clear hu hd
  have hif : Tryd.prog.isIface 89 = true := by kernel_rfl
  have heq := run_eql_iface_nil (P := Tryd.prog) (w := w.alloc (.cells #[.iface 144 (.pointer (some ⟨q, 0, none⟩))] 89)) 89 hif 144 (.pointer (some ⟨q, 0, none⟩))
  have heq2 := run_eql_iface_nil (P := Tryd.prog) (w := w) 89 hif 144 (.pointer (some ⟨q, 0, none⟩))
  go_enter Tryd.func48, Tryd.ntmps48
  go_wp2
  go_ret
  exact ⟨_, rfl, ⟨w.heap.size, rfl, hB, _, (Blk.new w #[.string s, .int .i64 p, .iface 144 (.pointer (some ⟨q, 0, none⟩))] _ _ rfl).cell 2 _ rfl, HH.out.later (Later.new _ _)⟩, Later.new _ _⟩

set_option maxRecDepth 100000 in
theorem is_d3_same (b : Addr) (v : Value) (B : Nat) (w : World) (h : ErrD B 3 w v b) :
    Calls Tryd.prog 38 #[v, .iface 184 (.pointer (some b))] w fun e w' => e = .returned (.bool true) ∧ w = w' := by
  obtain ⟨p1, rfl, _, _, h1, p2, rfl, _, _, h2, p3, rfl, _, _, h3, rfl⟩ := h
  obtain ⟨i, hi, hcmp⟩ := Option.map_eq_some_iff.1 isComp
  obtain ⟨j, hj, hjs⟩ := Option.map_eq_some_iff.1 isSize
  have h8 := @run_callFunc_extern Tryd.prog 59 _ Extern.ReflectliteType.typeOf Tryd.func59 (by kernel_rfl) (by kernel_rfl) (by kernel_rfl) (by kernel_rfl)
  have h32 := @run_callFunc_extern Tryd.prog 122 _ cmpExt Tryd.func122 (by kernel_rfl) (by kernel_rfl) (by kernel_rfl) (by kernel_rfl)
  have tT := isTypeOf
  have cT := isComparable
  have mR := isMethodComparable
  have nE := noIsE
  have uE := noUnwrapE
  have vE := noUnwrapsE
  have nW := noIsW
  have uW := hasUnwrapW
  have mU := methodUnwrap
  have hif : Tryd.prog.isIface 89 = true := by kernel_rfl
  have hq2 := run_eql_iface_nil (P := Tryd.prog) (w := w) 89 hif 144 (.pointer (some ⟨p2, 0, none⟩))
  have hq3 := run_eql_iface_nil (P := Tryd.prog) (w := w) 89 hif 144 (.pointer (some ⟨p3, 0, none⟩))
  have heq := run_eql_iface_ptr_same (P := Tryd.prog) w b Tryd.underlying89 Tryd.underlying184 hi hcmp hj
  have hty1 := run_eql_iface_types (P := Tryd.prog) 144 184 (.pointer (some ⟨p1, 0, none⟩)) (.pointer (some b)) Tryd.underlying89 (by decide) w
  have hty2 := run_eql_iface_types (P := Tryd.prog) 144 184 (.pointer (some ⟨p2, 0, none⟩)) (.pointer (some b)) Tryd.underlying89 (by decide) w
  have hty3 := run_eql_iface_types (P := Tryd.prog) 144 184 (.pointer (some ⟨p3, 0, none⟩)) (.pointer (some b)) Tryd.underlying89 (by decide) w
  go_enter Tryd.func38, Tryd.ntmps38
  go_wp2
  refine wp_loop_rounds 4 ?_
  rw [rounds_succ]
  go_wp2
  rw [rounds_succ]
  go_wp2
  rw [rounds_succ]
  go_wp2
  rw [rounds_succ]
  go_wp2
  go_ret
  exact ⟨rfl, rfl⟩

set_option maxRecDepth 100000 in
theorem is_d3_other (b a : Addr) (v : Value) (ca cb : Array Value) (ta tb : TypeId) (B : Nat) (w : World) (h : ErrD B 3 w v a) (hne : a ≠ b) (ha : w.heap[a.block]? = some (.cells ca ta (0, 0))) (hb : w.heap[b.block]? = some (.cells cb tb (0, 0))) :
    Calls Tryd.prog 38 #[v, .iface 184 (.pointer (some b))] w fun e w' => e = .returned (.bool false) ∧ w = w' := by
  obtain ⟨p1, rfl, _, _, h1, p2, rfl, _, _, h2, p3, rfl, _, _, h3, rfl⟩ := h
  obtain ⟨i, hi, hcmp⟩ := Option.map_eq_some_iff.1 isComp
  obtain ⟨j, hj, hjs⟩ := Option.map_eq_some_iff.1 isSize
  have h8 := @run_callFunc_extern Tryd.prog 59 _ Extern.ReflectliteType.typeOf Tryd.func59 (by kernel_rfl) (by kernel_rfl) (by kernel_rfl) (by kernel_rfl)
  have h32 := @run_callFunc_extern Tryd.prog 122 _ cmpExt Tryd.func122 (by kernel_rfl) (by kernel_rfl) (by kernel_rfl) (by kernel_rfl)
  have tT := isTypeOf
  have cT := isComparable
  have mR := isMethodComparable
  have nE := noIsE
  have uE := noUnwrapE
  have vE := noUnwrapsE
  have nW := noIsW
  have uW := hasUnwrapW
  have mU := methodUnwrap
  have hif : Tryd.prog.isIface 89 = true := by kernel_rfl
  have hq2 := run_eql_iface_nil (P := Tryd.prog) (w := w) 89 hif 144 (.pointer (some ⟨p2, 0, none⟩))
  have hq3 := run_eql_iface_nil (P := Tryd.prog) (w := w) 89 hif 144 (.pointer (some ⟨p3, 0, none⟩))
  have heq := run_eql_iface_ptr_other (P := Tryd.prog) w Tryd.underlying89 Tryd.underlying184 hi hcmp hj (by rw [hjs]; decide) hne ha hb
  have hty1 := run_eql_iface_types (P := Tryd.prog) 144 184 (.pointer (some ⟨p1, 0, none⟩)) (.pointer (some b)) Tryd.underlying89 (by decide) w
  have hty2 := run_eql_iface_types (P := Tryd.prog) 144 184 (.pointer (some ⟨p2, 0, none⟩)) (.pointer (some b)) Tryd.underlying89 (by decide) w
  have hty3 := run_eql_iface_types (P := Tryd.prog) 144 184 (.pointer (some ⟨p3, 0, none⟩)) (.pointer (some b)) Tryd.underlying89 (by decide) w
  go_enter Tryd.func38, Tryd.ntmps38
  go_wp2
  refine wp_loop_rounds 4 ?_
  rw [rounds_succ]
  go_wp2
  rw [rounds_succ]
  go_wp2
  rw [rounds_succ]
  go_wp2
  rw [rounds_succ]
  go_wp2
  go_ret
  exact ⟨rfl, rfl⟩
/-- The three sentinels, apart. -/
structure S24 (w : World) (a0 a1 a2 : Addr) : Prop where
  arg : w.cell? ⟨0, 0, none⟩ = some (.iface 184 (.pointer (some a0)))
  type : w.cell? ⟨1, 0, none⟩ = some (.iface 184 (.pointer (some a1)))
  over : w.cell? ⟨2, 0, none⟩ = some (.iface 184 (.pointer (some a2)))
  b0 : ∃ c t, w.heap[a0.block]? = some (.cells c t (0, 0))
  b1 : ∃ c t, w.heap[a1.block]? = some (.cells c t (0, 0))
  b2 : ∃ c t, w.heap[a2.block]? = some (.cells c t (0, 0))
  n01 : a0 ≠ a1
  n02 : a0 ≠ a2
  n12 : a1 ≠ a2
theorem blk_later {w w' : World} {b : Nat} (h : ∃ c t, w.heap[b]? = some (Obj.cells c t (0, 0))) (l : Later w w') : ∃ c t, w'.heap[b]? = some (Obj.cells c t (0, 0)) := by
  obtain ⟨c, t, h⟩ := h
  exact ⟨c, t, (l.block b (Array.getElem?_eq_some_iff.1 h).1).trans h⟩
theorem S24.later {w w' : World} {a0 a1 a2 : Addr} (h : S24 w a0 a1 a2) (l : Later w w') : S24 w' a0 a1 a2 :=
  ⟨l.cell h.arg, l.cell h.type, l.cell h.over, blk_later h.b0 l, blk_later h.b1 l, blk_later h.b2 l, h.n01, h.n02, h.n12⟩
end Go.Proofs.YtkdpjocglfephaaDoor

/- The walks of agg's small ones: number, least, sum. -/





namespace Go.Proofs.YtkdpjocglfephaaDoor
open Go.RowKit
set_option linter.unusedVariables false

theorem number_any (n : Int) (w : World) : Calls Tryd.prog 78 #[.int .i64 n] w fun e w' => e = .returned (vagg 2 n ⟨#[]⟩) ∧ Later w w' := by
  have HL := Lib.hid (fun (o : Obj) => Later.new w o)
  go_enter Tryd.func78, Tryd.ntmps78
  go_wp2_with fail
  exact bodyPost_ret (v := .agg #[.int .i64 2, .int .i64 n, .string ⟨#[]⟩]) (by simp [results, Tryd.results78, go_sem]) rfl ⟨rfl, HL.out _⟩

/-- The least on its way. -/
def LeI (sg : Int) (l : List Val3) (w : World) (iv : Value) (wr : World) : Prop :=
  ∃ (k : Nat) (a1 a2 : Int) (a3 : ByteArray), iv = .int .i64 k ∧ k ≤ l.length ∧ (a1, a2, a3) = leastN sg l k ∧ Blk wr (w.heap.size + 1) #[.int .i64 a1, .int .i64 a2, .string a3] 26 ∧ Blk wr w.heap.size #[.int .i64 0, .int .i64 0, .string ⟨#[]⟩] 26 ∧ Later w wr
theorem LeI.mk {sg : Int} {l : List Val3} {w wr : World} (y : Int) (k : Nat) (a1 a2 : Int) (a3 : ByteArray) (hy : y = (k : Int)) (hk : k ≤ l.length) (ha : (a1, a2, a3) = leastN sg l k) (B : Blk wr (w.heap.size + 1) #[.int .i64 a1, .int .i64 a2, .string a3] 26) (R : Blk wr w.heap.size #[.int .i64 0, .int .i64 0, .string ⟨#[]⟩] 26) (L : Later w wr) : LeI sg l w (.int .i64 y) wr := by
  subst hy; exact ⟨k, a1, a2, a3, rfl, hk, ha, B, R, L⟩

set_option maxRecDepth 100000 in
set_option maxHeartbeats 4000000 in
theorem least_any (A : Option Addr) (n c : Nat) (l : List Val3) (sg : Int) (w : World) (hn : n = l.length) (hl : l.length ≤ 100000) (hr : Has w A (fl l)) (hsg : sg = 1 ∨ sg = -1) :
    Calls Tryd.prog 80 #[.slice A n c, .int .i64 sg] w fun e w' => e = .returned (vagg (leastV sg l).1 (leastV sg l).2.1 (leastV sg l).2.2) ∧ Later w w' := by
  subst hn
  have R0 := (Blk.new w #[.int .i64 0, .int .i64 0, .string ⟨#[]⟩] 26 w.heap.size rfl).later (Later.new _ (.cells #[.int .i64 0, .int .i64 0, .string ⟨#[]⟩] 26))
  have Z0 := Blk.new (w.alloc (.cells #[.int .i64 0, .int .i64 0, .string ⟨#[]⟩] 26)) #[.int .i64 0, .int .i64 0, .string ⟨#[]⟩] 26 (w.heap.size + 1) (by simp)
  have L0 := (Later.new w (.cells #[.int .i64 0, .int .i64 0, .string ⟨#[]⟩] 26)).alloc (.cells #[.int .i64 0, .int .i64 0, .string ⟨#[]⟩] 26)
  have HR := Lib.hid hr
  have HI0 := Lib.hid (LeI.mk (sg := sg) (l := l) (w := w) 0 0 0 0 ⟨#[]⟩ rfl (Nat.zero_le _) rfl Z0 R0 L0)
  have HSG := Lib.hid hsg
  clear hr R0 Z0 L0
  go_enter Tryd.func80, Tryd.ntmps80
  go_wp2_with fail
  go_loopw [10] (fun iv wr => LeI sg l w iv wr) (fun i _ => l.length - (intOf i).toNat)
  case atStart => exact HI0.out
  case round =>
    obtain ⟨k, a1, a2, a3, rfl, hk, ha, BZ, BR, lat⟩ := hrel
    obtain ⟨gz, hgz⟩ : ∃ g, g = w.heap.size + 1 := ⟨_, rfl⟩
    obtain ⟨gr, hgr⟩ : ∃ g, g = w.heap.size := ⟨_, rfl⟩
    have HGZ := Lib.hid hgz
    have HGR := Lib.hid hgr
    rw [← hgz] at BZ ⊢
    rw [← hgr] at BR ⊢
    have hzl := BZ.lt
    have HA := Lib.hid ha
    have HLAT := Lib.hid lat
    clear ha HI0 hgz hgr
    by_cases hlt : k < l.length
    · obtain ⟨bb, off, hadr, c0, c1, c2⟩ := (HR.out.later lat).val3 k hlt
      subst hadr
      have HS0 := Lib.hid (show lstep sg k (a1, a2, a3) (l[k].1, l[k].2.1, l[k].2.2) = leastN sg l (k + 1) from by rw [leastN_succ sg l k hlt, ← HA.out])
      generalize l[k].1 = t at c0 HS0
      generalize l[k].2.1 = i at c1 HS0
      generalize l[k].2.2 = s at c2 HS0
      obtain ⟨gv, hgv⟩ : ∃ g, wr.heap.size = g := ⟨_, rfl⟩
      have hvz : gv ≠ gz := by omega
      obtain ⟨w1, hw1⟩ : ∃ x, wr.alloc (.cells #[.int .i64 t, .int .i64 i, .string s] 26) = x := ⟨_, rfl⟩
      have hvr : gr ≠ gz := by have := HGZ.out; have := HGR.out; omega
      have hgz2 : w.heap.size ≤ gz := by have := HGZ.out; omega
      have BV := Blk.new wr #[.int .i64 t, .int .i64 i, .string s] 26 gv hgv.symm
      have BZ := BZ.later (Later.new wr (.cells #[.int .i64 t, .int .i64 i, .string s] 26))
      have BR := BR.later (Later.new wr (.cells #[.int .i64 t, .int .i64 i, .string s] 26))
      have LW := HLAT.out.alloc (.cells #[.int .i64 t, .int .i64 i, .string s] 26)
      rw [hw1] at BV BZ BR LW
      clear lat HA
      by_cases hk0 : k = 0
      · have HT := Lib.hid (show (t, i, s) = leastN sg l (k + 1) from by rw [← HS0.out]; unfold lstep; rw [if_pos (.inl hk0)])
        have hkt : ((k : Int) == 0) = true := by simpa using hk0
        clear hk0
        have v0 := BV.cell 0 _ rfl
        have v1 := BV.cell 1 _ rfl
        have v2 := BV.cell 2 _ rfl
        have z0 := BZ.cell 0 _ rfl
        have z1 := BZ.cell 1 _ rfl
        have z2 := BZ.cell 2 _ rfl
        have y0 := BZ.frozen 0
        have y1 := BZ.frozen 1
        have y2 := BZ.frozen 2
        have HZq := Lib.hid (three_blk BZ rfl (.int .i64 t) (.int .i64 i) (.string s))
        have HRq := Lib.hid (((BR.far hvr (p := ⟨gz, 0, none⟩) (.int .i64 t)).far hvr (p := ⟨gz, 1, none⟩) (.int .i64 i)).far hvr (p := ⟨gz, 2, none⟩) (.string s))
        have HLq := Lib.hid (three_later LW hgz2 (.int .i64 t) (.int .i64 i) (.string s))
        obtain ⟨wq, hwq⟩ : ∃ x, (((w1.setCell ⟨gz, 0, none⟩ (.int .i64 t)).setCell ⟨gz, 1, none⟩ (.int .i64 i)).setCell ⟨gz, 2, none⟩ (.string s)) = x := ⟨_, rfl⟩
        rw [hwq] at HZq HRq HLq
        clear BZ BR LW BV HS0
        go_wp2_with fail
        go_roundw
        case rel =>
          rw [HGZ.out] at HZq
          rw [HGR.out] at HRq
          exact LeI.mk _ (k + 1) t i s (by omega) hlt HT.out HZq.out HRq.out HLq.out
        case measure => simp [intOf]; omega
      · have hkt : ((k : Int) == 0) = false := by simp; omega
        have v0 := BV.cell 0 _ rfl
        have v1 := BV.cell 1 _ rfl
        have v2 := BV.cell 2 _ rfl
        have z0 := BZ.cell 0 _ rfl
        have z1 := BZ.cell 1 _ rfl
        have z2 := BZ.cell 2 _ rfl
        have HC := Lib.hid (valCmp_any t i s a1 a2 a3 w1)
        obtain ⟨cb, hcb⟩ : ∃ c, c = cmpV t i s a1 a2 a3 := ⟨_, rfl⟩
        have hcr := cmpV_in t i s a1 a2 a3
        rw [← hcb] at HC hcr
        have hwr : IntKind.i64.wrap (sg * cb) = sg * cb := by
          rcases HSG.out with rfl | rfl <;> rcases hcr with rfl | rfl | rfl <;> decide
        have HT := Lib.hid (show (if sg * cb < 0 then (t, i, s) else (a1, a2, a3)) = leastN sg l (k + 1) from by
          rw [← HS0.out]; unfold lstep
          by_cases h : sg * cb < 0
          · rw [if_pos h, if_pos (.inr (by show sg * cmpV t i s a1 a2 a3 < 0; rw [← hcb]; exact h))]
          · rw [if_neg h, if_neg (fun h' => h'.elim hk0 (fun h' => h (by rw [hcb]; exact h')))])
        have HZm := Lib.hid BZ
        have HRm := Lib.hid BR
        have HVm := Lib.hid BV
        have HLm := Lib.hid LW
        clear BZ BR LW BV HS0 hcb hcr hk0
        go_wp2_with fail
        refine HC.out.mono ?_
        rintro e wn ⟨rfl, ln⟩
        have BZ := HZm.out.later ln
        have BR := HRm.out.later ln
        have BV := HVm.out.later ln
        have LW := HLm.out.trans ln
        clear v0 v1 v2 z0 z1 z2 HC HZm HRm HVm HLm ln
        by_cases hm : sg * cb < 0
        · have HT2 := Lib.hid (show (t, i, s) = leastN sg l (k + 1) from by rw [← HT.out, if_pos hm])
          have hd : decide (sg * cb < 0) = true := by simpa using hm
          have v0 := BV.cell 0 _ rfl
          have v1 := BV.cell 1 _ rfl
          have v2 := BV.cell 2 _ rfl
          have z0 := BZ.cell 0 _ rfl
          have z1 := BZ.cell 1 _ rfl
          have z2 := BZ.cell 2 _ rfl
          have y0 := BZ.frozen 0
          have y1 := BZ.frozen 1
          have y2 := BZ.frozen 2
          have HZq := Lib.hid (three_blk BZ rfl (.int .i64 t) (.int .i64 i) (.string s))
          have HRq := Lib.hid (((BR.far hvr (p := ⟨gz, 0, none⟩) (.int .i64 t)).far hvr (p := ⟨gz, 1, none⟩) (.int .i64 i)).far hvr (p := ⟨gz, 2, none⟩) (.string s))
          have HLq := Lib.hid (three_later LW hgz2 (.int .i64 t) (.int .i64 i) (.string s))
          obtain ⟨wq, hwq⟩ : ∃ x, (((wn.setCell ⟨gz, 0, none⟩ (.int .i64 t)).setCell ⟨gz, 1, none⟩ (.int .i64 i)).setCell ⟨gz, 2, none⟩ (.string s)) = x := ⟨_, rfl⟩
          rw [hwq] at HZq HRq HLq
          clear BZ BR LW BV HT
          go_wp2_with fail
          go_roundw
          case rel =>
            rw [HGZ.out] at HZq
            rw [HGR.out] at HRq
            exact LeI.mk _ (k + 1) t i s (by omega) hlt HT2.out HZq.out HRq.out HLq.out
          case measure => simp [intOf]; omega
        · have HT2 := Lib.hid (show (a1, a2, a3) = leastN sg l (k + 1) from by rw [← HT.out, if_neg hm])
          have hd : decide (sg * cb < 0) = false := by simpa using hm
          have HZq := Lib.hid BZ
          have HRq := Lib.hid BR
          have HLq := Lib.hid LW
          clear BZ BR LW BV HT
          go_wp2_with fail
          go_roundw
          case rel =>
            rw [HGZ.out] at HZq
            rw [HGR.out] at HRq
            exact LeI.mk _ (k + 1) a1 a2 a3 (by omega) hlt HT2.out HZq.out HRq.out HLq.out
          case measure => simp [intOf]; omega
    · have HT := Lib.hid (show (a1, a2, a3) = leastV sg l from by
        rw [HA.out, show k = l.length by omega]; rfl)
      have z0 := BZ.cell 0 _ rfl
      have z1 := BZ.cell 1 _ rfl
      have z2 := BZ.cell 2 _ rfl
      have r0 := BR.cell 0 _ rfl
      have r1 := BR.cell 1 _ rfl
      have r2 := BR.cell 2 _ rfl
      have f0 := BR.frozen 0
      have f1 := BR.frozen 1
      have f2 := BR.frozen 2
      have hgr2 : w.heap.size ≤ gr := by have := HGR.out; omega
      have HB := Lib.hid (three_blk BR rfl (.int .i64 a1) (.int .i64 a2) (.string a3))
      have HL := Lib.hid (three_later lat hgr2 (.int .i64 a1) (.int .i64 a2) (.string a3))
      obtain ⟨wq, hwq⟩ : ∃ x, (((wr.setCell ⟨gr, 0, none⟩ (.int .i64 a1)).setCell ⟨gr, 1, none⟩ (.int .i64 a2)).setCell ⟨gr, 2, none⟩ (.string a3)) = x := ⟨_, rfl⟩
      rw [hwq] at HB HL
      clear BZ BR lat HA HLAT HR
      go_wp2_with fail
      have q0 := HB.out.cell 0 _ rfl
      have q1 := HB.out.cell 1 _ rfl
      have q2 := HB.out.cell 2 _ rfl
      exact bodyPost_ret (v := .agg #[.int .i64 a1, .int .i64 a2, .string a3]) (by simp [results, Tryd.results80, go_sem, q0, q1, q2]) rfl ⟨by rw [← HT.out], HL.out⟩
end Go.Proofs.YtkdpjocglfephaaDoor
