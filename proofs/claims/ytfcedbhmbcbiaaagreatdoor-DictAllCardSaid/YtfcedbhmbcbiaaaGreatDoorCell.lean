/- Package cell: Type, Count, All; fault.At; the six sentinels. -/
import Derived.Test.YtfcedbhmbcbiaaaGreatDoorNumB
import Derived.Test.YtfcedbhmbcbiaaaGreatDoorBase
import Derived.Test.YtfcedbhmbcbiaaaGreatDoorPlainMath
import Derived.Lib.AppendStr
import Derived.Deep.RegionWith
import Derived.Deep.RegionLaw
/- Walks of package cell: Type, Count. -/

namespace Go.Proofs.YtfcedbhmbcbiaaaGreatDoor
open Go.RowKit
set_option linter.unusedVariables false

/-- The sentinel in global g. -/
def CSent (w : World) (g : Nat) : Prop := ∃ a : Addr, w.cell? ⟨g, 0, none⟩ = some (.iface 148 (.pointer (some a)))
theorem CSent.later {w w' : World} {g : Nat} (h : CSent w g) (l : Later w w') : CSent w' g := h.elim fun a h => ⟨a, l.cell h⟩
/-- An error of fault.At. -/
def Where (v : Value) : Prop := ∃ p : Addr, v = .iface 96 (.pointer (some p))

theorem type_yes (t : Int) (w : World) (h : 1 ≤ t ∧ t ≤ 4) :
    Calls Tryz.prog 53 #[.int .i64 t] w fun e w' => e = .returned .nilIface ∧ w = w' := by
  have h1 : ¬ t < 1 := by omega
  have h2 : ¬ 4 < t := by omega
  clear h
  go_enter Tryz.func53, Tryz.ntmps53
  go_wp2_with fail
  go_ret
  exact ⟨rfl, rfl⟩
theorem type_no (t : Int) (w : World) (h : ¬ (1 ≤ t ∧ t ≤ 4)) (hs : CSent w 3) :
    Calls Tryz.prog 53 #[.int .i64 t] w fun e w' => ∃ v, e = .returned v ∧ Where v ∧ Later w w' := by
  obtain ⟨a, hc⟩ := hs
  have L := Lib.hid fun o => Later.new w o
  by_cases h1 : t < 1
  · go_enter Tryz.func53, Tryz.ntmps53
    go_wp2_with (go_at_call 38; refine (at_any _ _ _ _ _ rfl).mono ?_; rintro e w' ⟨rfl, rfl⟩)
    go_ret
    exact ⟨_, rfl, ⟨_, rfl⟩, L.out _⟩
  · have h2 : 4 < t := by omega
    go_enter Tryz.func53, Tryz.ntmps53
    go_wp2_with (go_at_call 38; refine (at_any _ _ _ _ _ rfl).mono ?_; rintro e w' ⟨rfl, rfl⟩)
    go_ret
    exact ⟨_, rfl, ⟨_, rfl⟩, L.out _⟩
theorem count_yes (t n : Int) (w : World) (h : 1 ≤ t ∧ t ≤ 4) (hn : 0 ≤ n ∧ n ≤ 1000) :
    Calls Tryz.prog 44 #[.int .i64 t, .int .i64 n] w fun e w' => e = .returned .nilIface ∧ w = w' := by
  have h1 : ¬ n < 0 := by omega
  have h2 : ¬ 1000 < n := by omega
  have H := Lib.hid (type_yes t w h)
  clear h hn
  go_enter Tryz.func44, Tryz.ntmps44
  go_wp2_with (go_at_call 53; refine H.out.mono ?_; rintro e w' ⟨rfl, rfl⟩)
  go_ret
  exact ⟨rfl, rfl⟩
theorem count_no (t n : Int) (w : World) (h : ¬ ((1 ≤ t ∧ t ≤ 4) ∧ 0 ≤ n ∧ n ≤ 1000)) (hs : CSent w 3) (hb : CSent w 0) :
    Calls Tryz.prog 44 #[.int .i64 t, .int .i64 n] w fun e w' => ∃ v, e = .returned v ∧ Where v ∧ Later w w' := by
  obtain ⟨a, hc⟩ := hb
  have L := Lib.hid fun o => Later.new w o
  by_cases h1 : n < 0
  · go_enter Tryz.func44, Tryz.ntmps44
    go_wp2_with (go_at_call 38; refine (at_any _ _ _ _ _ rfl).mono ?_; rintro e w' ⟨rfl, rfl⟩)
    go_ret
    exact ⟨_, rfl, ⟨_, rfl⟩, L.out _⟩
  · by_cases h2 : 1000 < n
    · go_enter Tryz.func44, Tryz.ntmps44
      go_wp2_with (go_at_call 38; refine (at_any _ _ _ _ _ rfl).mono ?_; rintro e w' ⟨rfl, rfl⟩)
      go_ret
      exact ⟨_, rfl, ⟨_, rfl⟩, L.out _⟩
    · have H := Lib.hid (type_no t w (by omega) hs)
      clear hs hc L
      go_enter Tryz.func44, Tryz.ntmps44
      go_wp2_with (go_at_call 53; refine H.out.mono ?_; rintro e w' ⟨v, rfl, ⟨p, rfl⟩, L⟩)
      go_ret
      exact ⟨_, rfl, ⟨_, rfl⟩, L⟩
end Go.Proofs.YtfcedbhmbcbiaaaGreatDoor

/- Walks of package cell: All. -/

namespace Go.Proofs.YtfcedbhmbcbiaaaGreatDoor
open Go.RowKit
set_option linter.unusedVariables false


set_option maxRecDepth 100000 in
set_option maxHeartbeats 1000000 in
theorem all_yes (t : Int) (A : Option Addr) (c : Nat) (l : List Val3) (a0 a2 a3 a4 : Addr) (w : World) (hs : Sents w w.heap.size a0 a2 a3 a4) (ht : 1 ≤ t ∧ t ≤ 4) (hl : l.length ≤ 1000000) (hr : Has w A (fl l)) (ho : OkL t l) :
    Calls Tryz.prog 31 #[.int .i64 t, .slice A l.length c] w fun e w' => e = .returned .nilIface ∧ Later w w' := by
  have HT := Lib.hid (type_yes t w ht)
  go_enter Tryz.func31, Tryz.ntmps31
  go_wp2_with (go_at_call 53; refine HT.out.mono ?_; rintro e w' ⟨rfl, rfl⟩)
  go_loopw [15] (fun i wr => ∃ k : Nat, k ≤ l.length ∧ i = .int .i64 k ∧ Later w wr) (fun i _ => l.length - (intOf i).toNat)
  case atStart => exact ⟨0, Nat.zero_le _, rfl, Later.refl _⟩
  case round =>
    obtain ⟨k, hk, rfl, lat⟩ := hrel
    by_cases hlt : k < l.length
    · obtain ⟨b, off, rfl, c0, c1, c2⟩ := (hr.later lat).val3 k hlt
      obtain ⟨hx, hm⟩ := ho _ (List.getElem_mem hlt)
      rw [hx] at c0 hm
      generalize l[k].2.1 = i at c1 hm
      generalize l[k].2.2 = s at c2 hm
      have HM := Lib.hid hm
      have HS := Lib.hid hs
      have HR := Lib.hid hr
      have HLAT := Lib.hid lat
      clear hm hs hr lat hx ho
      go_wp2_with fail
      have l2 : Later w (wr.alloc (.cells #[.int .i64 t, .int .i64 i, .string s] 26)) := HLAT.out.alloc _
      have HL2 := Lib.hid l2
      refine (may_any t i s a0 a2 a3 a4 _ ((HS.out.below l2).more l2.size)).mono ?_
      rintro e wX ⟨r, hrm, rfl, bX⟩
      have hrt : r = true := hrm.2 HM.out
      subst hrt
      have lX := Lib.hid (HL2.out.trans (Later.of bX))
      clear bX hrm l2
      go_wp2_with fail
      go_roundw
      case rel => exact ⟨k + 1, hlt, by go_num, lX.out⟩
      case measure => simp [intOf]; omega
    · go_wp2_with fail
      go_ret
      exact ⟨rfl, lat⟩

set_option maxRecDepth 100000 in
set_option maxHeartbeats 1000000 in
theorem all_no (t : Int) (A : Option Addr) (c : Nat) (l : List Val3) (a0 a2 a3 a4 : Addr) (w : World) (hs : Sents w w.heap.size a0 a2 a3 a4) (hl : l.length ≤ 1000000) (hr : Has w A (fl l)) (ho : ¬ ((1 ≤ t ∧ t ≤ 4) ∧ OkL t l)) :
    Calls Tryz.prog 31 #[.int .i64 t, .slice A l.length c] w fun e w' => ∃ v, e = .returned v ∧ Where v ∧ Later w w' := by
  have hif : Tryz.prog.isIface 47 = true := by kernel_rfl
  by_cases ht : 1 ≤ t ∧ t ≤ 4
  · have HT := Lib.hid (type_yes t w ht)
    have HO := Lib.hid (show ¬ OkL t l from fun h => ho ⟨ht, h⟩)
    clear ho
    go_enter Tryz.func31, Tryz.ntmps31
    go_wp2_with (go_at_call 53; refine HT.out.mono ?_; rintro e w' ⟨rfl, rfl⟩)
    go_loopw [15] (fun i wr => ∃ k : Nat, k ≤ l.length ∧ i = .int .i64 k ∧ OkL t (l.take k) ∧ Later w wr) (fun i _ => l.length - (intOf i).toNat)
    case atStart => exact ⟨0, Nat.zero_le _, rfl, by intro x hx; simp at hx, Later.refl _⟩
    case round =>
      obtain ⟨k, hk, rfl, hok, lat⟩ := hrel
      by_cases hlt : k < l.length
      · obtain ⟨b, off, rfl, c0, c1, c2⟩ := (hr.later lat).val3 k hlt
        have HK := Lib.hid (show (l[k].1 = t ∧ MayV l[k].1 l[k].2.1 l[k].2.2.size) → OkL t (l.take (k + 1)) from fun h x hx => by
          rw [List.take_succ_eq_append_getElem hlt] at hx
          rcases List.mem_append.1 hx with hx | hx
          · exact hok x hx
          · rw [List.mem_singleton] at hx; rw [hx]; exact h)
        generalize l[k].1 = t' at c0 HK
        generalize l[k].2.1 = i at c1 HK
        generalize l[k].2.2 = s at c2 HK
        have HS := Lib.hid hs
        have HR := Lib.hid hr
        have HLAT := Lib.hid lat
        have l2 : Later w (wr.alloc (.cells #[.int .i64 t', .int .i64 i, .string s] 26)) := HLAT.out.alloc _
        have HL2 := Lib.hid l2
        have HS2 := Lib.hid ((HS.out.below l2).more l2.size)
        have hval := HS2.out.value
        clear hs hr lat hok l2
        by_cases he : t' = t
        · subst he
          go_wp2_with fail
          refine (may_any t' i s a0 a2 a3 a4 _ HS2.out).mono ?_
          rintro e wX ⟨r, hrm, rfl, bX⟩
          have lX := Lib.hid (HL2.out.trans (Later.of bX))
          have hv2 := (HS.out.below lX.out).value
          clear bX
          cases r with
          | true =>
            have HM := Lib.hid (HK.out ⟨by first | rfl | trivial, hrm.1 rfl⟩)
            clear hrm
            go_wp2_with fail
            go_roundw
            case rel => exact ⟨k + 1, hlt, by go_num, HM.out, lX.out⟩
            case measure => simp [intOf]; omega
          | false =>
            clear hrm hval
            go_wp2_with (go_at_call 38; refine (at_any _ _ _ _ _ rfl).mono ?_; rintro e w' ⟨rfl, rfl⟩)
            go_ret
            first
              | exact ⟨_, rfl, ⟨_, rfl⟩, lX.out.alloc _⟩
              | exact ⟨_, ⟨rfl, trivial⟩, ⟨_, rfl⟩, lX.out.alloc _⟩
        · have hbe : ((t' : Int) != t) = true := by simp [he]
          go_wp2_with (go_at_call 38; refine (at_any _ _ _ _ _ rfl).mono ?_; rintro e w' ⟨rfl, rfl⟩)
          go_ret
          exact ⟨_, rfl, ⟨_, rfl⟩, HL2.out.alloc _⟩
      · exact absurd (by rw [List.take_of_length_le (by omega)] at hok; exact hok) HO.out
  · have HT := Lib.hid (type_no t w ht ⟨a4, hs.type⟩)
    clear ho hs
    go_enter Tryz.func31, Tryz.ntmps31
    go_wp2_with fail
    refine HT.out.mono ?_
    rintro e w2 ⟨v, rfl, ⟨p, rfl⟩, L⟩
    have heq := run_eql_iface_nil (P := Tryz.prog) (w := w2) 47 hif 96 (.pointer (some p))
    go_wp2_with fail
    go_ret
    exact ⟨_, rfl, ⟨_, rfl⟩, L⟩
end Go.Proofs.YtfcedbhmbcbiaaaGreatDoor

namespace Go.Proofs.YtfcedbhmbcbiaaaGreatDoor
open Go.RowKit
set_option linter.unusedVariables false

abbrev vagg (t i : Int) (s : ByteArray) : Value := .agg #[.int .i64 t, .int .i64 i, .string s]
theorem own_mono {w : World} {base base' : Nat} {e : TypeId} {v : Value} {n : Nat} {xs : List Value} (h : w.ownsRow base e 1 v n xs) (hb : base' ≤ base) : w.ownsRow base' e 1 v n xs := by
  obtain ⟨h1, h2⟩ := h
  refine ⟨h1, ?_⟩
  rcases h2 with h2 | ⟨g, cap, cur, ha, hb2, hrest⟩
  · exact .inl h2
  · exact .inr ⟨g, cap, cur, ha, Nat.le_trans hb hb2, hrest⟩
/-- A call that gives bytes of its own. -/
def Gives (l : List Nat) (w : World) (e : Ending) (w' : World) : Prop :=
  ∃ A c, e = .returned (.slice A l.length c) ∧ Has w' A (ints .u8 l) ∧ l.length ≤ c ∧ c ≤ 9223372036854775807 ∧ (A = none → c = 0) ∧ Later w w'
theorem own_capmax {w : World} {base : Nat} {e : TypeId} {A : Option Addr} {c : Nat} {n : Nat} {xs : List Value} (h : w.ownsRow base e 1 (.slice A n c) n xs) : c ≤ 9223372036854775807 := by
  rcases h.2 with ⟨h1, rfl⟩ | ⟨g, cap, cur, h1, _, _, _, h2, _⟩
  · injection h1 with _ _ h1; omega
  · injection h1 with _ _ h1
    unfold maxLen at h2
    omega
theorem Makes.gives {l : List Nat} {w : World} {e : Ending} {w' : World} (h : Makes l w e w') : Gives l w e w' := by
  obtain ⟨A, c, rfl, ho, hb, hn⟩ := h
  exact ⟨A, c, rfl, Has.own ho, own_cap ho, own_capmax ho, hn, hb⟩

theorem wpList_append_str {P : Program} (w : World) {ops : Array Oper} {rest : List Oper} {o : Oper} {a : Act} {Q : Exit → Act → World → Prop} (hgd : o.guard = none) (sl x : Operand) (t u : TypeId)
    (ho : o.op = .call { callee := .builtin .append, args := #[sl, x], argTypes := #[t, u] })
    (base : Nat) (e : TypeId) (ht : P.underlying t = some (.slice e)) (hu : P.underlying u = some .string) (hinfo : (P.info? e).map (fun i => (i.zero, i.size, i.bytes)) = some (some (.int .u8 0), 1, 1))
    (v : Value) (n : Nat) (xs : List Value) (hs : a.eval sl = v) (hown : w.ownsRow base e 1 v n xs) (s : ByteArray) (hx : a.eval x = .string s)
    (h63 : n + s.size ≤ maxLen) (hbytes : n + s.size ≤ 140737488355328) (hbase : base ≤ w.heap.size)
    (h : ∀ A' c' w', w'.ownsRow base e 1 (.slice A' (n + s.size) c') (n + s.size) (xs ++ Lib.strCells s) → Below base w w' → (A' = none → c' = 0) → wpList P ops Q rest (a.put o.dst (.slice A' (n + s.size) c')) w') : wpList P ops Q (o :: rest) a w := by
  obtain ⟨i, hi, hz, hsz, hby⟩ := info_parts hinfo
  refine Lib.wpList_append_own_string w hgd sl x t u ho base e i ht hu hi hz hsz hby v n xs hs hown s hx h63 hbytes hbase fun v' w' h2 h3 _ => ?_
  obtain ⟨A', c', hv, hc'⟩ := own_shape h2
  subst hv
  exact h A' c' w' h2 ((Below.refl _ _).grown h3 hbase fun k hk => (hown.lt k hk).1) hc'

theorem conv_str (A : Option Addr) (n c : Nat) (l : List Nat) (hn : n = l.length) (w : World) (B : Nat) (hr : Rd w B A (ints .u8 l)) :
    (convert 22 9 (.slice A n c)).run Tryz.prog w = .ok (.string (bstr l)) w :=
  run_bstr 22 5 9 Tryz.underlying22 Tryz.underlying5 Tryz.underlying9 A n c l hn w B hr
theorem three_blk {w : World} {g : Nat} {cs : Array Value} {t : TypeId} (h : Blk w g cs t) (hs : cs.size = 3) (x y z : Value) : Blk (((w.setCell ⟨g, 0, none⟩ x).setCell ⟨g, 1, none⟩ y).setCell ⟨g, 2, none⟩ z) g #[x, y, z] t := by
  have := ((h.set_ 0 x).set_ 1 y).set_ 2 z
  have e : ((cs.setIfInBounds 0 x).setIfInBounds 1 y).setIfInBounds 2 z = #[x, y, z] := by
    match cs, hs with
    | ⟨[a, b, c]⟩, _ => rfl
  rwa [e] at this
theorem three_later {w w' : World} {g : Nat} (h : Later w w') (hg : w.heap.size ≤ g) (x y z : Value) : Later w (((w'.setCell ⟨g, 0, none⟩ x).setCell ⟨g, 1, none⟩ y).setCell ⟨g, 2, none⟩ z) := ((h.set_ hg _).set_ hg _).set_ hg _
theorem three_far {w : World} {g : Nat} {p : Addr} {v : Value} (h : CellIs w p v) (hne : p.block ≠ g) (x y z : Value) : CellIs (((w.setCell ⟨g, 0, none⟩ x).setCell ⟨g, 1, none⟩ y).setCell ⟨g, 2, none⟩ z) p v := ((h.far hne).far hne).far hne
/-- The worlds that a reader begins in: the box, the result. -/
theorem two_new (w : World) (cs ds : Array Value) (t u : TypeId) : ∃ w1, w1 = (w.alloc (.cells cs t)).alloc (.cells ds u) ∧ Later w w1 ∧ Blk w1 w.heap.size cs t ∧ Blk w1 (w.heap.size + 1) ds u ∧ w1.heap.size = w.heap.size + 2 :=
  ⟨_, rfl, ((Later.refl w).alloc _).alloc _, (Blk.new w cs t _ rfl).later (Later.new _ _), Blk.new _ ds u _ (by simp), by simp⟩
/-- fault.At of a sentinel. -/
theorem at_l (s : ByteArray) (p : Int) (x : Value) (w : World) :
    Calls Tryz.prog 38 #[.string s, .int .i64 p, .iface 148 x] w fun r w' => ∃ q, r = .returned (.iface 96 (.pointer (some q))) ∧ Later w w' :=
  (at_any s p _ x w rfl).mono fun r w' ⟨h1, h2⟩ => ⟨_, h1, h2 ▸ Later.new _ _⟩
/-- fault.At of an error of fault.At. -/
theorem at_w (s : ByteArray) (p : Int) (x : Addr) (w : World) :
    Calls Tryz.prog 38 #[.string s, .int .i64 p, .iface 96 (.pointer (some x))] w fun r w' => ∃ q, r = .returned (.iface 96 (.pointer (some q))) ∧ Later w w' := by
  have hif : Tryz.prog.isIface 47 = true := by kernel_rfl
  have heq := run_eql_iface_nil (P := Tryz.prog) (w := w.alloc (.cells #[.iface 96 (.pointer (some x))] 47)) 47 hif 96 (.pointer (some x))
  have heq2 := run_eql_iface_nil (P := Tryz.prog) (w := w) 47 hif 96 (.pointer (some x))
  go_enter Tryz.func38, Tryz.ntmps38
  go_wp2
  go_ret
  exact ⟨_, rfl, Later.new _ _⟩
/-- The six sentinels. -/
structure S6 (w : World) : Prop where
  sn : ∃ a0 a2 a3 a4, Sents w w.heap.size a0 a2 a3 a4
  num : ∃ a, Sent w w.heap.size a
  spare : CSent w 2
theorem S6.later {w w' : World} (h : S6 w) (l : Later w w') : S6 w' := by
  obtain ⟨⟨a0, a2, a3, a4, h1⟩, ⟨a, h2⟩, h3⟩ := h
  exact ⟨⟨a0, a2, a3, a4, (h1.below l).more l.size⟩, ⟨a, (h2.below l).cell, Nat.lt_of_lt_of_le h2.lt l.size⟩, h3.later l⟩
theorem S6.short {w : World} (h : S6 w) : CSent w 5 := by obtain ⟨⟨a0, a2, a3, a4, h1⟩, _⟩ := h; exact ⟨_, h1.short⟩
theorem S6.value {w : World} (h : S6 w) : CSent w 1 := by obtain ⟨⟨a0, a2, a3, a4, h1⟩, _⟩ := h; exact ⟨_, h1.value⟩
theorem S6.bound {w : World} (h : S6 w) : CSent w 0 := by obtain ⟨⟨a0, a2, a3, a4, h1⟩, _⟩ := h; exact ⟨_, h1.bound⟩
theorem S6.type {w : World} (h : S6 w) : CSent w 3 := by obtain ⟨⟨a0, a2, a3, a4, h1⟩, _⟩ := h; exact ⟨_, h1.type⟩
theorem readC_num {t : Int} {b : List Nat} (ht : t = 1 ∨ t = 2) : readC t b = (match takeNum b with | some (u, n) => some (zag u, [], n) | none => none) := by unfold readC; rw [if_pos ht]; rcases takeNum b with _ | ⟨u, n⟩ <;> rfl
theorem takeR_some {b : List Nat} {v n : Nat} {ok : Bool} (h : takeR b = (v, n, ok)) : (ok = true ∧ takeNum b = some (v, n)) ∨ (ok = false ∧ takeNum b = none) := by
  unfold takeR at h
  split at h
  · rename_i hT
    cases h
    exact .inl ⟨rfl, hT⟩
  · rename_i hT
    cases h
    exact .inr ⟨rfl, hT⟩

end Go.Proofs.YtfcedbhmbcbiaaaGreatDoor
