
import Derived.Test.YtldalkhmbpkjpaaGreatDoorNumB
import Derived.Test.YtldalkhmbpkjpaaGreatDoorBase
import Derived.Test.YtldalkhmbpkjpaaGreatDoorPlainMath
import Derived.Lib.AppendStr
import Derived.Deep.RegionWith
import Derived.Deep.RegionLaw
import Derived.BigQuiet
/- Package cell: Type, Count, All; fault.At; the six sentinels. -/

/- Walks of package cell: Type, Count. -/

namespace Go.Proofs.YtldalkhmbpkjpaaGreatDoor
open Go.RowKit
set_option linter.unusedVariables false

/-- The sentinel in global g. -/
def CSent (w : World) (g : Nat) : Prop := ∃ a : Addr, w.cell? ⟨g, 0, none⟩ = some (.iface 164 (.pointer (some a)))
theorem CSent.later {w w' : World} {g : Nat} (h : CSent w g) (l : Later w w') : CSent w' g := h.elim fun a h => ⟨a, l.cell h⟩
/-- An error of fault.At. -/
def Where (v : Value) : Prop := ∃ p : Addr, v = .iface 82 (.pointer (some p))

theorem type_yes (t : Int) (w : World) (h : 1 ≤ t ∧ t ≤ 4) :
    Calls Tryz.prog 15 #[.int .i64 t] w fun e w' => e = .returned .nilIface ∧ w = w' := by
  have h1 : ¬ t < 1 := by omega
  have h2 : ¬ 4 < t := by omega
  clear h
  go_enter Tryz.func15, Tryz.ntmps15
  go_wp2_with fail
  go_ret
  exact ⟨rfl, rfl⟩
theorem type_no (t : Int) (w : World) (h : ¬ (1 ≤ t ∧ t ≤ 4)) (hs : CSent w 0) :
    Calls Tryz.prog 15 #[.int .i64 t] w fun e w' => ∃ v, e = .returned v ∧ Where v ∧ Later w w' := by
  obtain ⟨a, hc⟩ := hs
  have L := Lib.hid fun o => Later.new w o
  by_cases h1 : t < 1
  · go_enter Tryz.func15, Tryz.ntmps15
    go_wp2_with (go_at_call 27; refine (at_any _ _ _ _ _ rfl).mono ?_; rintro e w' ⟨rfl, rfl⟩)
    go_ret
    exact ⟨_, rfl, ⟨_, rfl⟩, L.out _⟩
  · have h2 : 4 < t := by omega
    go_enter Tryz.func15, Tryz.ntmps15
    go_wp2_with (go_at_call 27; refine (at_any _ _ _ _ _ rfl).mono ?_; rintro e w' ⟨rfl, rfl⟩)
    go_ret
    exact ⟨_, rfl, ⟨_, rfl⟩, L.out _⟩
theorem count_yes (t n : Int) (w : World) (h : 1 ≤ t ∧ t ≤ 4) (hn : 0 ≤ n ∧ n ≤ 1000) :
    Calls Tryz.prog 42 #[.int .i64 t, .int .i64 n] w fun e w' => e = .returned .nilIface ∧ w = w' := by
  have h1 : ¬ n < 0 := by omega
  have h2 : ¬ 1000 < n := by omega
  have H := Lib.hid (type_yes t w h)
  clear h hn
  go_enter Tryz.func42, Tryz.ntmps42
  go_wp2_with (go_at_call 15; refine H.out.mono ?_; rintro e w' ⟨rfl, rfl⟩)
  go_ret
  exact ⟨rfl, rfl⟩
theorem count_no (t n : Int) (w : World) (h : ¬ ((1 ≤ t ∧ t ≤ 4) ∧ 0 ≤ n ∧ n ≤ 1000)) (hs : CSent w 0) (hb : CSent w 3) :
    Calls Tryz.prog 42 #[.int .i64 t, .int .i64 n] w fun e w' => ∃ v, e = .returned v ∧ Where v ∧ Later w w' := by
  obtain ⟨a, hc⟩ := hb
  have L := Lib.hid fun o => Later.new w o
  by_cases h1 : n < 0
  · go_enter Tryz.func42, Tryz.ntmps42
    go_wp2_with (go_at_call 27; refine (at_any _ _ _ _ _ rfl).mono ?_; rintro e w' ⟨rfl, rfl⟩)
    go_ret
    exact ⟨_, rfl, ⟨_, rfl⟩, L.out _⟩
  · by_cases h2 : 1000 < n
    · go_enter Tryz.func42, Tryz.ntmps42
      go_wp2_with (go_at_call 27; refine (at_any _ _ _ _ _ rfl).mono ?_; rintro e w' ⟨rfl, rfl⟩)
      go_ret
      exact ⟨_, rfl, ⟨_, rfl⟩, L.out _⟩
    · have H := Lib.hid (type_no t w (by omega) hs)
      clear hs hc L
      go_enter Tryz.func42, Tryz.ntmps42
      go_wp2_with (go_at_call 15; refine H.out.mono ?_; rintro e w' ⟨v, rfl, ⟨p, rfl⟩, L⟩)
      go_ret
      exact ⟨_, rfl, ⟨_, rfl⟩, L⟩
end Go.Proofs.YtldalkhmbpkjpaaGreatDoor

/- Walks of package cell: All. -/

namespace Go.Proofs.YtldalkhmbpkjpaaGreatDoor
open Go.RowKit
set_option linter.unusedVariables false


set_option maxRecDepth 100000 in
set_option maxHeartbeats 1000000 in
theorem all_yes (t : Int) (A : Option Addr) (c : Nat) (l : List Val3) (a0 a2 a3 a4 : Addr) (w : World) (hs : Sents w w.heap.size a0 a2 a3 a4) (ht : 1 ≤ t ∧ t ≤ 4) (hl : l.length ≤ 1000000) (hr : Has w A (fl l)) (ho : OkL t l) :
    Calls Tryz.prog 86 #[.int .i64 t, .slice A l.length c] w fun e w' => e = .returned .nilIface ∧ Later w w' := by
  have HT := Lib.hid (type_yes t w ht)
  go_enter Tryz.func86, Tryz.ntmps86
  go_wp2_with (go_at_call 15; refine HT.out.mono ?_; rintro e w' ⟨rfl, rfl⟩)
  go_loopw [15] (fun i wr => ∃ k : Nat, k ≤ l.length ∧ i = .int .i64 k ∧ Later w wr) (fun i _ => l.length - (intOf i).toNat)
  case atStart => exact ⟨0, Nat.zero_le _, rfl, Later.refl _⟩
  case round =>
    obtain ⟨k, hk, rfl, lat⟩ := hrel
    by_cases hlt : k < l.length
    · obtain ⟨b, off, rfl, c0, c1, c2⟩ := (hr.later lat).val3 k hlt
      obtain ⟨hx, hm⟩ := ho _ (List.getElem_mem hlt)
      rw [hx] at c0 hm
      generalize l[k].2.1 = i at c1 hm
      generalize l[k].2.2 = s at c2 hm
      have HM := Lib.hid hm
      have HS := Lib.hid hs
      have HR := Lib.hid hr
      have HLAT := Lib.hid lat
      clear hm hs hr lat hx ho
      go_wp2_with fail
      have l2 : Later w (wr.alloc (.cells #[.int .i64 t, .int .i64 i, .string s] 26)) := HLAT.out.alloc _
      have HL2 := Lib.hid l2
      refine (may_any t i s a0 a2 a3 a4 _ ((HS.out.below l2).more l2.size)).mono ?_
      rintro e wX ⟨r, hrm, rfl, bX⟩
      have hrt : r = true := hrm.2 HM.out
      subst hrt
      have lX := Lib.hid (HL2.out.trans (Later.of bX))
      clear bX hrm l2
      go_wp2_with fail
      go_roundw
      case rel => exact ⟨k + 1, hlt, by go_num, lX.out⟩
      case measure => simp [intOf]; omega
    · go_wp2_with fail
      go_ret
      exact ⟨rfl, lat⟩

set_option maxRecDepth 100000 in
set_option maxHeartbeats 1000000 in
theorem all_no (t : Int) (A : Option Addr) (c : Nat) (l : List Val3) (a0 a2 a3 a4 : Addr) (w : World) (hs : Sents w w.heap.size a0 a2 a3 a4) (hl : l.length ≤ 1000000) (hr : Has w A (fl l)) (ho : ¬ ((1 ≤ t ∧ t ≤ 4) ∧ OkL t l)) :
    Calls Tryz.prog 86 #[.int .i64 t, .slice A l.length c] w fun e w' => ∃ v, e = .returned v ∧ Where v ∧ Later w w' := by
  have hif : Tryz.prog.isIface 40 = true := by kernel_rfl
  by_cases ht : 1 ≤ t ∧ t ≤ 4
  · have HT := Lib.hid (type_yes t w ht)
    have HO := Lib.hid (show ¬ OkL t l from fun h => ho ⟨ht, h⟩)
    clear ho
    go_enter Tryz.func86, Tryz.ntmps86
    go_wp2_with (go_at_call 15; refine HT.out.mono ?_; rintro e w' ⟨rfl, rfl⟩)
    go_loopw [15] (fun i wr => ∃ k : Nat, k ≤ l.length ∧ i = .int .i64 k ∧ OkL t (l.take k) ∧ Later w wr) (fun i _ => l.length - (intOf i).toNat)
    case atStart => exact ⟨0, Nat.zero_le _, rfl, by intro x hx; simp at hx, Later.refl _⟩
    case round =>
      obtain ⟨k, hk, rfl, hok, lat⟩ := hrel
      by_cases hlt : k < l.length
      · obtain ⟨b, off, rfl, c0, c1, c2⟩ := (hr.later lat).val3 k hlt
        have HK := Lib.hid (show (l[k].1 = t ∧ MayV l[k].1 l[k].2.1 l[k].2.2.size) → OkL t (l.take (k + 1)) from fun h x hx => by
          rw [List.take_succ_eq_append_getElem hlt] at hx
          rcases List.mem_append.1 hx with hx | hx
          · exact hok x hx
          · rw [List.mem_singleton] at hx; rw [hx]; exact h)
        generalize l[k].1 = t' at c0 HK
        generalize l[k].2.1 = i at c1 HK
        generalize l[k].2.2 = s at c2 HK
        have HS := Lib.hid hs
        have HR := Lib.hid hr
        have HLAT := Lib.hid lat
        have l2 : Later w (wr.alloc (.cells #[.int .i64 t', .int .i64 i, .string s] 26)) := HLAT.out.alloc _
        have HL2 := Lib.hid l2
        have HS2 := Lib.hid ((HS.out.below l2).more l2.size)
        have hval := HS2.out.value
        clear hs hr lat hok l2
        by_cases he : t' = t
        · subst he
          go_wp2_with fail
          refine (may_any t' i s a0 a2 a3 a4 _ HS2.out).mono ?_
          rintro e wX ⟨r, hrm, rfl, bX⟩
          have lX := Lib.hid (HL2.out.trans (Later.of bX))
          have hv2 := (HS.out.below lX.out).value
          clear bX
          cases r with
          | true =>
            have HM := Lib.hid (HK.out ⟨by first | rfl | trivial, hrm.1 rfl⟩)
            clear hrm
            go_wp2_with fail
            go_roundw
            case rel => exact ⟨k + 1, hlt, by go_num, HM.out, lX.out⟩
            case measure => simp [intOf]; omega
          | false =>
            clear hrm hval
            go_wp2_with (go_at_call 27; refine (at_any _ _ _ _ _ rfl).mono ?_; rintro e w' ⟨rfl, rfl⟩)
            go_ret
            first
              | exact ⟨_, rfl, ⟨_, rfl⟩, lX.out.alloc _⟩
              | exact ⟨_, ⟨rfl, trivial⟩, ⟨_, rfl⟩, lX.out.alloc _⟩
        · have hbe : ((t' : Int) != t) = true := by simp [he]
          go_wp2_with (go_at_call 27; refine (at_any _ _ _ _ _ rfl).mono ?_; rintro e w' ⟨rfl, rfl⟩)
          go_ret
          exact ⟨_, rfl, ⟨_, rfl⟩, HL2.out.alloc _⟩
      · exact absurd (by rw [List.take_of_length_le (by omega)] at hok; exact hok) HO.out
  · have HT := Lib.hid (type_no t w ht ⟨a4, hs.type⟩)
    clear ho hs
    go_enter Tryz.func86, Tryz.ntmps86
    go_wp2_with fail
    refine HT.out.mono ?_
    rintro e w2 ⟨v, rfl, ⟨p, rfl⟩, L⟩
    have heq := run_eql_iface_nil (P := Tryz.prog) (w := w2) 40 hif 82 (.pointer (some p))
    go_wp2_with fail
    go_ret
    exact ⟨_, rfl, ⟨_, rfl⟩, L⟩
end Go.Proofs.YtldalkhmbpkjpaaGreatDoor

namespace Go.Proofs.YtldalkhmbpkjpaaGreatDoor
open Go.RowKit
set_option linter.unusedVariables false

abbrev vagg (t i : Int) (s : ByteArray) : Value := .agg #[.int .i64 t, .int .i64 i, .string s]
theorem own_mono {w : World} {base base' : Nat} {e : TypeId} {v : Value} {n : Nat} {xs : List Value} (h : w.ownsRow base e 1 v n xs) (hb : base' ≤ base) : w.ownsRow base' e 1 v n xs := by
  obtain ⟨h1, h2⟩ := h
  refine ⟨h1, ?_⟩
  rcases h2 with h2 | ⟨g, cap, cur, ha, hb2, hrest⟩
  · exact .inl h2
  · exact .inr ⟨g, cap, cur, ha, Nat.le_trans hb hb2, hrest⟩
/-- A call that gives bytes of its own. -/
def Gives (l : List Nat) (w : World) (e : Ending) (w' : World) : Prop :=
  ∃ A c, e = .returned (.slice A l.length c) ∧ Has w' A (ints .u8 l) ∧ l.length ≤ c ∧ c ≤ 9223372036854775807 ∧ (A = none → c = 0) ∧ Later w w'
theorem own_capmax {w : World} {base : Nat} {e : TypeId} {A : Option Addr} {c : Nat} {n : Nat} {xs : List Value} (h : w.ownsRow base e 1 (.slice A n c) n xs) : c ≤ 9223372036854775807 := by
  rcases h.2 with ⟨h1, rfl⟩ | ⟨g, cap, cur, h1, _, _, _, h2, _⟩
  · injection h1 with _ _ h1; omega
  · injection h1 with _ _ h1
    unfold maxLen at h2
    omega
theorem Makes.gives {l : List Nat} {w : World} {e : Ending} {w' : World} (h : Makes l w e w') : Gives l w e w' := by
  obtain ⟨A, c, rfl, ho, hb, hn⟩ := h
  exact ⟨A, c, rfl, Has.own ho, own_cap ho, own_capmax ho, hn, hb⟩

theorem wpList_append_str {P : Program} (w : World) {ops : Array Oper} {rest : List Oper} {o : Oper} {a : Act} {Q : Exit → Act → World → Prop} (hgd : o.guard = none) (sl x : Operand) (t u : TypeId)
    (ho : o.op = .call { callee := .builtin .append, args := #[sl, x], argTypes := #[t, u] })
    (base : Nat) (e : TypeId) (ht : P.underlying t = some (.slice e)) (hu : P.underlying u = some .string) (hinfo : (P.info? e).map (fun i => (i.zero, i.size, i.bytes)) = some (some (.int .u8 0), 1, 1))
    (v : Value) (n : Nat) (xs : List Value) (hs : a.eval sl = v) (hown : w.ownsRow base e 1 v n xs) (s : ByteArray) (hx : a.eval x = .string s)
    (h63 : n + s.size ≤ maxLen) (hbytes : n + s.size ≤ 140737488355328) (hbase : base ≤ w.heap.size)
    (h : ∀ A' c' w', w'.ownsRow base e 1 (.slice A' (n + s.size) c') (n + s.size) (xs ++ Lib.strCells s) → Below base w w' → (A' = none → c' = 0) → wpList P ops Q rest (a.put o.dst (.slice A' (n + s.size) c')) w') : wpList P ops Q (o :: rest) a w := by
  obtain ⟨i, hi, hz, hsz, hby⟩ := info_parts hinfo
  refine Lib.wpList_append_own_string w hgd sl x t u ho base e i ht hu hi hz hsz hby v n xs hs hown s hx h63 hbytes hbase fun v' w' h2 h3 _ => ?_
  obtain ⟨A', c', hv, hc'⟩ := own_shape h2
  subst hv
  exact h A' c' w' h2 ((Below.refl _ _).grown h3 hbase fun k hk => (hown.lt k hk).1) hc'

theorem conv_str (A : Option Addr) (n c : Nat) (l : List Nat) (hn : n = l.length) (w : World) (B : Nat) (hr : Rd w B A (ints .u8 l)) :
    (convert 22 9 (.slice A n c)).run Tryz.prog w = .ok (.string (bstr l)) w :=
  run_bstr 22 5 9 Tryz.underlying22 Tryz.underlying5 Tryz.underlying9 A n c l hn w B hr
theorem three_blk {w : World} {g : Nat} {cs : Array Value} {t : TypeId} (h : Blk w g cs t) (hs : cs.size = 3) (x y z : Value) : Blk (((w.setCell ⟨g, 0, none⟩ x).setCell ⟨g, 1, none⟩ y).setCell ⟨g, 2, none⟩ z) g #[x, y, z] t := by
  have := ((h.set_ 0 x).set_ 1 y).set_ 2 z
  have e : ((cs.setIfInBounds 0 x).setIfInBounds 1 y).setIfInBounds 2 z = #[x, y, z] := by
    match cs, hs with
    | ⟨[a, b, c]⟩, _ => rfl
  rwa [e] at this
theorem three_later {w w' : World} {g : Nat} (h : Later w w') (hg : w.heap.size ≤ g) (x y z : Value) : Later w (((w'.setCell ⟨g, 0, none⟩ x).setCell ⟨g, 1, none⟩ y).setCell ⟨g, 2, none⟩ z) := ((h.set_ hg _).set_ hg _).set_ hg _
theorem three_far {w : World} {g : Nat} {p : Addr} {v : Value} (h : CellIs w p v) (hne : p.block ≠ g) (x y z : Value) : CellIs (((w.setCell ⟨g, 0, none⟩ x).setCell ⟨g, 1, none⟩ y).setCell ⟨g, 2, none⟩ z) p v := ((h.far hne).far hne).far hne
/-- The worlds that a reader begins in: the box, the result. -/
theorem two_new (w : World) (cs ds : Array Value) (t u : TypeId) : ∃ w1, w1 = (w.alloc (.cells cs t)).alloc (.cells ds u) ∧ Later w w1 ∧ Blk w1 w.heap.size cs t ∧ Blk w1 (w.heap.size + 1) ds u ∧ w1.heap.size = w.heap.size + 2 :=
  ⟨_, rfl, ((Later.refl w).alloc _).alloc _, (Blk.new w cs t _ rfl).later (Later.new _ _), Blk.new _ ds u _ (by simp), by simp⟩
/-- fault.At of a sentinel. -/
theorem at_l (s : ByteArray) (p : Int) (x : Value) (w : World) :
    Calls Tryz.prog 27 #[.string s, .int .i64 p, .iface 164 x] w fun r w' => ∃ q, r = .returned (.iface 82 (.pointer (some q))) ∧ Later w w' :=
  (at_any s p _ x w rfl).mono fun r w' ⟨h1, h2⟩ => ⟨_, h1, h2 ▸ Later.new _ _⟩
/-- fault.At of an error of fault.At. -/
theorem at_w (s : ByteArray) (p : Int) (x : Addr) (w : World) :
    Calls Tryz.prog 27 #[.string s, .int .i64 p, .iface 82 (.pointer (some x))] w fun r w' => ∃ q, r = .returned (.iface 82 (.pointer (some q))) ∧ Later w w' := by
  have hif : Tryz.prog.isIface 40 = true := by kernel_rfl
  have heq := run_eql_iface_nil (P := Tryz.prog) (w := w.alloc (.cells #[.iface 82 (.pointer (some x))] 40)) 40 hif 82 (.pointer (some x))
  have heq2 := run_eql_iface_nil (P := Tryz.prog) (w := w) 40 hif 82 (.pointer (some x))
  go_enter Tryz.func27, Tryz.ntmps27
  go_wp2
  go_ret
  exact ⟨_, rfl, Later.new _ _⟩
/-- The six sentinels. -/
structure S6 (w : World) : Prop where
  sn : ∃ a0 a2 a3 a4, Sents w w.heap.size a0 a2 a3 a4
  num : ∃ a, Sent w w.heap.size a
  spare : CSent w 4
theorem S6.later {w w' : World} (h : S6 w) (l : Later w w') : S6 w' := by
  obtain ⟨⟨a0, a2, a3, a4, h1⟩, ⟨a, h2⟩, h3⟩ := h
  exact ⟨⟨a0, a2, a3, a4, (h1.below l).more l.size⟩, ⟨a, (h2.below l).cell, Nat.lt_of_lt_of_le h2.lt l.size⟩, h3.later l⟩
theorem S6.short {w : World} (h : S6 w) : CSent w 2 := by obtain ⟨⟨a0, a2, a3, a4, h1⟩, _⟩ := h; exact ⟨_, h1.short⟩
theorem S6.value {w : World} (h : S6 w) : CSent w 1 := by obtain ⟨⟨a0, a2, a3, a4, h1⟩, _⟩ := h; exact ⟨_, h1.value⟩
theorem S6.bound {w : World} (h : S6 w) : CSent w 3 := by obtain ⟨⟨a0, a2, a3, a4, h1⟩, _⟩ := h; exact ⟨_, h1.bound⟩
theorem S6.type {w : World} (h : S6 w) : CSent w 0 := by obtain ⟨⟨a0, a2, a3, a4, h1⟩, _⟩ := h; exact ⟨_, h1.type⟩
theorem readC_num {t : Int} {b : List Nat} (ht : t = 1 ∨ t = 2) : readC t b = (match takeNum b with | some (u, n) => some (zag u, [], n) | none => none) := by unfold readC; rw [if_pos ht]; rcases takeNum b with _ | ⟨u, n⟩ <;> rfl
theorem takeR_some {b : List Nat} {v n : Nat} {ok : Bool} (h : takeR b = (v, n, ok)) : (ok = true ∧ takeNum b = some (v, n)) ∨ (ok = false ∧ takeNum b = none) := by
  unfold takeR at h
  split at h
  · rename_i hT
    cases h
    exact .inl ⟨rfl, hT⟩
  · rename_i hT
    cases h
    exact .inr ⟨rfl, hT⟩

end Go.Proofs.YtldalkhmbpkjpaaGreatDoor

/- Lists that calls give; fault.List; the reference's SameValues. -/

namespace Go.Proofs.YtldalkhmbpkjpaaGreatDoor
open Go.RowKit
set_option linter.unusedVariables false

instance (t : Int) (l : List Val3) : Decidable (OkL t l) := by unfold OkL; infer_instance
theorem own_later {w w' : World} {base : Nat} {e : TypeId} {k : Nat} {v : Value} {n : Nat} {xs : List Value} (h : w.ownsRow base e k v n xs) (l : Later w w') : w'.ownsRow base e k v n xs := by
  obtain ⟨h1, h2⟩ := h
  refine ⟨h1, ?_⟩
  rcases h2 with h2 | ⟨g, cap, cur, ha, hb, hg, hrest⟩
  · exact .inl h2
  · refine .inr ⟨g, cap, cur, ha, hb, (Below.block l g ?_).trans hg, hrest⟩
    rcases Nat.lt_or_ge g w.heap.size with h' | h'
    · exact h'
    · rw [Array.getElem?_eq_none h'] at hg; cases hg

/-- What a call tells that gives a list, or an error. -/
def WritesB (o : Option (List Nat)) (w : World) (e : Ending) (w' : World) : Prop :=
  ((o = none ∧ ∃ p, e = .returned (.tuple #[.slice none 0 0, .iface 82 (.pointer (some p))])) ∨
    ∃ l A c, o = some l ∧ e = .returned (.tuple #[.slice A l.length c, .nilIface]) ∧ Has w' A (ints .u8 l) ∧ l.length ≤ c ∧ c ≤ 9223372036854775807 ∧ (A = none → c = 0)) ∧ Later w w'
def WritesV (o : Option (List Val3)) (w : World) (e : Ending) (w' : World) : Prop :=
  ((o = none ∧ ∃ p, e = .returned (.tuple #[.slice none 0 0, .iface 82 (.pointer (some p))])) ∨
    ∃ l A c, o = some l ∧ e = .returned (.tuple #[.slice A l.length c, .nilIface]) ∧ Has w' A (fl l) ∧ l.length ≤ c ∧ c ≤ 9223372036854775807) ∧ Later w w'
/-- What a face tells: a list, or a no. -/
def PutsB (o : Option (List Nat)) (w : World) (e : Ending) (w' : World) : Prop :=
  ((o = none ∧ e = .returned (.tuple #[.slice none 0 0, .bool false])) ∨
    ∃ l A c, o = some l ∧ e = .returned (.tuple #[.slice A l.length c, .bool true]) ∧ Has w' A (ints .u8 l) ∧ l.length ≤ c ∧ c ≤ 9223372036854775807 ∧ (A = none → c = 0)) ∧ Later w w'
def PutsV (o : Option (List Val3)) (w : World) (e : Ending) (w' : World) : Prop :=
  ((o = none ∧ e = .returned (.tuple #[.slice none 0 0, .bool false])) ∨
    ∃ l A c, o = some l ∧ e = .returned (.tuple #[.slice A l.length c, .bool true]) ∧ Has w' A (fl l)) ∧ Later w w'
/-- .. with the row's room. -/
def TakesV (o : Option (List Val3)) (w : World) (e : Ending) (w' : World) : Prop :=
  ((o = none ∧ e = .returned (.tuple #[.slice none 0 0, .bool false])) ∨
    ∃ l A c, o = some l ∧ e = .returned (.tuple #[.slice A l.length c, .bool true]) ∧ Has w' A (fl l) ∧ l.length ≤ c ∧ c ≤ 9223372036854775807) ∧ Later w w'
theorem TakesV.puts {o : Option (List Val3)} {w w' : World} {e : Ending} (h : TakesV o w e w') : PutsV o w e w' := by
  obtain ⟨h | ⟨l, A, c, h1, h2, h3, _⟩, L⟩ := h
  · exact ⟨.inl h, L⟩
  · exact ⟨.inr ⟨l, A, c, h1, h2, h3⟩, L⟩
theorem PutsB.no {o : Option (List Nat)} {w w' : World} {e : Ending} (h : PutsB o w e w') (hn : o = none) : e = .returned (.tuple #[.slice none 0 0, .bool false]) ∧ Later w w' := by
  obtain ⟨⟨_, h⟩ | ⟨l, A, c, h, _⟩, L⟩ := h
  · exact ⟨h, L⟩
  · rw [hn] at h; cases h
theorem PutsB.yes {o : Option (List Nat)} {w w' : World} {e : Ending} {l : List Nat} (h : PutsB o w e w') (hs : o = some l) : ∃ A c, e = .returned (.tuple #[.slice A l.length c, .bool true]) ∧ Has w' A (ints .u8 l) ∧ l.length ≤ c ∧ c ≤ 9223372036854775807 ∧ (A = none → c = 0) ∧ Later w w' := by
  obtain ⟨⟨h, _⟩ | ⟨l', A, c, h, h1, h2, h3, h4, h5⟩, L⟩ := h
  · rw [hs] at h; cases h
  · rw [hs] at h; cases h; exact ⟨A, c, h1, h2, h3, h4, h5, L⟩
theorem PutsV.no {o : Option (List Val3)} {w w' : World} {e : Ending} (h : PutsV o w e w') (hn : o = none) : e = .returned (.tuple #[.slice none 0 0, .bool false]) ∧ Later w w' := by
  obtain ⟨⟨_, h⟩ | ⟨l, A, c, h, _⟩, L⟩ := h
  · exact ⟨h, L⟩
  · rw [hn] at h; cases h
theorem PutsV.yes {o : Option (List Val3)} {w w' : World} {e : Ending} {l : List Val3} (h : PutsV o w e w') (hs : o = some l) : ∃ A c, e = .returned (.tuple #[.slice A l.length c, .bool true]) ∧ Has w' A (fl l) ∧ Later w w' := by
  obtain ⟨⟨h, _⟩ | ⟨l', A, c, h, h1, h2⟩, L⟩ := h
  · rw [hs] at h; cases h
  · rw [hs] at h; cases h; exact ⟨A, c, h1, h2, L⟩

theorem listB_yes (A : Option Addr) (n c : Nat) (w : World) : Calls Tryz.prog 17 #[.slice A n c, .nilIface] w fun e w' => e = .returned (.tuple #[.slice A n c, .bool true]) ∧ w = w' := by
  go_enter Tryz.func17, Tryz.ntmps17
  go_wp2_with fail
  go_ret2
  exact ⟨rfl, rfl⟩
theorem listB_no (A : Option Addr) (n c : Nat) (p : Addr) (w : World) : Calls Tryz.prog 17 #[.slice A n c, .iface 82 (.pointer (some p))] w fun e w' => e = .returned (.tuple #[.slice none 0 0, .bool false]) ∧ w = w' := by
  have hif : Tryz.prog.isIface 40 = true := by kernel_rfl
  have heq := run_eql_iface_nil (P := Tryz.prog) (w := w) 40 hif 82 (.pointer (some p))
  go_enter Tryz.func17, Tryz.ntmps17
  go_wp2_with fail
  go_ret2
  exact ⟨rfl, rfl⟩
theorem listV_yes (A : Option Addr) (n c : Nat) (w : World) : Calls Tryz.prog 79 #[.slice A n c, .nilIface] w fun e w' => e = .returned (.tuple #[.slice A n c, .bool true]) ∧ w = w' := by
  go_enter Tryz.func79, Tryz.ntmps79
  go_wp2_with fail
  go_ret2
  exact ⟨rfl, rfl⟩
theorem listV_no (A : Option Addr) (n c : Nat) (p : Addr) (w : World) : Calls Tryz.prog 79 #[.slice A n c, .iface 82 (.pointer (some p))] w fun e w' => e = .returned (.tuple #[.slice none 0 0, .bool false]) ∧ w = w' := by
  have hif : Tryz.prog.isIface 40 = true := by kernel_rfl
  have heq := run_eql_iface_nil (P := Tryz.prog) (w := w) 40 hif 82 (.pointer (some p))
  go_enter Tryz.func79, Tryz.ntmps79
  go_wp2_with fail
  go_ret2
  exact ⟨rfl, rfl⟩

theorem info_v : (Tryz.prog.info? 26).map (fun i => (i.zero, i.size, i.bytes)) = some (some (vagg 0 0 ⟨#[]⟩), 3, 32) := by kernel_rfl
theorem Blk.has {w : World} {g : Nat} {cs : List Value} {t : TypeId} (h : Blk w g cs.toArray t) : Has w (some ⟨g, 0, none⟩) cs :=
  .inr ⟨g, 0, rfl, h.lt, fun k v hv => by rw [Nat.zero_add]; exact h.cell k v (by simpa using hv)⟩
theorem map_step {o : Option (List Val3)} (d : List Val3) (x : Val3) : (o.map fun l => x :: l).map (fun l => d ++ l) = o.map fun l => (d ++ [x]) ++ l := by
  cases o with
  | none => rfl
  | some l => simp

theorem bytes_ne {a b : ByteArray} (h : a ≠ b) : (a.toList == b.toList) = false := by
  rw [beq_eq_false_iff_ne, Lib.toList_data, Lib.toList_data]
  intro e
  apply h
  cases a; cases b
  congr 1
  exact Array.ext' e
def TellsP (p : Prop) (w : World) (e : Ending) (w' : World) : Prop := ∃ r : Bool, (r = true ↔ p) ∧ e = .returned (.bool r) ∧ Later w w'
theorem TellsP.yes {p : Prop} (hp : p) {w w' : World} {e : Ending} (h : TellsP p w e w') : e = .returned (.bool true) ∧ Later w w' := by
  obtain ⟨r, hr, rfl, l⟩ := h
  rw [hr.2 hp]; exact ⟨rfl, l⟩
theorem TellsP.no {p : Prop} (hp : ¬ p) {w w' : World} {e : Ending} (h : TellsP p w e w') : e = .returned (.bool false) ∧ Later w w' := by
  obtain ⟨r, hr, rfl, l⟩ := h
  cases r
  · exact ⟨rfl, l⟩
  · exact absurd (hr.1 rfl) hp
theorem TellsP.t {p : Prop} (hp : p) {w w' : World} (l : Later w w') : TellsP p w (.returned (.bool true)) w' := ⟨true, by simp [hp], rfl, l⟩
theorem TellsP.f {p : Prop} (hp : ¬ p) {w w' : World} (l : Later w w') : TellsP p w (.returned (.bool false)) w' := ⟨false, by simp [hp], rfl, l⟩

set_option maxRecDepth 100000 in
set_option maxHeartbeats 1000000 in
theorem sameValues_len (A B : Option Addr) (n ca cb : Nat) (a b : List Val3) (w : World) (hna : a.length = n) (hnb : b.length = n) (ha : Has w A (fl a)) (hb : Has w B (fl b)) (hl : n ≤ 100000) :
    Calls Tryz.prog 13 #[.slice A n ca, .slice B n cb] w (TellsP (a = b) w) := by
  have HNA := Lib.hid hna
  have HNB := Lib.hid hnb
  clear hna hnb
  go_enter Tryz.func13, Tryz.ntmps13
  go_wp2_with fail
  go_loopw [5] (fun i wr => ∃ j : Nat, j ≤ n ∧ i = .int .i64 j ∧ a.take j = b.take j ∧ Later w wr) (fun i _ => n - (intOf i).toNat)
  case atStart => exact ⟨0, Nat.zero_le _, rfl, by simp, Later.refl _⟩
  case round =>
    obtain ⟨j, hj, rfl, heq, lat⟩ := hrel
    by_cases hlt : j < n
    · have hj1 : j < a.length := by have := HNA.out; omega
      have hj2 : j < b.length := by have := HNB.out; omega
      obtain ⟨b1, o1, rfl, c0, c1, c2⟩ := (ha.later lat).val3 j hj1
      obtain ⟨b2, o2, rfl, d0, d1, d2⟩ := (hb.later lat).val3 j hj2
      have HEQ := Lib.hid (fun (h : a[j] = b[j]) => show a.take (j + 1) = b.take (j + 1) by
        rw [List.take_succ_eq_append_getElem hj1, List.take_succ_eq_append_getElem hj2, heq, h])
      have HNE := Lib.hid (fun (h : a[j] ≠ b[j]) => show a ≠ b from fun e => h (by subst e; rfl))
      generalize a[j] = x at c0 c1 c2 HEQ HNE
      generalize b[j] = y at d0 d1 d2 HEQ HNE
      obtain ⟨t, i, s⟩ := x
      obtain ⟨t', i', s'⟩ := y
      dsimp only at c0 c1 c2 d0 d1 d2
      have LAT := Lib.hid lat
      clear lat heq ha hb
      by_cases h1 : t = t'
      · subst h1
        by_cases h2 : i = i'
        · subst h2
          by_cases h3 : s = s'
          · subst h3
            go_wp2_with fail
            go_quiet (fail)
            go_wp2_with fail
            go_roundw
            case rel => exact ⟨j + 1, hlt, by go_num, HEQ.out trivial, (LAT.out.drewN _)⟩
            case measure => simp [intOf]; omega
          · have e3 := bytes_ne h3
            have HX := Lib.hid (HNE.out (by simp [h3]))
            go_wp2_with fail
            go_quiet (fail)
            go_wp2_with fail
            go_ret
            exact TellsP.f HX.out (LAT.out.drewN _)
        · have e2 : (i == i') = false := by simp [h2]
          have HX := Lib.hid (HNE.out (by simp [h2]))
          go_wp2_with fail
          go_quiet (fail)
          go_wp2_with fail
          go_ret
          exact TellsP.f HX.out (LAT.out.drewN _)
      · have e1 : (t == t') = false := by simp [h1]
        have HX := Lib.hid (HNE.out (by simp [h1]))
        go_wp2_with fail
        go_quiet (fail)
        go_wp2_with fail
        go_ret
        exact TellsP.f HX.out (LAT.out.drewN _)
    · have HEQ := Lib.hid (show a = b by rw [List.take_of_length_le (by have := HNA.out; omega), List.take_of_length_le (by have := HNB.out; omega)] at heq; exact heq)
      have LAT := Lib.hid lat
      clear lat heq ha hb
      go_wp2_with fail
      go_ret
      exact TellsP.t HEQ.out LAT.out

set_option maxRecDepth 100000 in
theorem sameValues_any (A B : Option Addr) (ca cb : Nat) (a b : List Val3) (w : World) (ha : Has w A (fl a)) (hb : Has w B (fl b)) (hl : a.length ≤ 100000) (hl2 : b.length ≤ 100000) :
    Calls Tryz.prog 13 #[.slice A a.length ca, .slice B b.length cb] w (TellsP (a = b) w) := by
  by_cases hlen : a.length = b.length
  · rw [hlen]
    exact sameValues_len A B b.length ca cb a b w hlen rfl ha hb hl2
  · have hd : ((a.length : Int) != b.length) = true := by simp; omega
    clear ha hb
    go_enter Tryz.func13, Tryz.ntmps13
    go_wp2_with fail
    go_ret
    exact TellsP.f (fun h => hlen (by rw [h])) (Later.refl _)
end Go.Proofs.YtldalkhmbpkjpaaGreatDoor

/- Package cell: Put. -/

namespace Go.Proofs.YtldalkhmbpkjpaaGreatDoor
open Go.RowKit
set_option linter.unusedVariables false


set_option maxRecDepth 100000 in
theorem cellPut_num (t i : Int) (s : ByteArray) (w : World) (ht : t = 1 ∨ t = 2) (h0 : -9223372036854775808 ≤ i) (h1 : i ≤ 9223372036854775807) :
    Calls Tryz.prog 89 #[.agg #[.int .i64 t, .int .i64 i, .string s]] w (Makes (putNum (zig i)) w) := by
  have h4 : t ≠ 4 := by omega
  have h3 : t ≠ 3 := by omega
  have hb : Below w.heap.size w (w.alloc (.cells #[.int .i64 t, .int .i64 i, .string s] 26)) := (Below.refl _ _).alloc (Nat.le_refl _) _
  have HB := Lib.hid hb
  have hz := zig_lt i h0 h1
  clear ht hb
  go_enter Tryz.func89, Tryz.ntmps89
  go_wp2_with (go_at_call 96; refine (zig_any i _ h0 h1).mono ?_; rintro e w' ⟨rfl, rfl⟩)
  refine (put_makes (zig i) hz _).mono ?_
  rintro e w2 ⟨A, c, rfl, o, b, n⟩
  have O := Lib.hid (show w2.ownsRow w.heap.size 5 1 (.slice A (putNum (zig i)).length c) (putNum (zig i)).length (ints .u8 (putNum (zig i))) from by
    obtain ⟨p1, p2⟩ := o
    refine ⟨p1, ?_⟩
    rcases p2 with p2 | ⟨g, cap, cur, ha, hb2, hrest⟩
    · exact .inl p2
    · exact .inr ⟨g, cap, cur, ha, Nat.le_trans HB.out.size hb2, hrest⟩)
  have B := Lib.hid (HB.out.trans (b.mono HB.out.size))
  have NN := Lib.hid n
  clear o b n
  go_wp2_with fail
  go_ret
  exact ⟨A, c, rfl, O.out, B.out, NN.out⟩

set_option maxRecDepth 100000 in
theorem cellPut_truth (i : Int) (s : ByteArray) (u : Nat) (w : World) (hi : i = (u : Int)) (hu : u < 256) :
    Calls Tryz.prog 89 #[.agg #[.int .i64 3, .int .i64 i, .string s]] w (Makes [u] w) := by
  subst hi
  obtain ⟨w1, hw1⟩ : ∃ w1 : World, w.alloc (.cells #[.int .i64 3, .int .i64 (u : Int), .string s] 26) = w1 := ⟨_, rfl⟩
  have b1 : Below w.heap.size w w1 := hw1 ▸ (Below.refl _ _).alloc (Nat.le_refl _) _
  have c1 : w1.cell? ⟨w.heap.size, 1, none⟩ = some (.int .i64 (u : Int)) := by rw [← hw1, World.cell?_alloc_at _ _ _ _ rfl]; rfl
  have c0 : w1.cell? ⟨w.heap.size, 0, none⟩ = some (.int .i64 3) := by rw [← hw1, World.cell?_alloc_at _ _ _ _ rfl]; rfl
  have hwr : IntKind.u8.wrap (u : Int) = (u : Int) := by rw [IntKind.wrap_u8]; omega
  have HW := Lib.hid hw1
  have HB := Lib.hid b1
  have O := Lib.hid ((Row.lit w1 5 .u8 [u]).own (base := w.heap.size) b1.size (by simp [maxLen]))
  clear hw1 b1 c0 c1
  go_enter Tryz.func89, Tryz.ntmps89
  go_wp2_with fail
  go_ret
  have e := HW.out
  subst e
  have h := O.out
  rw [show (w.alloc (.cells #[.int .i64 3, .int .i64 (u : Int), .string s] 26)).heap.size = w.heap.size + 1 by simp] at h
  exact ⟨_, _, rfl, h, HB.out.alloc HB.out.size _, by intro h; cases h⟩


set_option maxRecDepth 100000 in
theorem cellPut_text (i : Int) (s : ByteArray) (w : World) (hs : s.size ≤ 20) :
    Calls Tryz.prog 89 #[vagg 4 i s] w (Makes (s.size :: nums s) w) := by
  have hz : (w.alloc (.cells #[.int .i64 4, .int .i64 i, .string s] 26)).heap.size = w.heap.size + 1 := by simp
  have b1 : Below w.heap.size w (w.alloc (.cells #[.int .i64 4, .int .i64 i, .string s] 26)) := (Below.refl _ _).alloc (Nat.le_refl _) _
  have hwr : IntKind.u8.wrap (s.size : Int) = (s.size : Int) := by rw [IntKind.wrap_u8]; omega
  have HO := Lib.hid (show ((w.alloc (.cells #[.int .i64 4, .int .i64 i, .string s] 26)).alloc (.cells (ints .u8 [s.size]).toArray 5)).ownsRow w.heap.size 5 1 (.slice (some ⟨w.heap.size + 1, 0, none⟩) 1 1) 1 (ints .u8 [s.size]) from by
    have h := (Row.lit (w.alloc (.cells #[.int .i64 4, .int .i64 i, .string s] 26)) 5 .u8 [s.size]).own (base := w.heap.size) b1.size (by simp [maxLen])
    rw [hz] at h
    exact h)
  have B2 := Lib.hid ((b1.alloc b1.size (.cells (ints .u8 [s.size]).toArray 5)))
  clear b1 hz
  go_enter Tryz.func89, Tryz.ntmps89
  go_wp2_with (at_builtin; refine wpList_append_str _ rfl (.tmp 11) (.tmp 13) 22 9 rfl w.heap.size 5 Tryz.underlying22 Tryz.underlying9 info_u8 _ 1 (ints .u8 [s.size]) rfl HO.out s rfl ?_ ?_ ?_ ?_; (unfold maxLen; omega); omega; (exact B2.out.size); intro A2 c2 w5 o2 b2 n2; have HO2 := Lib.hid o2; have HB5 := Lib.hid b2; have HN2 := Lib.hid n2; clear o2 b2 n2)
  go_ret
  have hl : (s.size :: nums s).length = 1 + s.size := by rw [List.length_cons, nums_length]; omega
  have h := HO2.out
  rw [strCells_nums] at h
  refine ⟨A2, c2, by rw [hl]; rfl, by rw [hl]; exact h, B2.out.trans HB5.out, HN2.out⟩

/-- Put, of a value that may be. -/
theorem cellPut_any (t i : Int) (s : ByteArray) (w : World) (ht : 1 ≤ t ∧ t ≤ 4) (hm : MayV t i s.size) (h64 : In64 i) :
    Calls Tryz.prog 89 #[vagg t i s] w (Gives (oneB t i s) w) := by
  unfold oneB
  by_cases h4 : t = 4
  · subst h4
    rw [if_pos rfl]
    exact (cellPut_text i s w (by unfold MayV at hm; omega)).mono fun _ _ h => h.gives
  · rw [if_neg h4]
    by_cases h3 : t = 3
    · subst h3
      rw [if_pos rfl]
      exact (cellPut_truth i s i.toNat w (by unfold MayV at hm; omega) (by unfold MayV at hm; omega)).mono fun _ _ h => h.gives
    · rw [if_neg h3]
      exact (cellPut_num t i s w (by omega) h64.1 h64.2).mono fun _ _ h => h.gives
end Go.Proofs.YtldalkhmbpkjpaaGreatDoor

/- Walks of bytes.Equal; of package cell: Same. -/

namespace Go.Proofs.YtldalkhmbpkjpaaGreatDoor
open Go.RowKit
set_option linter.unusedVariables false

theorem bytesEq_yes (A B : Option Addr) (n m ca cb : Nat) (a : List Nat) (w : World) (hn : n = a.length) (hm : m = a.length) (ha : Has w A (ints .u8 a)) (hb : Has w B (ints .u8 a)) :
    Calls Tryz.prog 123 #[.slice A n ca, .slice B m cb] w fun e w' => e = .returned (.bool true) ∧ w = w' := by
  have c1 := conv_str A n ca a hn w _ ha
  have c2 := conv_str B m cb a hm w _ hb
  clear ha hb hn hm
  go_enter Tryz.func123, Tryz.ntmps123
  go_wp2_with fail
  go_ret
  exact ⟨rfl, rfl⟩
theorem bytesEq_no (A B : Option Addr) (n m ca cb : Nat) (a b : List Nat) (w : World) (hn : n = a.length) (hm : m = b.length) (ha : Has w A (ints .u8 a)) (hb : Has w B (ints .u8 b)) (h1 : ∀ x ∈ a, x < 256) (h2 : ∀ x ∈ b, x < 256) (hne : a ≠ b) :
    Calls Tryz.prog 123 #[.slice A n ca, .slice B m cb] w fun e w' => e = .returned (.bool false) ∧ w = w' := by
  have c1 := conv_str A n ca a hn w _ ha
  have c2 := conv_str B m cb b hm w _ hb
  have hbn := bstr_ne h1 h2 hne
  clear ha hb hn hm h1 h2 hne
  go_enter Tryz.func123, Tryz.ntmps123
  go_wp2_with fail
  go_ret
  exact ⟨rfl, rfl⟩
theorem cellSame_yes (L B X : Option Addr) (n cl m cb mx cx : Nat) (b : List Nat) (w : World) (hm : m = b.length) (hx : mx = b.length) (hb : Has w B (ints .u8 b)) (hX : Has w X (ints .u8 b)) :
    Calls Tryz.prog 105 #[.slice L n cl, .slice B m cb, .slice X mx cx, .nilIface] w fun e w' => e = .returned (.tuple #[.slice L n cl, .nilIface]) ∧ w = w' := by
  have HE := Lib.hid (bytesEq_yes X B mx m cx cb b w hx hm hX hb)
  clear hb hX hm hx
  go_enter Tryz.func105, Tryz.ntmps105
  go_wp2_with (go_at_call 123; refine HE.out.mono ?_; rintro e w' ⟨rfl, rfl⟩)
  go_ret2
  exact ⟨rfl, rfl⟩
theorem cellSame_no (L B X : Option Addr) (n cl m cb mx cx : Nat) (b x : List Nat) (w : World) (hs : S6 w) (hm : m = b.length) (hx : mx = x.length) (hb : Has w B (ints .u8 b)) (hX : Has w X (ints .u8 x)) (h1 : ∀ y ∈ x, y < 256) (h2 : ∀ y ∈ b, y < 256) (hne : x ≠ b) :
    Calls Tryz.prog 105 #[.slice L n cl, .slice B m cb, .slice X mx cx, .nilIface] w fun e w' => (∃ p, e = .returned (.tuple #[.slice none 0 0, .iface 82 (.pointer (some p))])) ∧ Later w w' := by
  have hif : Tryz.prog.isIface 40 = true := by kernel_rfl
  have HE := Lib.hid (bytesEq_no X B mx m cx cb x b w hx hm hX hb h1 h2 hne)
  obtain ⟨sv, hsv⟩ := hs.spare
  clear hb hX hm hx hs h1 h2 hne
  go_enter Tryz.func105, Tryz.ntmps105
  go_wp2_with (first
    | (go_at_call 123; refine HE.out.mono ?_; rintro e w' ⟨rfl, rfl⟩)
    | (go_at_call 27; refine (at_l _ _ _ _).mono ?_; rintro e w3 ⟨q, rfl, l3⟩; have heq := run_eql_iface_nil (P := Tryz.prog) (w := w3) 40 hif 82 (.pointer (some q))))
  go_ret2
  exact ⟨⟨q, rfl⟩, l3⟩
theorem cellSame_err (L B X : Option Addr) (n cl m cb mx cx : Nat) (p : Addr) (w : World) :
    Calls Tryz.prog 105 #[.slice L n cl, .slice B m cb, .slice X mx cx, .iface 82 (.pointer (some p))] w fun e w' => e = .returned (.tuple #[.slice none 0 0, .iface 82 (.pointer (some p))]) ∧ w = w' := by
  have hif : Tryz.prog.isIface 40 = true := by kernel_rfl
  have heq := run_eql_iface_nil (P := Tryz.prog) (w := w) 40 hif 82 (.pointer (some p))
  go_enter Tryz.func105, Tryz.ntmps105
  go_wp2_with fail
  go_ret2
  exact ⟨rfl, rfl⟩
end Go.Proofs.YtldalkhmbpkjpaaGreatDoor
