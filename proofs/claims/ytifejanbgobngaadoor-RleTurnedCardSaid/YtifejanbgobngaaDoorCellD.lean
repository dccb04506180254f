import Derived.Test.YtifejanbgobngaaDoorNumB
import Derived.Test.YtifejanbgobngaaDoorBase
import Derived.Test.YtifejanbgobngaaDoorPlainMath
import Derived.Lib.AppendStr
/- Walks of package cell: Type, Count. -/

namespace Go.Proofs.YtifejanbgobngaaDoor
open Go.RowKit
set_option linter.unusedVariables false

/-- The sentinel in global g. -/
def CSent (w : World) (g : Nat) : Prop := ∃ a : Addr, w.cell? ⟨g, 0, none⟩ = some (.iface 121 (.pointer (some a)))
theorem CSent.later {w w' : World} {g : Nat} (h : CSent w g) (l : Later w w') : CSent w' g := h.elim fun a h => ⟨a, l.cell h⟩
/-- An error of fault.At. -/
def Where (v : Value) : Prop := ∃ p : Addr, v = .iface 90 (.pointer (some p))

theorem type_yes (t : Int) (w : World) (h : 1 ≤ t ∧ t ≤ 4) :
    Calls Tryd.prog 63 #[.int .i64 t] w fun e w' => e = .returned .nilIface ∧ w = w' := by
  have h1 : ¬ t < 1 := by omega
  have h2 : ¬ 4 < t := by omega
  clear h
  go_enter Tryd.func63, Tryd.ntmps63
  go_wp2_with fail
  go_ret
  exact ⟨rfl, rfl⟩
theorem type_no (t : Int) (w : World) (h : ¬ (1 ≤ t ∧ t ≤ 4)) (hs : CSent w 4) :
    Calls Tryd.prog 63 #[.int .i64 t] w fun e w' => ∃ v, e = .returned v ∧ Where v ∧ Later w w' := by
  obtain ⟨a, hc⟩ := hs
  have L := Lib.hid fun o => Later.new w o
  by_cases h1 : t < 1
  · go_enter Tryd.func63, Tryd.ntmps63
    go_wp2_with (go_at_call 53; refine (at_any _ _ _ _ _ rfl).mono ?_; rintro e w' ⟨rfl, rfl⟩)
    go_ret
    exact ⟨_, rfl, ⟨_, rfl⟩, L.out _⟩
  · have h2 : 4 < t := by omega
    go_enter Tryd.func63, Tryd.ntmps63
    go_wp2_with (go_at_call 53; refine (at_any _ _ _ _ _ rfl).mono ?_; rintro e w' ⟨rfl, rfl⟩)
    go_ret
    exact ⟨_, rfl, ⟨_, rfl⟩, L.out _⟩
theorem count_yes (t n : Int) (w : World) (h : 1 ≤ t ∧ t ≤ 4) (hn : 0 ≤ n ∧ n ≤ 1000) :
    Calls Tryd.prog 51 #[.int .i64 t, .int .i64 n] w fun e w' => e = .returned .nilIface ∧ w = w' := by
  have h1 : ¬ n < 0 := by omega
  have h2 : ¬ 1000 < n := by omega
  have H := Lib.hid (type_yes t w h)
  clear h hn
  go_enter Tryd.func51, Tryd.ntmps51
  go_wp2_with (go_at_call 63; refine H.out.mono ?_; rintro e w' ⟨rfl, rfl⟩)
  go_ret
  exact ⟨rfl, rfl⟩
theorem count_no (t n : Int) (w : World) (h : ¬ ((1 ≤ t ∧ t ≤ 4) ∧ 0 ≤ n ∧ n ≤ 1000)) (hs : CSent w 4) (hb : CSent w 3) :
    Calls Tryd.prog 51 #[.int .i64 t, .int .i64 n] w fun e w' => ∃ v, e = .returned v ∧ Where v ∧ Later w w' := by
  obtain ⟨a, hc⟩ := hb
  have L := Lib.hid fun o => Later.new w o
  by_cases h1 : n < 0
  · go_enter Tryd.func51, Tryd.ntmps51
    go_wp2_with (go_at_call 53; refine (at_any _ _ _ _ _ rfl).mono ?_; rintro e w' ⟨rfl, rfl⟩)
    go_ret
    exact ⟨_, rfl, ⟨_, rfl⟩, L.out _⟩
  · by_cases h2 : 1000 < n
    · go_enter Tryd.func51, Tryd.ntmps51
      go_wp2_with (go_at_call 53; refine (at_any _ _ _ _ _ rfl).mono ?_; rintro e w' ⟨rfl, rfl⟩)
      go_ret
      exact ⟨_, rfl, ⟨_, rfl⟩, L.out _⟩
    · have H := Lib.hid (type_no t w (by omega) hs)
      clear hs hc L
      go_enter Tryd.func51, Tryd.ntmps51
      go_wp2_with (go_at_call 63; refine H.out.mono ?_; rintro e w' ⟨v, rfl, ⟨p, rfl⟩, L⟩)
      go_ret
      exact ⟨_, rfl, ⟨_, rfl⟩, L⟩
end Go.Proofs.YtifejanbgobngaaDoor

/- Walks of package cell: All. -/

namespace Go.Proofs.YtifejanbgobngaaDoor
open Go.RowKit
set_option linter.unusedVariables false


set_option maxRecDepth 100000 in
set_option maxHeartbeats 1000000 in
theorem all_yes (t : Int) (A : Option Addr) (c : Nat) (l : List Val3) (a0 a2 a3 a4 : Addr) (w : World) (hs : Sents w w.heap.size a0 a2 a3 a4) (ht : 1 ≤ t ∧ t ≤ 4) (hl : l.length ≤ 1000000) (hr : Has w A (fl l)) (ho : OkL t l) :
    Calls Tryd.prog 44 #[.int .i64 t, .slice A l.length c] w fun e w' => e = .returned .nilIface ∧ Later w w' := by
  have HT := Lib.hid (type_yes t w ht)
  go_enter Tryd.func44, Tryd.ntmps44
  go_wp2_with (go_at_call 63; refine HT.out.mono ?_; rintro e w' ⟨rfl, rfl⟩)
  go_loopw [15] (fun i wr => ∃ k : Nat, k ≤ l.length ∧ i = .int .i64 k ∧ Later w wr) (fun i _ => l.length - (intOf i).toNat)
  case atStart => exact ⟨0, Nat.zero_le _, rfl, Later.refl _⟩
  case round =>
    obtain ⟨k, hk, rfl, lat⟩ := hrel
    by_cases hlt : k < l.length
    · obtain ⟨b, off, rfl, c0, c1, c2⟩ := (hr.later lat).val3 k hlt
      obtain ⟨hx, hm⟩ := ho _ (List.getElem_mem hlt)
      rw [hx] at c0 hm
      generalize l[k].2.1 = i at c1 hm
      generalize l[k].2.2 = s at c2 hm
      have HM := Lib.hid hm
      have HS := Lib.hid hs
      have HR := Lib.hid hr
      have HLAT := Lib.hid lat
      clear hm hs hr lat hx ho
      go_wp2_with fail
      have l2 : Later w (wr.alloc (.cells #[.int .i64 t, .int .i64 i, .string s] 26)) := HLAT.out.alloc _
      have HL2 := Lib.hid l2
      refine (may_any t i s a0 a2 a3 a4 _ ((HS.out.below l2).more l2.size)).mono ?_
      rintro e wX ⟨r, hrm, rfl, bX⟩
      have hrt : r = true := hrm.2 HM.out
      subst hrt
      have lX := Lib.hid (HL2.out.trans (Later.of bX))
      clear bX hrm l2
      go_wp2_with fail
      go_roundw
      case rel => exact ⟨k + 1, hlt, by go_num, lX.out⟩
      case measure => simp [intOf]; omega
    · go_wp2_with fail
      go_ret
      exact ⟨rfl, lat⟩

set_option maxRecDepth 100000 in
set_option maxHeartbeats 1000000 in
theorem all_no (t : Int) (A : Option Addr) (c : Nat) (l : List Val3) (a0 a2 a3 a4 : Addr) (w : World) (hs : Sents w w.heap.size a0 a2 a3 a4) (hl : l.length ≤ 1000000) (hr : Has w A (fl l)) (ho : ¬ ((1 ≤ t ∧ t ≤ 4) ∧ OkL t l)) :
    Calls Tryd.prog 44 #[.int .i64 t, .slice A l.length c] w fun e w' => ∃ v, e = .returned v ∧ Where v ∧ Later w w' := by
  have hif : Tryd.prog.isIface 50 = true := by kernel_rfl
  by_cases ht : 1 ≤ t ∧ t ≤ 4
  · have HT := Lib.hid (type_yes t w ht)
    have HO := Lib.hid (show ¬ OkL t l from fun h => ho ⟨ht, h⟩)
    clear ho
    go_enter Tryd.func44, Tryd.ntmps44
    go_wp2_with (go_at_call 63; refine HT.out.mono ?_; rintro e w' ⟨rfl, rfl⟩)
    go_loopw [15] (fun i wr => ∃ k : Nat, k ≤ l.length ∧ i = .int .i64 k ∧ OkL t (l.take k) ∧ Later w wr) (fun i _ => l.length - (intOf i).toNat)
    case atStart => exact ⟨0, Nat.zero_le _, rfl, by intro x hx; simp at hx, Later.refl _⟩
    case round =>
      obtain ⟨k, hk, rfl, hok, lat⟩ := hrel
      by_cases hlt : k < l.length
      · obtain ⟨b, off, rfl, c0, c1, c2⟩ := (hr.later lat).val3 k hlt
        have HK := Lib.hid (show (l[k].1 = t ∧ MayV l[k].1 l[k].2.1 l[k].2.2.size) → OkL t (l.take (k + 1)) from fun h x hx => by
          rw [List.take_succ_eq_append_getElem hlt] at hx
          rcases List.mem_append.1 hx with hx | hx
          · exact hok x hx
          · rw [List.mem_singleton] at hx; rw [hx]; exact h)
        generalize l[k].1 = t' at c0 HK
        generalize l[k].2.1 = i at c1 HK
        generalize l[k].2.2 = s at c2 HK
        have HS := Lib.hid hs
        have HR := Lib.hid hr
        have HLAT := Lib.hid lat
        have l2 : Later w (wr.alloc (.cells #[.int .i64 t', .int .i64 i, .string s] 26)) := HLAT.out.alloc _
        have HL2 := Lib.hid l2
        have HS2 := Lib.hid ((HS.out.below l2).more l2.size)
        have hval := HS2.out.value
        clear hs hr lat hok l2
        by_cases he : t' = t
        · subst he
          go_wp2_with fail
          refine (may_any t' i s a0 a2 a3 a4 _ HS2.out).mono ?_
          rintro e wX ⟨r, hrm, rfl, bX⟩
          have lX := Lib.hid (HL2.out.trans (Later.of bX))
          have hv2 := (HS.out.below lX.out).value
          clear bX
          cases r with
          | true =>
            have HM := Lib.hid (HK.out ⟨by first | rfl | trivial, hrm.1 rfl⟩)
            clear hrm
            go_wp2_with fail
            go_roundw
            case rel => exact ⟨k + 1, hlt, by go_num, HM.out, lX.out⟩
            case measure => simp [intOf]; omega
          | false =>
            clear hrm hval
            go_wp2_with (go_at_call 53; refine (at_any _ _ _ _ _ rfl).mono ?_; rintro e w' ⟨rfl, rfl⟩)
            go_ret
            first
              | exact ⟨_, rfl, ⟨_, rfl⟩, lX.out.alloc _⟩
              | exact ⟨_, ⟨rfl, trivial⟩, ⟨_, rfl⟩, lX.out.alloc _⟩
        · have hbe : ((t' : Int) != t) = true := by simp [he]
          go_wp2_with (go_at_call 53; refine (at_any _ _ _ _ _ rfl).mono ?_; rintro e w' ⟨rfl, rfl⟩)
          go_ret
          exact ⟨_, rfl, ⟨_, rfl⟩, HL2.out.alloc _⟩
      · exact absurd (by rw [List.take_of_length_le (by omega)] at hok; exact hok) HO.out
  · have HT := Lib.hid (type_no t w ht ⟨a4, hs.type⟩)
    clear ho hs
    go_enter Tryd.func44, Tryd.ntmps44
    go_wp2_with fail
    refine HT.out.mono ?_
    rintro e w2 ⟨v, rfl, ⟨p, rfl⟩, L⟩
    have heq := run_eql_iface_nil (P := Tryd.prog) (w := w2) 50 hif 90 (.pointer (some p))
    go_wp2_with fail
    go_ret
    exact ⟨_, rfl, ⟨_, rfl⟩, L⟩
end Go.Proofs.YtifejanbgobngaaDoor

/- Walks of package cell: Put of a number and of a truth (a text: to do, by step_append_str). -/

namespace Go.Proofs.YtifejanbgobngaaDoor
open Go.RowKit
set_option linter.unusedVariables false

set_option maxRecDepth 100000 in
theorem cellPut_num (t i : Int) (s : ByteArray) (w : World) (ht : t = 1 ∨ t = 2) (h0 : -9223372036854775808 ≤ i) (h1 : i ≤ 9223372036854775807) :
    Calls Tryd.prog 45 #[.agg #[.int .i64 t, .int .i64 i, .string s]] w (Makes (putNum (zig i)) w) := by
  have h4 : t ≠ 4 := by omega
  have h3 : t ≠ 3 := by omega
  have hb : Below w.heap.size w (w.alloc (.cells #[.int .i64 t, .int .i64 i, .string s] 26)) := (Below.refl _ _).alloc (Nat.le_refl _) _
  have HB := Lib.hid hb
  have hz := zig_lt i h0 h1
  clear ht hb
  go_enter Tryd.func45, Tryd.ntmps45
  go_wp2_with (go_at_call 65; refine (zig_any i _ h0 h1).mono ?_; rintro e w' ⟨rfl, rfl⟩)
  refine (put_makes (zig i) hz _).mono ?_
  rintro e w2 ⟨A, c, rfl, o, b, n⟩
  have O := Lib.hid (show w2.ownsRow w.heap.size 5 1 (.slice A (putNum (zig i)).length c) (putNum (zig i)).length (ints .u8 (putNum (zig i))) from by
    obtain ⟨p1, p2⟩ := o
    refine ⟨p1, ?_⟩
    rcases p2 with p2 | ⟨g, cap, cur, ha, hb2, hrest⟩
    · exact .inl p2
    · exact .inr ⟨g, cap, cur, ha, Nat.le_trans HB.out.size hb2, hrest⟩)
  have B := Lib.hid (HB.out.trans (b.mono HB.out.size))
  have NN := Lib.hid n
  clear o b n
  go_wp2_with fail
  go_ret
  exact ⟨A, c, rfl, O.out, B.out, NN.out⟩

set_option maxRecDepth 100000 in
theorem cellPut_truth (i : Int) (s : ByteArray) (u : Nat) (w : World) (hi : i = (u : Int)) (hu : u < 256) :
    Calls Tryd.prog 45 #[.agg #[.int .i64 3, .int .i64 i, .string s]] w (Makes [u] w) := by
  subst hi
  obtain ⟨w1, hw1⟩ : ∃ w1 : World, w.alloc (.cells #[.int .i64 3, .int .i64 (u : Int), .string s] 26) = w1 := ⟨_, rfl⟩
  have b1 : Below w.heap.size w w1 := hw1 ▸ (Below.refl _ _).alloc (Nat.le_refl _) _
  have c1 : w1.cell? ⟨w.heap.size, 1, none⟩ = some (.int .i64 (u : Int)) := by rw [← hw1, World.cell?_alloc_at _ _ _ _ rfl]; rfl
  have c0 : w1.cell? ⟨w.heap.size, 0, none⟩ = some (.int .i64 3) := by rw [← hw1, World.cell?_alloc_at _ _ _ _ rfl]; rfl
  have hwr : IntKind.u8.wrap (u : Int) = (u : Int) := by rw [IntKind.wrap_u8]; omega
  have HW := Lib.hid hw1
  have HB := Lib.hid b1
  have O := Lib.hid ((Row.lit w1 5 .u8 [u]).own (base := w.heap.size) b1.size (by simp [maxLen]))
  clear hw1 b1 c0 c1
  go_enter Tryd.func45, Tryd.ntmps45
  go_wp2_with fail
  go_ret
  have e := HW.out
  subst e
  have h := O.out
  rw [show (w.alloc (.cells #[.int .i64 3, .int .i64 (u : Int), .string s] 26)).heap.size = w.heap.size + 1 by simp] at h
  exact ⟨_, _, rfl, h, HB.out.alloc HB.out.size _, by intro h; cases h⟩
end Go.Proofs.YtifejanbgobngaaDoor

/- Walks of package cell: Put whole. -/

namespace Go.Proofs.YtifejanbgobngaaDoor
open Go.RowKit
set_option linter.unusedVariables false

abbrev vagg (t i : Int) (s : ByteArray) : Value := .agg #[.int .i64 t, .int .i64 i, .string s]
theorem own_mono {w : World} {base base' : Nat} {e : TypeId} {v : Value} {n : Nat} {xs : List Value} (h : w.ownsRow base e 1 v n xs) (hb : base' ≤ base) : w.ownsRow base' e 1 v n xs := by
  obtain ⟨h1, h2⟩ := h
  refine ⟨h1, ?_⟩
  rcases h2 with h2 | ⟨g, cap, cur, ha, hb2, hrest⟩
  · exact .inl h2
  · exact .inr ⟨g, cap, cur, ha, Nat.le_trans hb hb2, hrest⟩
/-- A call that gives bytes of its own. -/
def Gives (l : List Nat) (w : World) (e : Ending) (w' : World) : Prop :=
  ∃ A c, e = .returned (.slice A l.length c) ∧ Has w' A (ints .u8 l) ∧ l.length ≤ c ∧ c ≤ 9223372036854775807 ∧ (A = none → c = 0) ∧ Later w w'
theorem own_capmax {w : World} {base : Nat} {e : TypeId} {A : Option Addr} {c : Nat} {n : Nat} {xs : List Value} (h : w.ownsRow base e 1 (.slice A n c) n xs) : c ≤ 9223372036854775807 := by
  rcases h.2 with ⟨h1, rfl⟩ | ⟨g, cap, cur, h1, _, _, _, h2, _⟩
  · injection h1 with _ _ h1; omega
  · injection h1 with _ _ h1
    unfold maxLen at h2
    omega
theorem Makes.gives {l : List Nat} {w : World} {e : Ending} {w' : World} (h : Makes l w e w') : Gives l w e w' := by
  obtain ⟨A, c, rfl, ho, hb, hn⟩ := h
  exact ⟨A, c, rfl, Has.own ho, own_cap ho, own_capmax ho, hn, hb⟩

theorem wpList_append_str {P : Program} (w : World) {ops : Array Oper} {rest : List Oper} {o : Oper} {a : Act} {Q : Exit → Act → World → Prop} (hgd : o.guard = none) (sl x : Operand) (t u : TypeId)
    (ho : o.op = .call { callee := .builtin .append, args := #[sl, x], argTypes := #[t, u] })
    (base : Nat) (e : TypeId) (ht : P.underlying t = some (.slice e)) (hu : P.underlying u = some .string) (hinfo : (P.info? e).map (fun i => (i.zero, i.size, i.bytes)) = some (some (.int .u8 0), 1, 1))
    (v : Value) (n : Nat) (xs : List Value) (hs : a.eval sl = v) (hown : w.ownsRow base e 1 v n xs) (s : ByteArray) (hx : a.eval x = .string s)
    (h63 : n + s.size ≤ maxLen) (hbytes : n + s.size ≤ 140737488355328) (hbase : base ≤ w.heap.size)
    (h : ∀ A' c' w', w'.ownsRow base e 1 (.slice A' (n + s.size) c') (n + s.size) (xs ++ Lib.strCells s) → Below base w w' → (A' = none → c' = 0) → wpList P ops Q rest (a.put o.dst (.slice A' (n + s.size) c')) w') : wpList P ops Q (o :: rest) a w := by
  obtain ⟨i, hi, hz, hsz, hby⟩ := info_parts hinfo
  refine Lib.wpList_append_own_string w hgd sl x t u ho base e i ht hu hi hz hsz hby v n xs hs hown s hx h63 hbytes hbase fun v' w' h2 h3 _ => ?_
  obtain ⟨A', c', hv, hc'⟩ := own_shape h2
  subst hv
  exact h A' c' w' h2 ((Below.refl _ _).grown h3 hbase fun k hk => (hown.lt k hk).1) hc'

set_option maxRecDepth 100000 in
theorem cellPut_text (i : Int) (s : ByteArray) (w : World) (hs : s.size ≤ 20) :
    Calls Tryd.prog 45 #[vagg 4 i s] w (Makes (s.size :: nums s) w) := by
  have hz : (w.alloc (.cells #[.int .i64 4, .int .i64 i, .string s] 26)).heap.size = w.heap.size + 1 := by simp
  have b1 : Below w.heap.size w (w.alloc (.cells #[.int .i64 4, .int .i64 i, .string s] 26)) := (Below.refl _ _).alloc (Nat.le_refl _) _
  have hwr : IntKind.u8.wrap (s.size : Int) = (s.size : Int) := by rw [IntKind.wrap_u8]; omega
  have HO := Lib.hid (show ((w.alloc (.cells #[.int .i64 4, .int .i64 i, .string s] 26)).alloc (.cells (ints .u8 [s.size]).toArray 5)).ownsRow w.heap.size 5 1 (.slice (some ⟨w.heap.size + 1, 0, none⟩) 1 1) 1 (ints .u8 [s.size]) from by
    have h := (Row.lit (w.alloc (.cells #[.int .i64 4, .int .i64 i, .string s] 26)) 5 .u8 [s.size]).own (base := w.heap.size) b1.size (by simp [maxLen])
    rw [hz] at h
    exact h)
  have B2 := Lib.hid ((b1.alloc b1.size (.cells (ints .u8 [s.size]).toArray 5)))
  clear b1 hz
  go_enter Tryd.func45, Tryd.ntmps45
  go_wp2_with (at_builtin; refine wpList_append_str _ rfl (.tmp 11) (.tmp 13) 22 9 rfl w.heap.size 5 Tryd.underlying22 Tryd.underlying9 info_u8 _ 1 (ints .u8 [s.size]) rfl HO.out s rfl ?_ ?_ ?_ ?_; (unfold maxLen; omega); omega; (exact B2.out.size); intro A2 c2 w5 o2 b2 n2; have HO2 := Lib.hid o2; have HB5 := Lib.hid b2; have HN2 := Lib.hid n2; clear o2 b2 n2)
  go_ret
  have hl : (s.size :: nums s).length = 1 + s.size := by rw [List.length_cons, nums_length]; omega
  have h := HO2.out
  rw [strCells_nums] at h
  refine ⟨A2, c2, by rw [hl]; rfl, by rw [hl]; exact h, B2.out.trans HB5.out, HN2.out⟩

/-- Put, of a value that may be. -/
theorem cellPut_any (t i : Int) (s : ByteArray) (w : World) (ht : 1 ≤ t ∧ t ≤ 4) (hm : MayV t i s.size) (h64 : In64 i) :
    Calls Tryd.prog 45 #[vagg t i s] w (Gives (oneB t i s) w) := by
  unfold oneB
  by_cases h4 : t = 4
  · subst h4
    rw [if_pos rfl]
    exact (cellPut_text i s w (by unfold MayV at hm; omega)).mono fun _ _ h => h.gives
  · rw [if_neg h4]
    by_cases h3 : t = 3
    · subst h3
      rw [if_pos rfl]
      exact (cellPut_truth i s i.toNat w (by unfold MayV at hm; omega) (by unfold MayV at hm; omega)).mono fun _ _ h => h.gives
    · rw [if_neg h3]
      exact (cellPut_num t i s w (by omega) h64.1 h64.2).mono fun _ _ h => h.gives
end Go.Proofs.YtifejanbgobngaaDoor
