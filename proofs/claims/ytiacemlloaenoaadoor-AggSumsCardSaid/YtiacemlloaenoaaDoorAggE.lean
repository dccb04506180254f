/- Errors of agg: chains of fault.At, and errors.Is on them. -/
import Derived.Test.YtiacemlloaenoaaDoorIs
import Derived.Test.YtiacemlloaenoaaDoorCell
namespace Go.Proofs.YtiacemlloaenoaaDoor
open Go.RowKit
set_option linter.unusedVariables false

/-- An error that so many calls of fault.At have wrapped, in blocks from B on. -/
def ErrD (B : Nat) : Nat → World → Value → Addr → Prop
  | 0, _, v, a => v = .iface 110 (.pointer (some a))
  | d + 1, w, v, a => ∃ p : Nat, v = .iface 81 (.pointer (some ⟨p, 0, none⟩)) ∧ B ≤ p ∧ ∃ u, w.cell? ⟨p, 2, none⟩ = some u ∧ ErrD B d w u a
theorem ErrD.later {B : Nat} : ∀ {d : Nat} {w w' : World} {v : Value} {a : Addr}, ErrD B d w v a → Later w w' → ErrD B d w' v a
  | 0, _, _, _, _, h, _ => h
  | d + 1, _, _, _, _, ⟨p, h1, hb, u, h2, h3⟩, l => ⟨p, h1, hb, u, l.cell h2, h3.later l⟩
theorem ErrD.mono {B B' : Nat} (hB : B' ≤ B) : ∀ {d : Nat} {w : World} {v : Value} {a : Addr}, ErrD B d w v a → ErrD B' d w v a
  | 0, _, _, _, h => h
  | d + 1, _, _, _, ⟨p, h1, hb, u, h2, h3⟩ => ⟨p, h1, Nat.le_trans hB hb, u, h2, h3.mono hB⟩
theorem ErrD.set_ {B g o : Nat} (hg : g < B) (x : Value) : ∀ {d : Nat} {w : World} {v : Value} {a : Addr}, ErrD B d w v a → ErrD B d (w.setCell ⟨g, o, none⟩ x) v a
  | 0, _, _, _, h => h
  | d + 1, w, _, _, ⟨p, h1, hb, u, h2, h3⟩ => ⟨p, h1, hb, u, (World.cell?_setCell_other _ _ _ _ (by intro e; simp only [Addr.mk.injEq] at e; omega)).trans h2, h3.set_ hg x⟩

theorem at_e0 (s : ByteArray) (p : Int) (a : Addr) (w : World) :
    Calls Tryd.prog 18 #[.string s, .int .i64 p, .iface 110 (.pointer (some a))] w fun r w' => ∃ v, r = .returned v ∧ ErrD w.heap.size 1 w' v a ∧ Later w w' :=
  (at_any s p _ _ w rfl).mono fun r w' ⟨h1, h2⟩ => ⟨_, h1, ⟨w.heap.size, rfl, Nat.le_refl _, _, (by rw [← h2]; exact (Blk.new w _ _ _ rfl).cell 2 _ rfl), rfl⟩, h2 ▸ Later.new _ _⟩
theorem at_e1 (s : ByteArray) (p : Int) (B d : Nat) (v : Value) (a : Addr) (w : World) (hB : B ≤ w.heap.size) (h : ErrD B (d + 1) w v a) :
    Calls Tryd.prog 18 #[.string s, .int .i64 p, v] w fun r w' => ∃ v', r = .returned v' ∧ ErrD B (d + 2) w' v' a ∧ Later w w' := by
  obtain ⟨q, rfl, hb, u, hu, hd⟩ := h
  have HH := Lib.hid (show ErrD B (d + 1) w (.iface 81 (.pointer (some ⟨q, 0, none⟩))) a from ⟨q, rfl, hb, u, hu, hd⟩)
  clear hu hd
  have hif : Tryd.prog.isIface 59 = true := by kernel_rfl
  have heq := run_eql_iface_nil (P := Tryd.prog) (w := w.alloc (.cells #[.iface 81 (.pointer (some ⟨q, 0, none⟩))] 59)) 59 hif 81 (.pointer (some ⟨q, 0, none⟩))
  have heq2 := run_eql_iface_nil (P := Tryd.prog) (w := w) 59 hif 81 (.pointer (some ⟨q, 0, none⟩))
  go_enter Tryd.func18, Tryd.ntmps18
  go_wp2
  go_ret
  exact ⟨_, rfl, ⟨w.heap.size, rfl, hB, _, (Blk.new w #[.string s, .int .i64 p, .iface 81 (.pointer (some ⟨q, 0, none⟩))] _ _ rfl).cell 2 _ rfl, HH.out.later (Later.new _ _)⟩, Later.new _ _⟩

set_option maxRecDepth 100000 in
theorem is_d3_same (b : Addr) (v : Value) (B : Nat) (w : World) (h : ErrD B 3 w v b) :
    Calls Tryd.prog 13 #[v, .iface 110 (.pointer (some b))] w fun e w' => e = .returned (.bool true) ∧ w = w' := by
  obtain ⟨p1, rfl, _, _, h1, p2, rfl, _, _, h2, p3, rfl, _, _, h3, rfl⟩ := h
  obtain ⟨i, hi, hcmp⟩ := Option.map_eq_some_iff.1 isComp
  obtain ⟨j, hj, hjs⟩ := Option.map_eq_some_iff.1 isSize
  have h8 := @run_callFunc_extern Tryd.prog 19 _ Extern.ReflectliteType.typeOf Tryd.func19 (by kernel_rfl) (by kernel_rfl) (by kernel_rfl) (by kernel_rfl)
  have h32 := @run_callFunc_extern Tryd.prog 65 _ cmpExt Tryd.func65 (by kernel_rfl) (by kernel_rfl) (by kernel_rfl) (by kernel_rfl)
  have tT := isTypeOf
  have cT := isComparable
  have mR := isMethodComparable
  have nE := noIsE
  have uE := noUnwrapE
  have vE := noUnwrapsE
  have nW := noIsW
  have uW := hasUnwrapW
  have mU := methodUnwrap
  have hif : Tryd.prog.isIface 59 = true := by kernel_rfl
  have hq2 := run_eql_iface_nil (P := Tryd.prog) (w := w) 59 hif 81 (.pointer (some ⟨p2, 0, none⟩))
  have hq3 := run_eql_iface_nil (P := Tryd.prog) (w := w) 59 hif 81 (.pointer (some ⟨p3, 0, none⟩))
  have heq := run_eql_iface_ptr_same (P := Tryd.prog) w b Tryd.underlying59 Tryd.underlying110 hi hcmp hj
  have hty1 := run_eql_iface_types (P := Tryd.prog) 81 110 (.pointer (some ⟨p1, 0, none⟩)) (.pointer (some b)) Tryd.underlying59 (by decide) w
  have hty2 := run_eql_iface_types (P := Tryd.prog) 81 110 (.pointer (some ⟨p2, 0, none⟩)) (.pointer (some b)) Tryd.underlying59 (by decide) w
  have hty3 := run_eql_iface_types (P := Tryd.prog) 81 110 (.pointer (some ⟨p3, 0, none⟩)) (.pointer (some b)) Tryd.underlying59 (by decide) w
  go_enter Tryd.func13, Tryd.ntmps13
  go_wp2
  refine wp_loop_rounds 4 ?_
  rw [rounds_succ]
  go_wp2
  rw [rounds_succ]
  go_wp2
  rw [rounds_succ]
  go_wp2
  rw [rounds_succ]
  go_wp2
  go_ret
  exact ⟨rfl, rfl⟩

set_option maxRecDepth 100000 in
theorem is_d3_other (b a : Addr) (v : Value) (ca cb : Array Value) (ta tb : TypeId) (B : Nat) (w : World) (h : ErrD B 3 w v a) (hne : a ≠ b) (ha : w.heap[a.block]? = some (.cells ca ta (0, 0))) (hb : w.heap[b.block]? = some (.cells cb tb (0, 0))) :
    Calls Tryd.prog 13 #[v, .iface 110 (.pointer (some b))] w fun e w' => e = .returned (.bool false) ∧ w = w' := by
  obtain ⟨p1, rfl, _, _, h1, p2, rfl, _, _, h2, p3, rfl, _, _, h3, rfl⟩ := h
  obtain ⟨i, hi, hcmp⟩ := Option.map_eq_some_iff.1 isComp
  obtain ⟨j, hj, hjs⟩ := Option.map_eq_some_iff.1 isSize
  have h8 := @run_callFunc_extern Tryd.prog 19 _ Extern.ReflectliteType.typeOf Tryd.func19 (by kernel_rfl) (by kernel_rfl) (by kernel_rfl) (by kernel_rfl)
  have h32 := @run_callFunc_extern Tryd.prog 65 _ cmpExt Tryd.func65 (by kernel_rfl) (by kernel_rfl) (by kernel_rfl) (by kernel_rfl)
  have tT := isTypeOf
  have cT := isComparable
  have mR := isMethodComparable
  have nE := noIsE
  have uE := noUnwrapE
  have vE := noUnwrapsE
  have nW := noIsW
  have uW := hasUnwrapW
  have mU := methodUnwrap
  have hif : Tryd.prog.isIface 59 = true := by kernel_rfl
  have hq2 := run_eql_iface_nil (P := Tryd.prog) (w := w) 59 hif 81 (.pointer (some ⟨p2, 0, none⟩))
  have hq3 := run_eql_iface_nil (P := Tryd.prog) (w := w) 59 hif 81 (.pointer (some ⟨p3, 0, none⟩))
  have heq := run_eql_iface_ptr_other (P := Tryd.prog) w Tryd.underlying59 Tryd.underlying110 hi hcmp hj (by rw [hjs]; decide) hne ha hb
  have hty1 := run_eql_iface_types (P := Tryd.prog) 81 110 (.pointer (some ⟨p1, 0, none⟩)) (.pointer (some b)) Tryd.underlying59 (by decide) w
  have hty2 := run_eql_iface_types (P := Tryd.prog) 81 110 (.pointer (some ⟨p2, 0, none⟩)) (.pointer (some b)) Tryd.underlying59 (by decide) w
  have hty3 := run_eql_iface_types (P := Tryd.prog) 81 110 (.pointer (some ⟨p3, 0, none⟩)) (.pointer (some b)) Tryd.underlying59 (by decide) w
  go_enter Tryd.func13, Tryd.ntmps13
  go_wp2
  refine wp_loop_rounds 4 ?_
  rw [rounds_succ]
  go_wp2
  rw [rounds_succ]
  go_wp2
  rw [rounds_succ]
  go_wp2
  rw [rounds_succ]
  go_wp2
  go_ret
  exact ⟨rfl, rfl⟩
/-- The three sentinels, apart. -/
structure S24 (w : World) (a0 a1 a2 : Addr) : Prop where
  arg : w.cell? ⟨0, 0, none⟩ = some (.iface 110 (.pointer (some a0)))
  type : w.cell? ⟨1, 0, none⟩ = some (.iface 110 (.pointer (some a1)))
  over : w.cell? ⟨2, 0, none⟩ = some (.iface 110 (.pointer (some a2)))
  b0 : ∃ c t, w.heap[a0.block]? = some (.cells c t (0, 0))
  b1 : ∃ c t, w.heap[a1.block]? = some (.cells c t (0, 0))
  b2 : ∃ c t, w.heap[a2.block]? = some (.cells c t (0, 0))
  n01 : a0 ≠ a1
  n02 : a0 ≠ a2
  n12 : a1 ≠ a2
theorem blk_later {w w' : World} {b : Nat} (h : ∃ c t, w.heap[b]? = some (Obj.cells c t (0, 0))) (l : Later w w') : ∃ c t, w'.heap[b]? = some (Obj.cells c t (0, 0)) := by
  obtain ⟨c, t, h⟩ := h
  exact ⟨c, t, (l.block b (Array.getElem?_eq_some_iff.1 h).1).trans h⟩
theorem S24.later {w w' : World} {a0 a1 a2 : Addr} (h : S24 w a0 a1 a2) (l : Later w w') : S24 w' a0 a1 a2 :=
  ⟨l.cell h.arg, l.cell h.type, l.cell h.over, blk_later h.b0 l, blk_later h.b1 l, blk_later h.b2 l, h.n01, h.n02, h.n12⟩
end Go.Proofs.YtiacemlloaenoaaDoor
