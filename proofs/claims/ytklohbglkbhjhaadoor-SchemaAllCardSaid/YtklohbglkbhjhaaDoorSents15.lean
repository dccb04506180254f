/- What the rows' list gives at the sentinels of schema and value. (tools/gen_sents15.py) -/
import Derived.Test.YtklohbglkbhjhaaDoorSchT
import Derived.Test.YtklohbglkbhjhaaDoorRows
import Derived.Stop.LaidTwo
import Derived.LaidSub
namespace Go.Proofs.YtklohbglkbhjhaaDoor
open Go.RowKit

theorem sent15_row (u : TypeId) (h : Tryd.prog.typeName? 3 u = some "*errors.errorString") : u = 143 := by
  have star : "*" ++ "errors.errorString" = "*errors.errorString" := by decide
  exact typeName_ptr_named (nm := "errors.errorString") (by rw [star]; kernel_rfl) (by kernel_rfl) (by decide) u (by rw [star]; exact h)
theorem same_ptr {x : Option (Array Value)} {t : TypeId} {a b : Addr} (h : x = some #[.iface t (.pointer (some a))]) (k : x = some #[.iface t (.pointer (some b))]) : a = b := by
  rw [h] at k
  simpa using k
theorem pair15_1_3 {w : World} (hL : laidMet Tryd.prog [("rabbet/fault.ErrValue", Rows.laid_rabbet_fault_ErrValue), ("rabbet/fault.ErrType", Rows.laid_rabbet_fault_ErrType), ("rabbet/fault.ErrBound", Rows.laid_rabbet_fault_ErrBound), ("rabbet/schema.errArg", Rows.laid_rabbet_schema_errArg), ("rabbet/schema.errNone", Rows.laid_rabbet_schema_errNone), ("rabbet/schema.errExist", Rows.laid_rabbet_schema_errExist), ("rabbet/schema.errType", Rows.laid_rabbet_schema_errType), ("rabbet/schema.errFull", Rows.laid_rabbet_schema_errFull)] w) : ∃ (a0 a1 : Addr) (c0 c1 : Array Value) (t0 t1 : TypeId), w.var? Tryd.prog "rabbet/schema.errArg" = some #[.iface 143 (.pointer (some a0))] ∧ w.var? Tryd.prog "rabbet/schema.errNone" = some #[.iface 143 (.pointer (some a1))] ∧ a0 ≠ a1 ∧ w.heap[a0.block]? = some (.cells c0 t0 (0, 0)) ∧ w.heap[a1.block]? = some (.cells c1 t1 (0, 0)) := by
  have h2 : laidMet Tryd.prog [("rabbet/schema.errArg", Rows.laid_rabbet_schema_errArg), ("rabbet/schema.errNone", Rows.laid_rabbet_schema_errNone)] w := by
    have h := hL.filter (fun x => x.1 == "rabbet/schema.errArg" || x.1 == "rabbet/schema.errNone")
    rw [List.filter_cons_of_neg (by rw [Bool.not_eq_true]; kernel_rfl), List.filter_cons_of_neg (by rw [Bool.not_eq_true]; kernel_rfl), List.filter_cons_of_neg (by rw [Bool.not_eq_true]; kernel_rfl), List.filter_cons_of_pos (by kernel_rfl), List.filter_cons_of_pos (by kernel_rfl), List.filter_cons_of_neg (by rw [Bool.not_eq_true]; kernel_rfl), List.filter_cons_of_neg (by rw [Bool.not_eq_true]; kernel_rfl), List.filter_cons_of_neg (by rw [Bool.not_eq_true]; kernel_rfl), List.filter_nil] at h
    exact h
  obtain ⟨a0, a1, s0, s1, c0, c1, t0, t1, hv0, hv1, _, _, _, _, _, _, hne, hb0, hb1⟩ := laid_sentinels2 h2 (g0 := 1) (g1 := 0) (by kernel_rfl) (by kernel_rfl) (by kernel_rfl) (by kernel_rfl) Tryd.underlying80 sent15_row Tryd.underlying143 Tryd.underlying169 rfl rfl Tryd.underlying9 (by kernel_rfl) (by kernel_rfl)
  exact ⟨a0, a1, c0, c1, t0, t1, hv0, hv1, hne, hb0, hb1⟩
theorem pair15_1_9 {w : World} (hL : laidMet Tryd.prog [("rabbet/fault.ErrValue", Rows.laid_rabbet_fault_ErrValue), ("rabbet/fault.ErrType", Rows.laid_rabbet_fault_ErrType), ("rabbet/fault.ErrBound", Rows.laid_rabbet_fault_ErrBound), ("rabbet/schema.errArg", Rows.laid_rabbet_schema_errArg), ("rabbet/schema.errNone", Rows.laid_rabbet_schema_errNone), ("rabbet/schema.errExist", Rows.laid_rabbet_schema_errExist), ("rabbet/schema.errType", Rows.laid_rabbet_schema_errType), ("rabbet/schema.errFull", Rows.laid_rabbet_schema_errFull)] w) : ∃ (a0 a1 : Addr) (c0 c1 : Array Value) (t0 t1 : TypeId), w.var? Tryd.prog "rabbet/schema.errArg" = some #[.iface 143 (.pointer (some a0))] ∧ w.var? Tryd.prog "rabbet/schema.errExist" = some #[.iface 143 (.pointer (some a1))] ∧ a0 ≠ a1 ∧ w.heap[a0.block]? = some (.cells c0 t0 (0, 0)) ∧ w.heap[a1.block]? = some (.cells c1 t1 (0, 0)) := by
  have h2 : laidMet Tryd.prog [("rabbet/schema.errArg", Rows.laid_rabbet_schema_errArg), ("rabbet/schema.errExist", Rows.laid_rabbet_schema_errExist)] w := by
    have h := hL.filter (fun x => x.1 == "rabbet/schema.errArg" || x.1 == "rabbet/schema.errExist")
    rw [List.filter_cons_of_neg (by rw [Bool.not_eq_true]; kernel_rfl), List.filter_cons_of_neg (by rw [Bool.not_eq_true]; kernel_rfl), List.filter_cons_of_neg (by rw [Bool.not_eq_true]; kernel_rfl), List.filter_cons_of_pos (by kernel_rfl), List.filter_cons_of_neg (by rw [Bool.not_eq_true]; kernel_rfl), List.filter_cons_of_pos (by kernel_rfl), List.filter_cons_of_neg (by rw [Bool.not_eq_true]; kernel_rfl), List.filter_cons_of_neg (by rw [Bool.not_eq_true]; kernel_rfl), List.filter_nil] at h
    exact h
  obtain ⟨a0, a1, s0, s1, c0, c1, t0, t1, hv0, hv1, _, _, _, _, _, _, hne, hb0, hb1⟩ := laid_sentinels2 h2 (g0 := 1) (g1 := 2) (by kernel_rfl) (by kernel_rfl) (by kernel_rfl) (by kernel_rfl) Tryd.underlying80 sent15_row Tryd.underlying143 Tryd.underlying169 rfl rfl Tryd.underlying9 (by kernel_rfl) (by kernel_rfl)
  exact ⟨a0, a1, c0, c1, t0, t1, hv0, hv1, hne, hb0, hb1⟩
theorem pair15_1_4 {w : World} (hL : laidMet Tryd.prog [("rabbet/fault.ErrValue", Rows.laid_rabbet_fault_ErrValue), ("rabbet/fault.ErrType", Rows.laid_rabbet_fault_ErrType), ("rabbet/fault.ErrBound", Rows.laid_rabbet_fault_ErrBound), ("rabbet/schema.errArg", Rows.laid_rabbet_schema_errArg), ("rabbet/schema.errNone", Rows.laid_rabbet_schema_errNone), ("rabbet/schema.errExist", Rows.laid_rabbet_schema_errExist), ("rabbet/schema.errType", Rows.laid_rabbet_schema_errType), ("rabbet/schema.errFull", Rows.laid_rabbet_schema_errFull)] w) : ∃ (a0 a1 : Addr) (c0 c1 : Array Value) (t0 t1 : TypeId), w.var? Tryd.prog "rabbet/schema.errArg" = some #[.iface 143 (.pointer (some a0))] ∧ w.var? Tryd.prog "rabbet/schema.errType" = some #[.iface 143 (.pointer (some a1))] ∧ a0 ≠ a1 ∧ w.heap[a0.block]? = some (.cells c0 t0 (0, 0)) ∧ w.heap[a1.block]? = some (.cells c1 t1 (0, 0)) := by
  have h2 : laidMet Tryd.prog [("rabbet/schema.errArg", Rows.laid_rabbet_schema_errArg), ("rabbet/schema.errType", Rows.laid_rabbet_schema_errType)] w := by
    have h := hL.filter (fun x => x.1 == "rabbet/schema.errArg" || x.1 == "rabbet/schema.errType")
    rw [List.filter_cons_of_neg (by rw [Bool.not_eq_true]; kernel_rfl), List.filter_cons_of_neg (by rw [Bool.not_eq_true]; kernel_rfl), List.filter_cons_of_neg (by rw [Bool.not_eq_true]; kernel_rfl), List.filter_cons_of_pos (by kernel_rfl), List.filter_cons_of_neg (by rw [Bool.not_eq_true]; kernel_rfl), List.filter_cons_of_neg (by rw [Bool.not_eq_true]; kernel_rfl), List.filter_cons_of_pos (by kernel_rfl), List.filter_cons_of_neg (by rw [Bool.not_eq_true]; kernel_rfl), List.filter_nil] at h
    exact h
  obtain ⟨a0, a1, s0, s1, c0, c1, t0, t1, hv0, hv1, _, _, _, _, _, _, hne, hb0, hb1⟩ := laid_sentinels2 h2 (g0 := 1) (g1 := 3) (by kernel_rfl) (by kernel_rfl) (by kernel_rfl) (by kernel_rfl) Tryd.underlying80 sent15_row Tryd.underlying143 Tryd.underlying169 rfl rfl Tryd.underlying9 (by kernel_rfl) (by kernel_rfl)
  exact ⟨a0, a1, c0, c1, t0, t1, hv0, hv1, hne, hb0, hb1⟩
theorem pair15_1_6 {w : World} (hL : laidMet Tryd.prog [("rabbet/fault.ErrValue", Rows.laid_rabbet_fault_ErrValue), ("rabbet/fault.ErrType", Rows.laid_rabbet_fault_ErrType), ("rabbet/fault.ErrBound", Rows.laid_rabbet_fault_ErrBound), ("rabbet/schema.errArg", Rows.laid_rabbet_schema_errArg), ("rabbet/schema.errNone", Rows.laid_rabbet_schema_errNone), ("rabbet/schema.errExist", Rows.laid_rabbet_schema_errExist), ("rabbet/schema.errType", Rows.laid_rabbet_schema_errType), ("rabbet/schema.errFull", Rows.laid_rabbet_schema_errFull)] w) : ∃ (a0 a1 : Addr) (c0 c1 : Array Value) (t0 t1 : TypeId), w.var? Tryd.prog "rabbet/schema.errArg" = some #[.iface 143 (.pointer (some a0))] ∧ w.var? Tryd.prog "rabbet/schema.errFull" = some #[.iface 143 (.pointer (some a1))] ∧ a0 ≠ a1 ∧ w.heap[a0.block]? = some (.cells c0 t0 (0, 0)) ∧ w.heap[a1.block]? = some (.cells c1 t1 (0, 0)) := by
  have h2 : laidMet Tryd.prog [("rabbet/schema.errArg", Rows.laid_rabbet_schema_errArg), ("rabbet/schema.errFull", Rows.laid_rabbet_schema_errFull)] w := by
    have h := hL.filter (fun x => x.1 == "rabbet/schema.errArg" || x.1 == "rabbet/schema.errFull")
    rw [List.filter_cons_of_neg (by rw [Bool.not_eq_true]; kernel_rfl), List.filter_cons_of_neg (by rw [Bool.not_eq_true]; kernel_rfl), List.filter_cons_of_neg (by rw [Bool.not_eq_true]; kernel_rfl), List.filter_cons_of_pos (by kernel_rfl), List.filter_cons_of_neg (by rw [Bool.not_eq_true]; kernel_rfl), List.filter_cons_of_neg (by rw [Bool.not_eq_true]; kernel_rfl), List.filter_cons_of_neg (by rw [Bool.not_eq_true]; kernel_rfl), List.filter_cons_of_pos (by kernel_rfl), List.filter_nil] at h
    exact h
  obtain ⟨a0, a1, s0, s1, c0, c1, t0, t1, hv0, hv1, _, _, _, _, _, _, hne, hb0, hb1⟩ := laid_sentinels2 h2 (g0 := 1) (g1 := 4) (by kernel_rfl) (by kernel_rfl) (by kernel_rfl) (by kernel_rfl) Tryd.underlying80 sent15_row Tryd.underlying143 Tryd.underlying169 rfl rfl Tryd.underlying9 (by kernel_rfl) (by kernel_rfl)
  exact ⟨a0, a1, c0, c1, t0, t1, hv0, hv1, hne, hb0, hb1⟩
theorem pair15_3_9 {w : World} (hL : laidMet Tryd.prog [("rabbet/fault.ErrValue", Rows.laid_rabbet_fault_ErrValue), ("rabbet/fault.ErrType", Rows.laid_rabbet_fault_ErrType), ("rabbet/fault.ErrBound", Rows.laid_rabbet_fault_ErrBound), ("rabbet/schema.errArg", Rows.laid_rabbet_schema_errArg), ("rabbet/schema.errNone", Rows.laid_rabbet_schema_errNone), ("rabbet/schema.errExist", Rows.laid_rabbet_schema_errExist), ("rabbet/schema.errType", Rows.laid_rabbet_schema_errType), ("rabbet/schema.errFull", Rows.laid_rabbet_schema_errFull)] w) : ∃ (a0 a1 : Addr) (c0 c1 : Array Value) (t0 t1 : TypeId), w.var? Tryd.prog "rabbet/schema.errNone" = some #[.iface 143 (.pointer (some a0))] ∧ w.var? Tryd.prog "rabbet/schema.errExist" = some #[.iface 143 (.pointer (some a1))] ∧ a0 ≠ a1 ∧ w.heap[a0.block]? = some (.cells c0 t0 (0, 0)) ∧ w.heap[a1.block]? = some (.cells c1 t1 (0, 0)) := by
  have h2 : laidMet Tryd.prog [("rabbet/schema.errNone", Rows.laid_rabbet_schema_errNone), ("rabbet/schema.errExist", Rows.laid_rabbet_schema_errExist)] w := by
    have h := hL.filter (fun x => x.1 == "rabbet/schema.errNone" || x.1 == "rabbet/schema.errExist")
    rw [List.filter_cons_of_neg (by rw [Bool.not_eq_true]; kernel_rfl), List.filter_cons_of_neg (by rw [Bool.not_eq_true]; kernel_rfl), List.filter_cons_of_neg (by rw [Bool.not_eq_true]; kernel_rfl), List.filter_cons_of_neg (by rw [Bool.not_eq_true]; kernel_rfl), List.filter_cons_of_pos (by kernel_rfl), List.filter_cons_of_pos (by kernel_rfl), List.filter_cons_of_neg (by rw [Bool.not_eq_true]; kernel_rfl), List.filter_cons_of_neg (by rw [Bool.not_eq_true]; kernel_rfl), List.filter_nil] at h
    exact h
  obtain ⟨a0, a1, s0, s1, c0, c1, t0, t1, hv0, hv1, _, _, _, _, _, _, hne, hb0, hb1⟩ := laid_sentinels2 h2 (g0 := 0) (g1 := 2) (by kernel_rfl) (by kernel_rfl) (by kernel_rfl) (by kernel_rfl) Tryd.underlying80 sent15_row Tryd.underlying143 Tryd.underlying169 rfl rfl Tryd.underlying9 (by kernel_rfl) (by kernel_rfl)
  exact ⟨a0, a1, c0, c1, t0, t1, hv0, hv1, hne, hb0, hb1⟩
theorem pair15_3_4 {w : World} (hL : laidMet Tryd.prog [("rabbet/fault.ErrValue", Rows.laid_rabbet_fault_ErrValue), ("rabbet/fault.ErrType", Rows.laid_rabbet_fault_ErrType), ("rabbet/fault.ErrBound", Rows.laid_rabbet_fault_ErrBound), ("rabbet/schema.errArg", Rows.laid_rabbet_schema_errArg), ("rabbet/schema.errNone", Rows.laid_rabbet_schema_errNone), ("rabbet/schema.errExist", Rows.laid_rabbet_schema_errExist), ("rabbet/schema.errType", Rows.laid_rabbet_schema_errType), ("rabbet/schema.errFull", Rows.laid_rabbet_schema_errFull)] w) : ∃ (a0 a1 : Addr) (c0 c1 : Array Value) (t0 t1 : TypeId), w.var? Tryd.prog "rabbet/schema.errNone" = some #[.iface 143 (.pointer (some a0))] ∧ w.var? Tryd.prog "rabbet/schema.errType" = some #[.iface 143 (.pointer (some a1))] ∧ a0 ≠ a1 ∧ w.heap[a0.block]? = some (.cells c0 t0 (0, 0)) ∧ w.heap[a1.block]? = some (.cells c1 t1 (0, 0)) := by
  have h2 : laidMet Tryd.prog [("rabbet/schema.errNone", Rows.laid_rabbet_schema_errNone), ("rabbet/schema.errType", Rows.laid_rabbet_schema_errType)] w := by
    have h := hL.filter (fun x => x.1 == "rabbet/schema.errNone" || x.1 == "rabbet/schema.errType")
    rw [List.filter_cons_of_neg (by rw [Bool.not_eq_true]; kernel_rfl), List.filter_cons_of_neg (by rw [Bool.not_eq_true]; kernel_rfl), List.filter_cons_of_neg (by rw [Bool.not_eq_true]; kernel_rfl), List.filter_cons_of_neg (by rw [Bool.not_eq_true]; kernel_rfl), List.filter_cons_of_pos (by kernel_rfl), List.filter_cons_of_neg (by rw [Bool.not_eq_true]; kernel_rfl), List.filter_cons_of_pos (by kernel_rfl), List.filter_cons_of_neg (by rw [Bool.not_eq_true]; kernel_rfl), List.filter_nil] at h
    exact h
  obtain ⟨a0, a1, s0, s1, c0, c1, t0, t1, hv0, hv1, _, _, _, _, _, _, hne, hb0, hb1⟩ := laid_sentinels2 h2 (g0 := 0) (g1 := 3) (by kernel_rfl) (by kernel_rfl) (by kernel_rfl) (by kernel_rfl) Tryd.underlying80 sent15_row Tryd.underlying143 Tryd.underlying169 rfl rfl Tryd.underlying9 (by kernel_rfl) (by kernel_rfl)
  exact ⟨a0, a1, c0, c1, t0, t1, hv0, hv1, hne, hb0, hb1⟩
theorem pair15_3_6 {w : World} (hL : laidMet Tryd.prog [("rabbet/fault.ErrValue", Rows.laid_rabbet_fault_ErrValue), ("rabbet/fault.ErrType", Rows.laid_rabbet_fault_ErrType), ("rabbet/fault.ErrBound", Rows.laid_rabbet_fault_ErrBound), ("rabbet/schema.errArg", Rows.laid_rabbet_schema_errArg), ("rabbet/schema.errNone", Rows.laid_rabbet_schema_errNone), ("rabbet/schema.errExist", Rows.laid_rabbet_schema_errExist), ("rabbet/schema.errType", Rows.laid_rabbet_schema_errType), ("rabbet/schema.errFull", Rows.laid_rabbet_schema_errFull)] w) : ∃ (a0 a1 : Addr) (c0 c1 : Array Value) (t0 t1 : TypeId), w.var? Tryd.prog "rabbet/schema.errNone" = some #[.iface 143 (.pointer (some a0))] ∧ w.var? Tryd.prog "rabbet/schema.errFull" = some #[.iface 143 (.pointer (some a1))] ∧ a0 ≠ a1 ∧ w.heap[a0.block]? = some (.cells c0 t0 (0, 0)) ∧ w.heap[a1.block]? = some (.cells c1 t1 (0, 0)) := by
  have h2 : laidMet Tryd.prog [("rabbet/schema.errNone", Rows.laid_rabbet_schema_errNone), ("rabbet/schema.errFull", Rows.laid_rabbet_schema_errFull)] w := by
    have h := hL.filter (fun x => x.1 == "rabbet/schema.errNone" || x.1 == "rabbet/schema.errFull")
    rw [List.filter_cons_of_neg (by rw [Bool.not_eq_true]; kernel_rfl), List.filter_cons_of_neg (by rw [Bool.not_eq_true]; kernel_rfl), List.filter_cons_of_neg (by rw [Bool.not_eq_true]; kernel_rfl), List.filter_cons_of_neg (by rw [Bool.not_eq_true]; kernel_rfl), List.filter_cons_of_pos (by kernel_rfl), List.filter_cons_of_neg (by rw [Bool.not_eq_true]; kernel_rfl), List.filter_cons_of_neg (by rw [Bool.not_eq_true]; kernel_rfl), List.filter_cons_of_pos (by kernel_rfl), List.filter_nil] at h
    exact h
  obtain ⟨a0, a1, s0, s1, c0, c1, t0, t1, hv0, hv1, _, _, _, _, _, _, hne, hb0, hb1⟩ := laid_sentinels2 h2 (g0 := 0) (g1 := 4) (by kernel_rfl) (by kernel_rfl) (by kernel_rfl) (by kernel_rfl) Tryd.underlying80 sent15_row Tryd.underlying143 Tryd.underlying169 rfl rfl Tryd.underlying9 (by kernel_rfl) (by kernel_rfl)
  exact ⟨a0, a1, c0, c1, t0, t1, hv0, hv1, hne, hb0, hb1⟩
theorem pair15_9_4 {w : World} (hL : laidMet Tryd.prog [("rabbet/fault.ErrValue", Rows.laid_rabbet_fault_ErrValue), ("rabbet/fault.ErrType", Rows.laid_rabbet_fault_ErrType), ("rabbet/fault.ErrBound", Rows.laid_rabbet_fault_ErrBound), ("rabbet/schema.errArg", Rows.laid_rabbet_schema_errArg), ("rabbet/schema.errNone", Rows.laid_rabbet_schema_errNone), ("rabbet/schema.errExist", Rows.laid_rabbet_schema_errExist), ("rabbet/schema.errType", Rows.laid_rabbet_schema_errType), ("rabbet/schema.errFull", Rows.laid_rabbet_schema_errFull)] w) : ∃ (a0 a1 : Addr) (c0 c1 : Array Value) (t0 t1 : TypeId), w.var? Tryd.prog "rabbet/schema.errExist" = some #[.iface 143 (.pointer (some a0))] ∧ w.var? Tryd.prog "rabbet/schema.errType" = some #[.iface 143 (.pointer (some a1))] ∧ a0 ≠ a1 ∧ w.heap[a0.block]? = some (.cells c0 t0 (0, 0)) ∧ w.heap[a1.block]? = some (.cells c1 t1 (0, 0)) := by
  have h2 : laidMet Tryd.prog [("rabbet/schema.errExist", Rows.laid_rabbet_schema_errExist), ("rabbet/schema.errType", Rows.laid_rabbet_schema_errType)] w := by
    have h := hL.filter (fun x => x.1 == "rabbet/schema.errExist" || x.1 == "rabbet/schema.errType")
    rw [List.filter_cons_of_neg (by rw [Bool.not_eq_true]; kernel_rfl), List.filter_cons_of_neg (by rw [Bool.not_eq_true]; kernel_rfl), List.filter_cons_of_neg (by rw [Bool.not_eq_true]; kernel_rfl), List.filter_cons_of_neg (by rw [Bool.not_eq_true]; kernel_rfl), List.filter_cons_of_neg (by rw [Bool.not_eq_true]; kernel_rfl), List.filter_cons_of_pos (by kernel_rfl), List.filter_cons_of_pos (by kernel_rfl), List.filter_cons_of_neg (by rw [Bool.not_eq_true]; kernel_rfl), List.filter_nil] at h
    exact h
  obtain ⟨a0, a1, s0, s1, c0, c1, t0, t1, hv0, hv1, _, _, _, _, _, _, hne, hb0, hb1⟩ := laid_sentinels2 h2 (g0 := 2) (g1 := 3) (by kernel_rfl) (by kernel_rfl) (by kernel_rfl) (by kernel_rfl) Tryd.underlying80 sent15_row Tryd.underlying143 Tryd.underlying169 rfl rfl Tryd.underlying9 (by kernel_rfl) (by kernel_rfl)
  exact ⟨a0, a1, c0, c1, t0, t1, hv0, hv1, hne, hb0, hb1⟩
theorem pair15_9_6 {w : World} (hL : laidMet Tryd.prog [("rabbet/fault.ErrValue", Rows.laid_rabbet_fault_ErrValue), ("rabbet/fault.ErrType", Rows.laid_rabbet_fault_ErrType), ("rabbet/fault.ErrBound", Rows.laid_rabbet_fault_ErrBound), ("rabbet/schema.errArg", Rows.laid_rabbet_schema_errArg), ("rabbet/schema.errNone", Rows.laid_rabbet_schema_errNone), ("rabbet/schema.errExist", Rows.laid_rabbet_schema_errExist), ("rabbet/schema.errType", Rows.laid_rabbet_schema_errType), ("rabbet/schema.errFull", Rows.laid_rabbet_schema_errFull)] w) : ∃ (a0 a1 : Addr) (c0 c1 : Array Value) (t0 t1 : TypeId), w.var? Tryd.prog "rabbet/schema.errExist" = some #[.iface 143 (.pointer (some a0))] ∧ w.var? Tryd.prog "rabbet/schema.errFull" = some #[.iface 143 (.pointer (some a1))] ∧ a0 ≠ a1 ∧ w.heap[a0.block]? = some (.cells c0 t0 (0, 0)) ∧ w.heap[a1.block]? = some (.cells c1 t1 (0, 0)) := by
  have h2 : laidMet Tryd.prog [("rabbet/schema.errExist", Rows.laid_rabbet_schema_errExist), ("rabbet/schema.errFull", Rows.laid_rabbet_schema_errFull)] w := by
    have h := hL.filter (fun x => x.1 == "rabbet/schema.errExist" || x.1 == "rabbet/schema.errFull")
    rw [List.filter_cons_of_neg (by rw [Bool.not_eq_true]; kernel_rfl), List.filter_cons_of_neg (by rw [Bool.not_eq_true]; kernel_rfl), List.filter_cons_of_neg (by rw [Bool.not_eq_true]; kernel_rfl), List.filter_cons_of_neg (by rw [Bool.not_eq_true]; kernel_rfl), List.filter_cons_of_neg (by rw [Bool.not_eq_true]; kernel_rfl), List.filter_cons_of_pos (by kernel_rfl), List.filter_cons_of_neg (by rw [Bool.not_eq_true]; kernel_rfl), List.filter_cons_of_pos (by kernel_rfl), List.filter_nil] at h
    exact h
  obtain ⟨a0, a1, s0, s1, c0, c1, t0, t1, hv0, hv1, _, _, _, _, _, _, hne, hb0, hb1⟩ := laid_sentinels2 h2 (g0 := 2) (g1 := 4) (by kernel_rfl) (by kernel_rfl) (by kernel_rfl) (by kernel_rfl) Tryd.underlying80 sent15_row Tryd.underlying143 Tryd.underlying169 rfl rfl Tryd.underlying9 (by kernel_rfl) (by kernel_rfl)
  exact ⟨a0, a1, c0, c1, t0, t1, hv0, hv1, hne, hb0, hb1⟩
theorem pair15_4_6 {w : World} (hL : laidMet Tryd.prog [("rabbet/fault.ErrValue", Rows.laid_rabbet_fault_ErrValue), ("rabbet/fault.ErrType", Rows.laid_rabbet_fault_ErrType), ("rabbet/fault.ErrBound", Rows.laid_rabbet_fault_ErrBound), ("rabbet/schema.errArg", Rows.laid_rabbet_schema_errArg), ("rabbet/schema.errNone", Rows.laid_rabbet_schema_errNone), ("rabbet/schema.errExist", Rows.laid_rabbet_schema_errExist), ("rabbet/schema.errType", Rows.laid_rabbet_schema_errType), ("rabbet/schema.errFull", Rows.laid_rabbet_schema_errFull)] w) : ∃ (a0 a1 : Addr) (c0 c1 : Array Value) (t0 t1 : TypeId), w.var? Tryd.prog "rabbet/schema.errType" = some #[.iface 143 (.pointer (some a0))] ∧ w.var? Tryd.prog "rabbet/schema.errFull" = some #[.iface 143 (.pointer (some a1))] ∧ a0 ≠ a1 ∧ w.heap[a0.block]? = some (.cells c0 t0 (0, 0)) ∧ w.heap[a1.block]? = some (.cells c1 t1 (0, 0)) := by
  have h2 : laidMet Tryd.prog [("rabbet/schema.errType", Rows.laid_rabbet_schema_errType), ("rabbet/schema.errFull", Rows.laid_rabbet_schema_errFull)] w := by
    have h := hL.filter (fun x => x.1 == "rabbet/schema.errType" || x.1 == "rabbet/schema.errFull")
    rw [List.filter_cons_of_neg (by rw [Bool.not_eq_true]; kernel_rfl), List.filter_cons_of_neg (by rw [Bool.not_eq_true]; kernel_rfl), List.filter_cons_of_neg (by rw [Bool.not_eq_true]; kernel_rfl), List.filter_cons_of_neg (by rw [Bool.not_eq_true]; kernel_rfl), List.filter_cons_of_neg (by rw [Bool.not_eq_true]; kernel_rfl), List.filter_cons_of_neg (by rw [Bool.not_eq_true]; kernel_rfl), List.filter_cons_of_pos (by kernel_rfl), List.filter_cons_of_pos (by kernel_rfl), List.filter_nil] at h
    exact h
  obtain ⟨a0, a1, s0, s1, c0, c1, t0, t1, hv0, hv1, _, _, _, _, _, _, hne, hb0, hb1⟩ := laid_sentinels2 h2 (g0 := 3) (g1 := 4) (by kernel_rfl) (by kernel_rfl) (by kernel_rfl) (by kernel_rfl) Tryd.underlying80 sent15_row Tryd.underlying143 Tryd.underlying169 rfl rfl Tryd.underlying9 (by kernel_rfl) (by kernel_rfl)
  exact ⟨a0, a1, c0, c1, t0, t1, hv0, hv1, hne, hb0, hb1⟩
theorem sents15 {w : World} (hL : laidMet Tryd.prog [("rabbet/fault.ErrValue", Rows.laid_rabbet_fault_ErrValue), ("rabbet/fault.ErrType", Rows.laid_rabbet_fault_ErrType), ("rabbet/fault.ErrBound", Rows.laid_rabbet_fault_ErrBound), ("rabbet/schema.errArg", Rows.laid_rabbet_schema_errArg), ("rabbet/schema.errNone", Rows.laid_rabbet_schema_errNone), ("rabbet/schema.errExist", Rows.laid_rabbet_schema_errExist), ("rabbet/schema.errType", Rows.laid_rabbet_schema_errType), ("rabbet/schema.errFull", Rows.laid_rabbet_schema_errFull)] w) : ∃ f, S15 w f := by
  obtain ⟨x1_3, y1_3, cx1_3, cy1_3, tx1_3, ty1_3, hx1_3, hy1_3, ne1_3, bx1_3, by1_3⟩ := pair15_1_3 hL
  obtain ⟨x1_9, y1_9, cx1_9, cy1_9, tx1_9, ty1_9, hx1_9, hy1_9, ne1_9, bx1_9, by1_9⟩ := pair15_1_9 hL
  obtain ⟨x1_4, y1_4, cx1_4, cy1_4, tx1_4, ty1_4, hx1_4, hy1_4, ne1_4, bx1_4, by1_4⟩ := pair15_1_4 hL
  obtain ⟨x1_6, y1_6, cx1_6, cy1_6, tx1_6, ty1_6, hx1_6, hy1_6, ne1_6, bx1_6, by1_6⟩ := pair15_1_6 hL
  obtain ⟨x3_9, y3_9, cx3_9, cy3_9, tx3_9, ty3_9, hx3_9, hy3_9, ne3_9, bx3_9, by3_9⟩ := pair15_3_9 hL
  obtain ⟨x3_4, y3_4, cx3_4, cy3_4, tx3_4, ty3_4, hx3_4, hy3_4, ne3_4, bx3_4, by3_4⟩ := pair15_3_4 hL
  obtain ⟨x3_6, y3_6, cx3_6, cy3_6, tx3_6, ty3_6, hx3_6, hy3_6, ne3_6, bx3_6, by3_6⟩ := pair15_3_6 hL
  obtain ⟨x9_4, y9_4, cx9_4, cy9_4, tx9_4, ty9_4, hx9_4, hy9_4, ne9_4, bx9_4, by9_4⟩ := pair15_9_4 hL
  obtain ⟨x9_6, y9_6, cx9_6, cy9_6, tx9_6, ty9_6, hx9_6, hy9_6, ne9_6, bx9_6, by9_6⟩ := pair15_9_6 hL
  obtain ⟨x4_6, y4_6, cx4_6, cy4_6, tx4_6, ty4_6, hx4_6, hy4_6, ne4_6, bx4_6, by4_6⟩ := pair15_4_6 hL
  obtain rfl := same_ptr hx1_3 hx1_9
  obtain rfl := same_ptr hx1_3 hx1_4
  obtain rfl := same_ptr hx1_3 hx1_6
  obtain rfl := same_ptr hy1_3 hx3_9
  obtain rfl := same_ptr hy1_9 hy3_9
  obtain rfl := same_ptr hy1_3 hx3_4
  obtain rfl := same_ptr hy1_4 hy3_4
  obtain rfl := same_ptr hy1_3 hx3_6
  obtain rfl := same_ptr hy1_6 hy3_6
  obtain rfl := same_ptr hy1_9 hx9_4
  obtain rfl := same_ptr hy1_4 hy9_4
  obtain rfl := same_ptr hy1_9 hx9_6
  obtain rfl := same_ptr hy1_6 hy9_6
  obtain rfl := same_ptr hy1_4 hx4_6
  obtain rfl := same_ptr hy1_6 hy4_6
  have h1 := World.var?_cell (P := Tryd.prog) (g := 1) (by kernel_rfl) hx1_3 0
  have h3 := World.var?_cell (P := Tryd.prog) (g := 0) (by kernel_rfl) hy1_3 0
  have h9 := World.var?_cell (P := Tryd.prog) (g := 2) (by kernel_rfl) hy1_9 0
  have h4 := World.var?_cell (P := Tryd.prog) (g := 3) (by kernel_rfl) hy1_4 0
  have h6 := World.var?_cell (P := Tryd.prog) (g := 4) (by kernel_rfl) hy1_6 0
  refine ⟨fun n => if n = 1 then x1_3 else if n = 3 then y1_3 else if n = 9 then y1_9 else if n = 4 then y1_4 else y1_6, by simpa using h1, by simpa using h3, by simpa using h9, by simpa using h4, by simpa using h6, fun n hn => ?_, fun m n hm hn hne => ?_⟩
  · simp only [List.mem_cons, List.not_mem_nil, or_false] at hn
    rcases hn with rfl | rfl | rfl | rfl | rfl
    · exact ⟨_, _, bx1_3⟩
    · exact ⟨_, _, by1_3⟩
    · exact ⟨_, _, by1_4⟩
    · exact ⟨_, _, by1_6⟩
    · exact ⟨_, _, by1_9⟩
  · simp only [List.mem_cons, List.not_mem_nil, or_false] at hm hn
    rcases hm with rfl | rfl | rfl | rfl | rfl <;> rcases hn with rfl | rfl | rfl | rfl | rfl
    · exact absurd rfl hne
    · exact ne1_3
    · exact ne1_4
    · exact ne1_6
    · exact ne1_9
    · exact (fun e => ne1_3 e.symm)
    · exact absurd rfl hne
    · exact ne3_4
    · exact ne3_6
    · exact ne3_9
    · exact (fun e => ne1_4 e.symm)
    · exact (fun e => ne3_4 e.symm)
    · exact absurd rfl hne
    · exact ne4_6
    · exact (fun e => ne9_4 e.symm)
    · exact (fun e => ne1_6 e.symm)
    · exact (fun e => ne3_6 e.symm)
    · exact (fun e => ne4_6 e.symm)
    · exact absurd rfl hne
    · exact (fun e => ne9_6 e.symm)
    · exact (fun e => ne1_9 e.symm)
    · exact (fun e => ne3_9 e.symm)
    · exact ne9_4
    · exact ne9_6
    · exact absurd rfl hne
theorem sents15s {w : World} (hL : laidMet Tryd.prog [("rabbet/fault.ErrValue", Rows.laid_rabbet_fault_ErrValue), ("rabbet/fault.ErrType", Rows.laid_rabbet_fault_ErrType), ("rabbet/fault.ErrBound", Rows.laid_rabbet_fault_ErrBound), ("rabbet/schema.errArg", Rows.laid_rabbet_schema_errArg), ("rabbet/schema.errNone", Rows.laid_rabbet_schema_errNone), ("rabbet/schema.errExist", Rows.laid_rabbet_schema_errExist), ("rabbet/schema.errType", Rows.laid_rabbet_schema_errType), ("rabbet/schema.errFull", Rows.laid_rabbet_schema_errFull)] w) : S3 w := by
  obtain ⟨a2, s2, hv2, _⟩ := laid_sentinel hL (g := 5) (by kernel_rfl) (by kernel_rfl) Tryd.underlying80 sent15_row Tryd.underlying143 Tryd.underlying169 rfl rfl Tryd.underlying9 (by kernel_rfl) (by kernel_rfl)
  obtain ⟨a4, s4, hv4, _⟩ := laid_sentinel hL.tail (g := 7) (by kernel_rfl) (by kernel_rfl) Tryd.underlying80 sent15_row Tryd.underlying143 Tryd.underlying169 rfl rfl Tryd.underlying9 (by kernel_rfl) (by kernel_rfl)
  obtain ⟨a3, s3, hv3, _⟩ := laid_sentinel hL.tail.tail (g := 6) (by kernel_rfl) (by kernel_rfl) Tryd.underlying80 sent15_row Tryd.underlying143 Tryd.underlying169 rfl rfl Tryd.underlying9 (by kernel_rfl) (by kernel_rfl)
  have h2 := World.var?_cell (P := Tryd.prog) (g := 5) (by kernel_rfl) hv2 0
  have h3 := World.var?_cell (P := Tryd.prog) (g := 6) (by kernel_rfl) hv3 0
  have h4 := World.var?_cell (P := Tryd.prog) (g := 7) (by kernel_rfl) hv4 0
  exact ⟨⟨a2, by simpa using h2⟩, ⟨a3, by simpa using h3⟩, ⟨a4, by simpa using h4⟩⟩
end Go.Proofs.YtklohbglkbhjhaaDoor
