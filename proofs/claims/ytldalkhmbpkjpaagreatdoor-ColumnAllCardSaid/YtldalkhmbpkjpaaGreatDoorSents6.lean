
import Derived.Test.YtldalkhmbpkjpaaGreatDoorNumB
import Derived.Test.YtldalkhmbpkjpaaGreatDoorRows
import Derived.Stop.LaidErr
import Derived.LaidSub
import Derived.Test.YtldalkhmbpkjpaaGreatDoorCell
/- What the row's list gives at the one sentinel of package num. -/

namespace Go.Proofs.YtldalkhmbpkjpaaGreatDoor
open Go.RowKit

theorem sent_row (u : TypeId) (h : Tryz.prog.typeName? 3 u = some "*errors.errorString") : u = 164 := by
  have star : "*" ++ "errors.errorString" = "*errors.errorString" := by decide
  exact typeName_ptr_named (nm := "errors.errorString") (by rw [star]; kernel_rfl) (by kernel_rfl) (by decide) u (by rw [star]; exact h)
theorem numSent {w : World} {r : List (String × DataW Unit)} (hL : laidMet Tryz.prog (("rabbet/num.errNone", Rows.laid_rabbet_num_errNone) :: r) w) : ∃ a, Sent w w.heap.size a := by
  obtain ⟨a, s, hv, _⟩ := laid_sentinel hL (g := 5) (by kernel_rfl) (by kernel_rfl) Tryz.underlying40 sent_row Tryz.underlying164 Tryz.underlying189 rfl rfl Tryz.underlying9 (by kernel_rfl) (by kernel_rfl)
  have hc : w.cell? ⟨5, 0, none⟩ = some (.iface 164 (.pointer (some a))) := by
    have := World.var?_cell (P := Tryz.prog) (g := 5) (by kernel_rfl) hv 0
    simpa using this
  exact ⟨a, hc, block_lt_of_cell hc⟩
end Go.Proofs.YtldalkhmbpkjpaaGreatDoor

/- What the rows' list gives at the six sentinels. -/

namespace Go.Proofs.YtldalkhmbpkjpaaGreatDoor
open Go.RowKit

theorem wf_u16 (n : Int) (h : (Lit.int .u16 n).wf = true) : 0 ≤ n ∧ n < (65536 : Nat) := by
  simp [Lit.wf, IntKind.min, IntKind.max, IntKind.signed, IntKind.bits] at h
  omega
theorem wf_i32 (n : Int) (h : (Lit.int .i32 n).wf = true) : -2147483648 ≤ n ∧ n ≤ 2147483647 := by
  simp [Lit.wf, IntKind.min, IntKind.max, IntKind.signed, IntKind.bits] at h
  omega
theorem wf_i16 (n : Int) (h : (Lit.int .i16 n).wf = true) : -32768 ≤ n ∧ n ≤ 32767 := by
  simp [Lit.wf, IntKind.min, IntKind.max, IntKind.signed, IntKind.bits] at h
  omega
theorem sixSents {w : World} {r : List (String × DataW Unit)} (hL : laidMet Tryz.prog (("rabbet/fault.ErrShort", Rows.laid_rabbet_fault_ErrShort) :: ("rabbet/fault.ErrSpare", Rows.laid_rabbet_fault_ErrSpare) :: ("rabbet/fault.ErrValue", Rows.laid_rabbet_fault_ErrValue) :: ("rabbet/fault.ErrType", Rows.laid_rabbet_fault_ErrType) :: ("rabbet/fault.ErrBound", Rows.laid_rabbet_fault_ErrBound) :: ("rabbet/num.errNone", Rows.laid_rabbet_num_errNone) :: r) w) : S6 w := by
  obtain ⟨a0, s0, hv0, _⟩ := laid_sentinel hL (g := 2) (by kernel_rfl) (by kernel_rfl) Tryz.underlying40 sent_row Tryz.underlying164 Tryz.underlying189 rfl rfl Tryz.underlying9 (by kernel_rfl) (by kernel_rfl)
  obtain ⟨a1, s1, hv1, _⟩ := laid_sentinel hL.tail (g := 4) (by kernel_rfl) (by kernel_rfl) Tryz.underlying40 sent_row Tryz.underlying164 Tryz.underlying189 rfl rfl Tryz.underlying9 (by kernel_rfl) (by kernel_rfl)
  obtain ⟨a2, s2, hv2, _⟩ := laid_sentinel hL.tail.tail (g := 1) (by kernel_rfl) (by kernel_rfl) Tryz.underlying40 sent_row Tryz.underlying164 Tryz.underlying189 rfl rfl Tryz.underlying9 (by kernel_rfl) (by kernel_rfl)
  obtain ⟨a4, s4, hv4, _⟩ := laid_sentinel hL.tail.tail.tail (g := 0) (by kernel_rfl) (by kernel_rfl) Tryz.underlying40 sent_row Tryz.underlying164 Tryz.underlying189 rfl rfl Tryz.underlying9 (by kernel_rfl) (by kernel_rfl)
  obtain ⟨a3, s3, hv3, _⟩ := laid_sentinel hL.tail.tail.tail.tail (g := 3) (by kernel_rfl) (by kernel_rfl) Tryz.underlying40 sent_row Tryz.underlying164 Tryz.underlying189 rfl rfl Tryz.underlying9 (by kernel_rfl) (by kernel_rfl)
  have h0 := World.var?_cell (P := Tryz.prog) (g := 2) (by kernel_rfl) hv0 0
  have h1 := World.var?_cell (P := Tryz.prog) (g := 4) (by kernel_rfl) hv1 0
  have h2 := World.var?_cell (P := Tryz.prog) (g := 1) (by kernel_rfl) hv2 0
  have h3 := World.var?_cell (P := Tryz.prog) (g := 3) (by kernel_rfl) hv3 0
  have h4 := World.var?_cell (P := Tryz.prog) (g := 0) (by kernel_rfl) hv4 0
  have c0 : w.cell? ⟨2, 0, none⟩ = some (.iface 164 (.pointer (some a0))) := by simpa using h0
  have c1 : w.cell? ⟨4, 0, none⟩ = some (.iface 164 (.pointer (some a1))) := by simpa using h1
  have c2 : w.cell? ⟨1, 0, none⟩ = some (.iface 164 (.pointer (some a2))) := by simpa using h2
  have c3 : w.cell? ⟨3, 0, none⟩ = some (.iface 164 (.pointer (some a3))) := by simpa using h3
  have c4 : w.cell? ⟨0, 0, none⟩ = some (.iface 164 (.pointer (some a4))) := by simpa using h4
  refine ⟨⟨a0, a2, a3, a4, c0, c2, c3, c4, fun g hg => ?_⟩, numSent hL.tail.tail.tail.tail.tail, ⟨a1, c1⟩⟩
  simp only [List.mem_cons, List.not_mem_nil, or_false] at hg
  rcases hg with rfl | rfl | rfl | rfl
  · exact block_lt_of_cell c0
  · exact block_lt_of_cell c2
  · exact block_lt_of_cell c3
  · exact block_lt_of_cell c4
end Go.Proofs.YtldalkhmbpkjpaaGreatDoor
