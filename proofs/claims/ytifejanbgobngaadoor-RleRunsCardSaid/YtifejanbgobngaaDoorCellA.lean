/- Walks of package cell: Type, Count. -/
import Derived.Test.YtifejanbgobngaaDoorNumA
import Derived.Test.YtifejanbgobngaaDoorLater
namespace Go.Proofs.YtifejanbgobngaaDoor
open Go.RowKit
set_option linter.unusedVariables false

/-- The sentinel in global g. -/
def CSent (w : World) (g : Nat) : Prop := ∃ a : Addr, w.cell? ⟨g, 0, none⟩ = some (.iface 121 (.pointer (some a)))
theorem CSent.later {w w' : World} {g : Nat} (h : CSent w g) (l : Later w w') : CSent w' g := h.elim fun a h => ⟨a, l.cell h⟩
/-- An error of fault.At. -/
def Where (v : Value) : Prop := ∃ p : Addr, v = .iface 90 (.pointer (some p))

theorem type_yes (t : Int) (w : World) (h : 1 ≤ t ∧ t ≤ 4) :
    Calls Tryd.prog 63 #[.int .i64 t] w fun e w' => e = .returned .nilIface ∧ w = w' := by
  have h1 : ¬ t < 1 := by omega
  have h2 : ¬ 4 < t := by omega
  clear h
  go_enter Tryd.func63, Tryd.ntmps63
  go_wp2_with fail
  go_ret
  exact ⟨rfl, rfl⟩
theorem type_no (t : Int) (w : World) (h : ¬ (1 ≤ t ∧ t ≤ 4)) (hs : CSent w 4) :
    Calls Tryd.prog 63 #[.int .i64 t] w fun e w' => ∃ v, e = .returned v ∧ Where v ∧ Later w w' := by
  obtain ⟨a, hc⟩ := hs
  have L := Lib.hid fun o => Later.new w o
  by_cases h1 : t < 1
  · go_enter Tryd.func63, Tryd.ntmps63
    go_wp2_with (go_at_call 53; refine (at_any _ _ _ _ _ rfl).mono ?_; rintro e w' ⟨rfl, rfl⟩)
    go_ret
    exact ⟨_, rfl, ⟨_, rfl⟩, L.out _⟩
  · have h2 : 4 < t := by omega
    go_enter Tryd.func63, Tryd.ntmps63
    go_wp2_with (go_at_call 53; refine (at_any _ _ _ _ _ rfl).mono ?_; rintro e w' ⟨rfl, rfl⟩)
    go_ret
    exact ⟨_, rfl, ⟨_, rfl⟩, L.out _⟩
theorem count_yes (t n : Int) (w : World) (h : 1 ≤ t ∧ t ≤ 4) (hn : 0 ≤ n ∧ n ≤ 1000) :
    Calls Tryd.prog 51 #[.int .i64 t, .int .i64 n] w fun e w' => e = .returned .nilIface ∧ w = w' := by
  have h1 : ¬ n < 0 := by omega
  have h2 : ¬ 1000 < n := by omega
  have H := Lib.hid (type_yes t w h)
  clear h hn
  go_enter Tryd.func51, Tryd.ntmps51
  go_wp2_with (go_at_call 63; refine H.out.mono ?_; rintro e w' ⟨rfl, rfl⟩)
  go_ret
  exact ⟨rfl, rfl⟩
theorem count_no (t n : Int) (w : World) (h : ¬ ((1 ≤ t ∧ t ≤ 4) ∧ 0 ≤ n ∧ n ≤ 1000)) (hs : CSent w 4) (hb : CSent w 3) :
    Calls Tryd.prog 51 #[.int .i64 t, .int .i64 n] w fun e w' => ∃ v, e = .returned v ∧ Where v ∧ Later w w' := by
  obtain ⟨a, hc⟩ := hb
  have L := Lib.hid fun o => Later.new w o
  by_cases h1 : n < 0
  · go_enter Tryd.func51, Tryd.ntmps51
    go_wp2_with (go_at_call 53; refine (at_any _ _ _ _ _ rfl).mono ?_; rintro e w' ⟨rfl, rfl⟩)
    go_ret
    exact ⟨_, rfl, ⟨_, rfl⟩, L.out _⟩
  · by_cases h2 : 1000 < n
    · go_enter Tryd.func51, Tryd.ntmps51
      go_wp2_with (go_at_call 53; refine (at_any _ _ _ _ _ rfl).mono ?_; rintro e w' ⟨rfl, rfl⟩)
      go_ret
      exact ⟨_, rfl, ⟨_, rfl⟩, L.out _⟩
    · have H := Lib.hid (type_no t w (by omega) hs)
      clear hs hc L
      go_enter Tryd.func51, Tryd.ntmps51
      go_wp2_with (go_at_call 63; refine H.out.mono ?_; rintro e w' ⟨v, rfl, ⟨p, rfl⟩, L⟩)
      go_ret
      exact ⟨_, rfl, ⟨_, rfl⟩, L⟩
end Go.Proofs.YtifejanbgobngaaDoor
