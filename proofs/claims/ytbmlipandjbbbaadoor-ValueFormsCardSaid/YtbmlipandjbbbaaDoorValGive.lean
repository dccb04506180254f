/- Value's Put, May, Fits as the laws ask them. -/
import Derived.Test.YtbmlipandjbbbaaDoorValPutR
import Derived.Test.YtbmlipandjbbbaaDoorValC
import Derived.Test.YtbmlipandjbbbaaDoorValTakeC
import Derived.Test.YtbmlipandjbbbaaDoorRefTakeA
import Derived.Test.YtbmlipandjbbbaaDoorRefCmp
namespace Go.Proofs.YtbmlipandjbbbaaDoor
open Go.RowKit
set_option linter.unusedVariables false

/-- A call that gives bytes of its own. -/
def Gives (l : List Nat) (w : World) (e : Ending) (w' : World) : Prop :=
  ∃ A c, e = .returned (.slice A l.length c) ∧ Has w' A (ints .u8 l) ∧ l.length ≤ c ∧ c ≤ 9223372036854775807 ∧ (A = none → c = 0) ∧ Later w w'
theorem own_capmax {w : World} {base : Nat} {e : TypeId} {A : Option Addr} {c : Nat} {n : Nat} {xs : List Value} (h : w.ownsRow base e 1 (.slice A n c) n xs) : c ≤ 9223372036854775807 := by
  rcases h.2 with ⟨h1, rfl⟩ | ⟨g, cap, cur, h1, _, _, _, h2, _⟩
  · injection h1 with _ _ h1; omega
  · injection h1 with _ _ h1
    unfold maxLen at h2
    omega
theorem Makes.gives {l : List Nat} {w : World} {e : Ending} {w' : World} (h : Makes l w e w') : Gives l w e w' := by
  obtain ⟨A, c, rfl, ho, hb, hn⟩ := h
  exact ⟨A, c, rfl, Has.own ho, own_cap ho, own_capmax ho, hn, hb⟩
def TellsP (p : Prop) (w : World) (e : Ending) (w' : World) : Prop := ∃ r : Bool, (r = true ↔ p) ∧ e = .returned (.bool r) ∧ Later w w'

theorem valPut_l (t i : Int) (s : ByteArray) (w : World) (hs : Sn w) (hm : MayV t i s.size) : Calls Tryd.prog 19 #[vagg t i s] w (Gives (putB t i s) w) := by
  obtain ⟨a0, a2, a3, a4, S⟩ := hs
  exact (valPut_yes t i s a0 a2 a3 a4 w S hm).mono fun _ _ h => h.gives
theorem valPut_n (t i : Int) (s : ByteArray) (w : World) (hs : Sn w) (hm : ¬ MayV t i s.size) : Calls Tryd.prog 19 #[vagg t i s] w fun e w' => e = .returned (.slice none 0 0) ∧ Later w w' := by
  obtain ⟨a0, a2, a3, a4, S⟩ := hs
  exact valPut_no t i s a0 a2 a3 a4 w S hm
theorem refPut_l (t i : Int) (s : ByteArray) (w : World) (hm : MayV t i s.size) : Calls Tryd.prog 20 #[vagg t i s] w (Gives (putB t i s) w) :=
  (refPut_yes t i s w hm).mono fun _ _ h => h.gives
theorem refPut_n (t i : Int) (s : ByteArray) (w : World) (hm : ¬ MayV t i s.size) : Calls Tryd.prog 20 #[vagg t i s] w fun e w' => e = .returned (.slice none 0 0) ∧ Later w w' := refPut_no t i s w hm
theorem may_l (t i : Int) (s : ByteArray) (w : World) (hs : Sn w) : Calls Tryd.prog 15 #[vagg t i s] w (TellsP (MayV t i s.size) w) := by
  obtain ⟨a0, a2, a3, a4, S⟩ := hs
  exact may_any t i s a0 a2 a3 a4 w S
theorem fits_l (t vt i : Int) (s : ByteArray) (w : World) (hs : Sn w) : Calls Tryd.prog 17 #[.int .i64 t, vagg vt i s] w (TellsP (FitsV t vt i s.size) w) := by
  obtain ⟨a0, a2, a3, a4, S⟩ := hs
  exact fits_any t vt i s a0 a2 a3 a4 w S
theorem refMay_l (t i : Int) (s : ByteArray) (w : World) : Calls Tryd.prog 16 #[vagg t i s] w (TellsP (MayV t i s.size) w) := refMay_any t i s w
theorem refFits_l (t vt i : Int) (s : ByteArray) (w : World) : Calls Tryd.prog 18 #[.int .i64 t, vagg vt i s] w (TellsP (FitsV t vt i s.size) w) := refFits_any t vt i s w
theorem TakesV.no {b : List Nat} {w w' : World} {e : Ending} (h : TakesV b w e w') (hn : takeV b = none) : e = .returned (.tuple #[vagg 0 0 ⟨#[]⟩, .int .i64 0, .bool false]) ∧ Later w w' := by
  obtain ⟨h | ⟨t, i, l, n, h, _⟩, l⟩ := h
  · exact ⟨h.2, l⟩
  · rw [hn] at h; cases h
theorem TakesV.yes {b : List Nat} {w w' : World} {e : Ending} {t : Nat} {i : Int} {l : List Nat} {n : Nat} (h : TakesV b w e w') (hs : takeV b = some (t, i, l, n)) : e = .returned (.tuple #[vagg t i (bstr l), .int .i64 (n : Int), .bool true]) ∧ Later w w' := by
  obtain ⟨⟨h, _⟩ | ⟨t', i', l', n', h, rfl⟩, l⟩ := h
  · rw [hs] at h; cases h
  · rw [hs] at h; cases h; exact ⟨rfl, l⟩
theorem TellsP.yes {p : Prop} (hp : p) {w w' : World} {e : Ending} (h : TellsP p w e w') : e = .returned (.bool true) ∧ Later w w' := by
  obtain ⟨r, hr, rfl, l⟩ := h
  rw [hr.2 hp]; exact ⟨rfl, l⟩
theorem TellsP.no {p : Prop} (hp : ¬ p) {w w' : World} {e : Ending} (h : TellsP p w e w') : e = .returned (.bool false) ∧ Later w w' := by
  obtain ⟨r, hr, rfl, l⟩ := h
  cases r
  · exact ⟨rfl, l⟩
  · exact absurd (hr.1 rfl) hp
end Go.Proofs.YtbmlipandjbbbaaDoor
