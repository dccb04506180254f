/- Walks of bytes.Equal; of package cell: Same. -/
import Derived.Test.YtfcedbhmbcbiaaaGreatDoorLists
namespace Go.Proofs.YtfcedbhmbcbiaaaGreatDoor
open Go.RowKit
set_option linter.unusedVariables false

theorem bytesEq_yes (A B : Option Addr) (n m ca cb : Nat) (a : List Nat) (w : World) (hn : n = a.length) (hm : m = a.length) (ha : Has w A (ints .u8 a)) (hb : Has w B (ints .u8 a)) :
    Calls Tryz.prog 71 #[.slice A n ca, .slice B m cb] w fun e w' => e = .returned (.bool true) ∧ w = w' := by
  have c1 := conv_str A n ca a hn w _ ha
  have c2 := conv_str B m cb a hm w _ hb
  clear ha hb hn hm
  go_enter Tryz.func71, Tryz.ntmps71
  go_wp2_with fail
  go_ret
  exact ⟨rfl, rfl⟩
theorem bytesEq_no (A B : Option Addr) (n m ca cb : Nat) (a b : List Nat) (w : World) (hn : n = a.length) (hm : m = b.length) (ha : Has w A (ints .u8 a)) (hb : Has w B (ints .u8 b)) (h1 : ∀ x ∈ a, x < 256) (h2 : ∀ x ∈ b, x < 256) (hne : a ≠ b) :
    Calls Tryz.prog 71 #[.slice A n ca, .slice B m cb] w fun e w' => e = .returned (.bool false) ∧ w = w' := by
  have c1 := conv_str A n ca a hn w _ ha
  have c2 := conv_str B m cb b hm w _ hb
  have hbn := bstr_ne h1 h2 hne
  clear ha hb hn hm h1 h2 hne
  go_enter Tryz.func71, Tryz.ntmps71
  go_wp2_with fail
  go_ret
  exact ⟨rfl, rfl⟩
theorem cellSame_yes (L B X : Option Addr) (n cl m cb mx cx : Nat) (b : List Nat) (w : World) (hm : m = b.length) (hx : mx = b.length) (hb : Has w B (ints .u8 b)) (hX : Has w X (ints .u8 b)) :
    Calls Tryz.prog 47 #[.slice L n cl, .slice B m cb, .slice X mx cx, .nilIface] w fun e w' => e = .returned (.tuple #[.slice L n cl, .nilIface]) ∧ w = w' := by
  have HE := Lib.hid (bytesEq_yes X B mx m cx cb b w hx hm hX hb)
  clear hb hX hm hx
  go_enter Tryz.func47, Tryz.ntmps47
  go_wp2_with (go_at_call 71; refine HE.out.mono ?_; rintro e w' ⟨rfl, rfl⟩)
  go_ret2
  exact ⟨rfl, rfl⟩
theorem cellSame_no (L B X : Option Addr) (n cl m cb mx cx : Nat) (b x : List Nat) (w : World) (hs : S6 w) (hm : m = b.length) (hx : mx = x.length) (hb : Has w B (ints .u8 b)) (hX : Has w X (ints .u8 x)) (h1 : ∀ y ∈ x, y < 256) (h2 : ∀ y ∈ b, y < 256) (hne : x ≠ b) :
    Calls Tryz.prog 47 #[.slice L n cl, .slice B m cb, .slice X mx cx, .nilIface] w fun e w' => (∃ p, e = .returned (.tuple #[.slice none 0 0, .iface 96 (.pointer (some p))])) ∧ Later w w' := by
  have hif : Tryz.prog.isIface 47 = true := by kernel_rfl
  have HE := Lib.hid (bytesEq_no X B mx m cx cb x b w hx hm hX hb h1 h2 hne)
  obtain ⟨sv, hsv⟩ := hs.spare
  clear hb hX hm hx hs h1 h2 hne
  go_enter Tryz.func47, Tryz.ntmps47
  go_wp2_with (first
    | (go_at_call 71; refine HE.out.mono ?_; rintro e w' ⟨rfl, rfl⟩)
    | (go_at_call 38; refine (at_l _ _ _ _).mono ?_; rintro e w3 ⟨q, rfl, l3⟩; have heq := run_eql_iface_nil (P := Tryz.prog) (w := w3) 47 hif 96 (.pointer (some q))))
  go_ret2
  exact ⟨⟨q, rfl⟩, l3⟩
theorem cellSame_err (L B X : Option Addr) (n cl m cb mx cx : Nat) (p : Addr) (w : World) :
    Calls Tryz.prog 47 #[.slice L n cl, .slice B m cb, .slice X mx cx, .iface 96 (.pointer (some p))] w fun e w' => e = .returned (.tuple #[.slice none 0 0, .iface 96 (.pointer (some p))]) ∧ w = w' := by
  have hif : Tryz.prog.isIface 47 = true := by kernel_rfl
  have heq := run_eql_iface_nil (P := Tryz.prog) (w := w) 47 hif 96 (.pointer (some p))
  go_enter Tryz.func47, Tryz.ntmps47
  go_wp2_with fail
  go_ret2
  exact ⟨rfl, rfl⟩
end Go.Proofs.YtfcedbhmbcbiaaaGreatDoor
