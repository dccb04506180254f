/- SchemaIDs where it has nothing to do. -/
import Derived.Test.YtklohbglkbhjhaaDoorIdsA
namespace Go.Proofs.YtklohbglkbhjhaaDoor
open Go.RowKit
set_option linter.unusedVariables false

set_option maxRecDepth 100000 in
set_option maxHeartbeats 4000000 in
theorem schemaIDs_long (A : Option Addr) (n c : Nat) (A2 : Option Addr) (n2 c2 : Nat) (w : World) (f : Int → Addr) (hs : S15 w f) (h3 : S3 w) (hn : 60 < n ∨ 60 < n2) :
    Calls Tryd.prog 7 #[.slice A n c, .slice A2 n2 c2] w fun e w' => e = .returned (.bool true) ∧ Later w w' := by
  have HB := Lib.hid (begun15_any w f hs h3)
  have HN := Lib.hid hn
  clear hs h3 hn
  go_enter Tryd.func7, Tryd.ntmps7
  go_wp2_with fail
  refine HB.out.mono ?_
  rintro e w1 ⟨rfl, l1⟩
  have HL1 := Lib.hid l1
  clear l1 HB
  by_cases h1 : 60 < n
  · have hn0 : (60 : Int) < (n : Int) := by omega
    go_wp2_with fail
    go_ret
    exact ⟨rfl, HL1.out⟩
  · have h2 : 60 < n2 := HN.out.resolve_left h1
    have hn0 : ¬ (60 : Int) < (n : Int) := by omega
    have hn60 : (60 : Int) < (n2 : Int) := by omega
    go_wp2_with fail
    go_ret
    exact ⟨rfl, HL1.out⟩

end Go.Proofs.YtklohbglkbhjhaaDoor
