/- The walk of ZoneTrue. -/
import Derived.Test.YtmmkkkojbcelhaaDoorZoneTrue1
import Derived.Test.YtmmkkkojbcelhaaDoorZoneTrue2
import Derived.Test.YtmmkkkojbcelhaaDoorZoneTrue3
import Derived.Test.YtmmkkkojbcelhaaDoorZoneTrue4
import Derived.Test.YtmmkkkojbcelhaaDoorZoneTrue5
import Derived.Test.YtmmkkkojbcelhaaDoorZoneTrue6
import Derived.Test.YtmmkkkojbcelhaaDoorZoneTrue7
import Derived.Test.YtmmkkkojbcelhaaDoorZoneTrue8
namespace Go.Proofs.YtmmkkkojbcelhaaDoor
open Go.RowKit
set_option linter.unusedVariables false

theorem zoneTrue_walk (t : Nat) (A : Option Addr) (n c : Nat) (bs : List Nat) (op : Nat) (M : Option Addr) (m cm : Nat) (ms : List Nat) (w : World) (hs : S11 w) (ht : t < 256) (hop : op < 256) (hb : bs.length = n) (hn : n ≤ 60) (hr : Has w A (ints .u8 bs)) (h256 : ∀ x ∈ bs, x < 256) (hmb : ms.length = m) (hm : m ≤ 5) (hmr : Has w M (ints .u8 ms)) (hm256 : ∀ x ∈ ms, x < 256) :
    Calls Tryd.prog 3 #[.int .u8 t, .slice A n c, .int .u8 op, .slice M m cm] w fun e w' => e = .returned (.bool true) ∧ Later w w' := by
  have h8 : 1 + (op : Int) % 8 = 1 ∨ 1 + (op : Int) % 8 = 2 ∨ 1 + (op : Int) % 8 = 3 ∨ 1 + (op : Int) % 8 = 4 ∨ 1 + (op : Int) % 8 = 5 ∨ 1 + (op : Int) % 8 = 6 ∨ 1 + (op : Int) % 8 = 7 ∨ 1 + (op : Int) % 8 = 8 := by omega
  rcases h8 with h | h | h | h | h | h | h | h
  · exact zoneTrue_walk1 t A n c bs op M m cm ms w hs h ht hop hb hn hr h256 hmb hm hmr hm256
  · exact zoneTrue_walk2 t A n c bs op M m cm ms w hs h ht hop hb hn hr h256 hmb hm hmr hm256
  · exact zoneTrue_walk3 t A n c bs op M m cm ms w hs h ht hop hb hn hr h256 hmb hm hmr hm256
  · exact zoneTrue_walk4 t A n c bs op M m cm ms w hs h ht hop hb hn hr h256 hmb hm hmr hm256
  · exact zoneTrue_walk5 t A n c bs op M m cm ms w hs h ht hop hb hn hr h256 hmb hm hmr hm256
  · exact zoneTrue_walk6 t A n c bs op M m cm ms w hs h ht hop hb hn hr h256 hmb hm hmr hm256
  · exact zoneTrue_walk7 t A n c bs op M m cm ms w hs h ht hop hb hn hr h256 hmb hm hmr hm256
  · exact zoneTrue_walk8 t A n c bs op M m cm ms w hs h ht hop hb hn hr h256 hmb hm hmr hm256
end Go.Proofs.YtmmkkkojbcelhaaDoor
