/- The library's insertion sort, as it lies in this program. -/
import Derived.Test.YtiacemlloaenoaaDoorShelf
import Derived.Shelf.SlSortCmp.Insertion1
namespace Go.Proofs
open Go.Shelf
theorem Tryd.insI : Go.Proofs.SlLaysF.n20 Tryd.prog Tryd.laysSlF20_f40_ren := Tryd.laysSlF20_f40
end Go.Proofs
