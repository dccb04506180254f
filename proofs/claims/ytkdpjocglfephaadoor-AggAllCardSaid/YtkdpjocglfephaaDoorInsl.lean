import Derived.Test.YtkdpjocglfephaaDoorShelf
import Derived.Shelf.SlSortCmp.Insertion1
namespace Go.Proofs
open Go.Shelf
theorem Tryd.insI : Go.Proofs.SlLaysF.n20 Tryd.prog Tryd.laysSlF20_f92_ren := Tryd.laysSlF20_f92
end Go.Proofs
