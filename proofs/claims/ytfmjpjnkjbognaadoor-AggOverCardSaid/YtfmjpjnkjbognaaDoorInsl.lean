/- The laying of the insertion sort, under another name. -/
import Derived.Test.YtfmjpjnkjbognaaDoorShelf
namespace Go.Proofs
open Go.Shelf
theorem Tryd.insI : Go.Proofs.SlLaysF.n20 Tryd.prog Tryd.laysSlF20_f56_ren := Tryd.laysSlF20_f56
end Go.Proofs
