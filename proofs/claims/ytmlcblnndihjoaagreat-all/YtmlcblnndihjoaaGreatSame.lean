import Derived.Test.YtmlcblnndihjoaaGreatCanon
namespace Go.Proofs.YtmlcblnndihjoaaGreat
open Go.RowKit

end Go.Proofs.YtmlcblnndihjoaaGreat
