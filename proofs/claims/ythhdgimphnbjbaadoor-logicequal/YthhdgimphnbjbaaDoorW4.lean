/- Walks: Cmp. -/
import Derived.Test.YthhdgimphnbjbaaDoorW3
namespace Go.Proofs.YthhdgimphnbjbaaDoor
open Go.RowKit
end Go.Proofs.YthhdgimphnbjbaaDoor
