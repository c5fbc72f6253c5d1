/- Walks: stretched, compareSizes, Cmp. -/
import Derived.Test.YthhdgimphnbjbaaDoorW2
namespace Go.Proofs.YthhdgimphnbjbaaDoor
open Go.RowKit

end Go.Proofs.YthhdgimphnbjbaaDoor
