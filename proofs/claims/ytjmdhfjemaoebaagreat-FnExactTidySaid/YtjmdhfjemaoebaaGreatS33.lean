import Derived.Test.YtjmdhfjemaoebaaGreatS32
namespace Go.Proofs.YtjmdhfjemaoebaaGreat
set_option maxRecDepth 20000
open Go.RowKit Go.Am
attribute [local irreducible] aPlan aGet aIf aLoop aCall RetB NextB CallB CallG aCut aSet aAppend
end Go.Proofs.YtjmdhfjemaoebaaGreat
