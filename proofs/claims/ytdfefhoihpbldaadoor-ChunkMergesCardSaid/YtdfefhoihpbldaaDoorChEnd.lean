/- All that a law of chunk asks for. -/
import Derived.Test.YtdfefhoihpbldaaDoorChAll
import Derived.Test.YtdfefhoihpbldaaDoorChunkMergesA
namespace Go.Proofs.YtdfefhoihpbldaaDoor
end Go.Proofs.YtdfefhoihpbldaaDoor
