/- All pieces. -/
import Derived.Test.YthlbockphdbpkaaDoorSd0a
import Derived.Test.YthlbockphdbpkaaDoorSd0b
import Derived.Test.YthlbockphdbpkaaDoorSd0c
import Derived.Test.YthlbockphdbpkaaDoorSd0d
import Derived.Test.YthlbockphdbpkaaDoorSd0e
import Derived.Test.YthlbockphdbpkaaDoorSd0f
namespace Go.Proofs.YthlbockphdbpkaaDoor
end Go.Proofs.YthlbockphdbpkaaDoor
