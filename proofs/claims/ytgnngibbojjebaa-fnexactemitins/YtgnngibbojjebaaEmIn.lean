/- All that is wanted of l1In. -/
import Derived.Test.YtgnngibbojjebaaHmIn
namespace Go.Proofs.Ytgnngibbojjebaa
end Go.Proofs.Ytgnngibbojjebaa
