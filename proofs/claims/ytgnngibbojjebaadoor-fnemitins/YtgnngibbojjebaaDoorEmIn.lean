/- All that is wanted of l1In. -/
import Derived.Test.YtgnngibbojjebaaDoorHmIn
namespace Go.Proofs.YtgnngibbojjebaaDoor
end Go.Proofs.YtgnngibbojjebaaDoor
