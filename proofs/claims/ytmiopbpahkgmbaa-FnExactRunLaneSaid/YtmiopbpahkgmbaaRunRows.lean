/- RunLane's exact law and what opens its arguments. -/
import Derived.Test.YtmiopbpahkgmbaaRowI
import Derived.Test.YtmiopbpahkgmbaaRunLaws
namespace Go.Proofs.Ytmiopbpahkgmbaa
end Go.Proofs.Ytmiopbpahkgmbaa
