/- LocalStep's exact law and what opens its arguments. -/
import Derived.Test.YtmiopbpahkgmbaaRowI
import Derived.Test.YtmiopbpahkgmbaaLaneLaws
namespace Go.Proofs.Ytmiopbpahkgmbaa
end Go.Proofs.Ytmiopbpahkgmbaa
