/- The exact laws of RunAlone, StepsAlone, EndRegs, and what opens their arguments. -/
import Derived.Test.YtmiopbpahkgmbaaRowI
import Derived.Test.YtmiopbpahkgmbaaAloneLaws
namespace Go.Proofs.Ytmiopbpahkgmbaa
end Go.Proofs.Ytmiopbpahkgmbaa
