/- The other exact laws of lanes and what opens their arguments. -/
import Derived.Test.YtimkcgbhkbchfaaRowI
import Derived.Test.YtimkcgbhkbchfaaLaneLawsB
import Derived.Test.YtimkcgbhkbchfaaLaneLawsC
namespace Go.Proofs.Ytimkcgbhkbchfaa
end Go.Proofs.Ytimkcgbhkbchfaa
