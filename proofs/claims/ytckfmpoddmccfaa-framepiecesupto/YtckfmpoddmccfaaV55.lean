import Derived.Test.YtckfmpoddmccfaaV13
import Derived.Test.YtckfmpoddmccfaaV54
namespace Go.Proofs.Ytckfmpoddmccfaa
end Go.Proofs.Ytckfmpoddmccfaa
