import Derived.Test.YtckfmpoddmccfaaU13
import Derived.Test.YtckfmpoddmccfaaU54
namespace Go.Proofs.Ytckfmpoddmccfaa
end Go.Proofs.Ytckfmpoddmccfaa
