/- RippleDelete of both programs, together (promise 7). -/
import Derived.Test.YtlpnapmjflkheaaRdS
import Derived.Test.YtlpnapmjflkheaaRdI
import Derived.Test.YtlpnapmjflkheaaRpW
namespace Go.Proofs.Ytlpnapmjflkheaa

end Go.Proofs.Ytlpnapmjflkheaa
