/- What pack.Sum and EqBytes of lagoonref00 answer: the Adler-32 sum of the bytes that are given; whether two lists of bytes are the same. -/
import Derived.Test.YtnnphmeocoijkaaProg
import Derived.Test.YtnnphmeocoijkaaBase
namespace Go.Proofs.Ytnnphmeocoijkaa
open Go.RowKit
set_option maxRecDepth 8000

end Go.Proofs.Ytnnphmeocoijkaa
