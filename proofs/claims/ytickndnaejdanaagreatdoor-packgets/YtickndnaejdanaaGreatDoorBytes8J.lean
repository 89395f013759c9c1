/- The eight bytes of a whole number; no Go function is walked here. -/
import Derived.Test.YtickndnaejdanaaGreatDoorWriterJ
namespace Go.Proofs.YtickndnaejdanaaGreatDoor

end Go.Proofs.YtickndnaejdanaaGreatDoor
