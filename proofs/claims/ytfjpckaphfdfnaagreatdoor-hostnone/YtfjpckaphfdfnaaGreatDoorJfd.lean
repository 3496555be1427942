/- Closed facts of HostNone, reckoned alone. -/
import Derived.Test.YtfjpckaphfdfnaaGreatDoorRows
import Derived.KernelRfl
import Derived.JoinedOf
namespace Go.Proofs.YtfjpckaphfdfnaaGreatDoor.hostNone
open Go
theorem jk24 : (Tryz.prog.mayEnter) = true := by kernel_rfl
end Go.Proofs.YtfjpckaphfdfnaaGreatDoor.hostNone
