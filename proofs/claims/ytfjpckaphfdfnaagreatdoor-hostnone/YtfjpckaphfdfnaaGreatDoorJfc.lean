/- Closed facts of HostNone, reckoned alone. -/
import Derived.Test.YtfjpckaphfdfnaaGreatDoorRows
import Derived.KernelRfl
import Derived.JoinedOf
namespace Go.Proofs.YtfjpckaphfdfnaaGreatDoor.hostNone
open Go
theorem jk11 : (Rows.hostNoneRow.unfollowed == Tryz.prog.unfollowed 3) = true := by kernel_rfl
end Go.Proofs.YtfjpckaphfdfnaaGreatDoor.hostNone
