/- Closed facts of HostNone, reckoned alone. -/
import Derived.Test.YtfjpckaphfdfnaaGreatDoorRows
import Derived.KernelRfl
import Derived.JoinedOf
namespace Go.Proofs.YtfjpckaphfdfnaaGreatDoor.hostNone
open Go
theorem jk10 : (Rows.hostNoneRow.inPlace == Tryz.prog.inPlace 3) = true := by kernel_rfl
end Go.Proofs.YtfjpckaphfdfnaaGreatDoor.hostNone
