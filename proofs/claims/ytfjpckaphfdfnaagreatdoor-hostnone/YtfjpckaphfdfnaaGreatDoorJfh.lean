/- No function of the cut starts a goroutine. -/
import Derived.Test.YtfjpckaphfdfnaaGreatDoorRows
import Derived.KernelRfl
import GoSem.ClaimGoes
namespace Go.Proofs.YtfjpckaphfdfnaaGreatDoor
open Go
theorem funcs_still : Tryz.prog.funcs.any Func.goes = false := by kernel_rfl
end Go.Proofs.YtfjpckaphfdfnaaGreatDoor
