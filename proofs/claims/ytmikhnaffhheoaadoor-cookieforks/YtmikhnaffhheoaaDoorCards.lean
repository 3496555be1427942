/-
  DERIVED. GIVEN WITH THE SEED: THE CARDS: each row of YtmikhnaffhheoaaDoorRows.lean that lists a variable, with what it lists TIED to the program's text (the seventh form; the later family's looks); each row that meets fmt, with fmt's text TOLD by the authors' own Lean function (tested against real Go, not proved from fmt's source: count such statements apart). THE CARD IS WHAT COUNTS. Prove the row's statement (the work); the ties are given (YtmikhnaffhheoaaDoorTie.lean); close each card by the builder's one call (the guide's Derived/Test/ToyasCard.lean, 'card_holds'). Laid BY PROGRAM, IN A SANDBOX (cutbox-door.mjs). By AI agents, Wed Nov 11 2026. No macro, syntax, notation, axiom, sorry.
-/
import Derived.Test.YtmikhnaffhheoaaDoorRows
import GoSem.ClaimSeven
namespace Go.Proofs.YtmikhnaffhheoaaDoor
namespace Rows

/-- THE TIED CARD OF 'trunklinelaw06.CookiePlays'. -/
def cookiePlaysCard : Claim7 := { stood := { row := cookiePlaysRow, standIns := [], harness := (true, "91d6c07306ad3585650811342949728f215ac9667949e374681b49caf39ee202"), looks := false }, kinds := [], alts := [], laidByText := true, laidKinds := [.data], laidTests := true, laidLooks := .later }
def CookiePlaysCardSaid : Prop := Claim7.holds Tryd.pinned (.plain (OpenSpec.ofChange cookiePlaysSpec)) cookiePlaysCard

/-- THE TIED CARD OF 'trunklinelaw06.CookieForks'. -/
def cookieForksCard : Claim7 := { stood := { row := cookieForksRow, standIns := [], harness := (true, "91d6c07306ad3585650811342949728f215ac9667949e374681b49caf39ee202"), looks := false }, kinds := [], alts := [], laidByText := true, laidKinds := [.data], laidTests := true, laidLooks := .later }
def CookieForksCardSaid : Prop := Claim7.holds Tryd.pinned (.plain (OpenSpec.ofChange cookieForksSpec)) cookieForksCard

/-- THE SECOND FORM's CARD OF 'trunklinelaw06.CookiePlays'. -/
def cookiePlaysUptoCard : Claim7 := { stood := { row := cookiePlaysUptoRow, standIns := [], harness := (true, "91d6c07306ad3585650811342949728f215ac9667949e374681b49caf39ee202"), looks := false }, kinds := [], alts := [], laidByText := true, laidKinds := [.data], laidTests := true, laidLooks := .later }
def CookiePlaysUptoCardSaid : Prop := Claim7.holds Tryd.pinned (.plain (OpenSpec.upto cookiePlaysSpec)) cookiePlaysUptoCard

/-- THE SECOND FORM's CARD OF 'trunklinelaw06.CookieForks'. -/
def cookieForksUptoCard : Claim7 := { stood := { row := cookieForksUptoRow, standIns := [], harness := (true, "91d6c07306ad3585650811342949728f215ac9667949e374681b49caf39ee202"), looks := false }, kinds := [], alts := [], laidByText := true, laidKinds := [.data], laidTests := true, laidLooks := .later }
def CookieForksUptoCardSaid : Prop := Claim7.holds Tryd.pinned (.plain (OpenSpec.upto cookieForksSpec)) cookieForksUptoCard
end Rows
end Go.Proofs.YtmikhnaffhheoaaDoor
