/-
  DERIVED. GIVEN WITH THE SEED: THE CARDS: each row of YtlkclaehamidbaaDoorRows.lean that lists a variable, with what it lists TIED to the program's text (the seventh form; the later family's looks); each row that meets fmt, with fmt's text TOLD by the authors' own Lean function (tested against real Go, not proved from fmt's source: count such statements apart). THE CARD IS WHAT COUNTS. Prove the row's statement (the work); the ties are given (YtlkclaehamidbaaDoorTie.lean); close each card by the builder's one call (the guide's Derived/Test/ToyasCard.lean, 'card_holds'). Laid BY PROGRAM, IN A SANDBOX (cutbox-door.mjs). By AI agents, Wed Nov 11 2026. No macro, syntax, notation, axiom, sorry.
-/
import Derived.Test.YtlkclaehamidbaaDoorRows
import GoSem.ClaimSeven
namespace Go.Proofs.YtlkclaehamidbaaDoor
namespace Rows

/-- THE TIED CARD OF 'trunklinelaw06.CookiePlays'. -/
def cookiePlaysCard : Claim7 := { stood := { row := cookiePlaysRow, standIns := [], harness := (true, "6d1b2c121cc7264a2cba7328cfb3acc145b4f7e0c57547ea2380c17dae4cf9a8"), looks := false }, kinds := [], alts := [], laidByText := true, laidKinds := [.data], laidTests := true, laidLooks := .later }
def CookiePlaysCardSaid : Prop := Claim7.holds Tryd.pinned (.plain (OpenSpec.ofChange cookiePlaysSpec)) cookiePlaysCard

/-- THE TIED CARD OF 'trunklinelaw06.CookieBack'. -/
def cookieBackCard : Claim7 := { stood := { row := cookieBackRow, standIns := [], harness := (true, "6d1b2c121cc7264a2cba7328cfb3acc145b4f7e0c57547ea2380c17dae4cf9a8"), looks := false }, kinds := [], alts := [], laidByText := true, laidKinds := [.data], laidTests := true, laidLooks := .later }
def CookieBackCardSaid : Prop := Claim7.holds Tryd.pinned (.plain (OpenSpec.ofChange cookieBackSpec)) cookieBackCard

/-- THE TIED CARD OF 'trunklinelaw06.CookieLife'. -/
def cookieLifeCard : Claim7 := { stood := { row := cookieLifeRow, standIns := [], harness := (true, "6d1b2c121cc7264a2cba7328cfb3acc145b4f7e0c57547ea2380c17dae4cf9a8"), looks := false }, kinds := [], alts := [], laidByText := true, laidKinds := [.data], laidTests := true, laidLooks := .later }
def CookieLifeCardSaid : Prop := Claim7.holds Tryd.pinned (.plain (OpenSpec.ofChange cookieLifeSpec)) cookieLifeCard

/-- THE TIED CARD OF 'trunklinelaw06.CookieLays'. -/
def cookieLaysCard : Claim7 := { stood := { row := cookieLaysRow, standIns := [], harness := (true, "6d1b2c121cc7264a2cba7328cfb3acc145b4f7e0c57547ea2380c17dae4cf9a8"), looks := false }, kinds := [], alts := [], laidByText := true, laidKinds := [.data], laidTests := true, laidLooks := .later }
def CookieLaysCardSaid : Prop := Claim7.holds Tryd.pinned (.plain (OpenSpec.ofChange cookieLaysSpec)) cookieLaysCard

/-- THE TIED CARD OF 'trunklinelaw06.CookieForks'. -/
def cookieForksCard : Claim7 := { stood := { row := cookieForksRow, standIns := [], harness := (true, "6d1b2c121cc7264a2cba7328cfb3acc145b4f7e0c57547ea2380c17dae4cf9a8"), looks := false }, kinds := [], alts := [], laidByText := true, laidKinds := [.data], laidTests := true, laidLooks := .later }
def CookieForksCardSaid : Prop := Claim7.holds Tryd.pinned (.plain (OpenSpec.ofChange cookieForksSpec)) cookieForksCard

/-- THE TIED CARD OF 'trunklinelaw06.CookieNone'. -/
def cookieNoneCard : Claim7 := { stood := { row := cookieNoneRow, standIns := [], harness := (true, "6d1b2c121cc7264a2cba7328cfb3acc145b4f7e0c57547ea2380c17dae4cf9a8"), looks := false }, kinds := [], alts := [], laidByText := true, laidKinds := [.data], laidTests := true, laidLooks := .later }
def CookieNoneCardSaid : Prop := Claim7.holds Tryd.pinned (.plain (OpenSpec.ofChange cookieNoneSpec)) cookieNoneCard

/-- THE SECOND FORM's CARD OF 'trunklinelaw06.CookiePlays'. -/
def cookiePlaysUptoCard : Claim7 := { stood := { row := cookiePlaysUptoRow, standIns := [], harness := (true, "6d1b2c121cc7264a2cba7328cfb3acc145b4f7e0c57547ea2380c17dae4cf9a8"), looks := false }, kinds := [], alts := [], laidByText := true, laidKinds := [.data], laidTests := true, laidLooks := .later }
def CookiePlaysUptoCardSaid : Prop := Claim7.holds Tryd.pinned (.plain (OpenSpec.upto cookiePlaysSpec)) cookiePlaysUptoCard

/-- THE SECOND FORM's CARD OF 'trunklinelaw06.CookieBack'. -/
def cookieBackUptoCard : Claim7 := { stood := { row := cookieBackUptoRow, standIns := [], harness := (true, "6d1b2c121cc7264a2cba7328cfb3acc145b4f7e0c57547ea2380c17dae4cf9a8"), looks := false }, kinds := [], alts := [], laidByText := true, laidKinds := [.data], laidTests := true, laidLooks := .later }
def CookieBackUptoCardSaid : Prop := Claim7.holds Tryd.pinned (.plain (OpenSpec.upto cookieBackSpec)) cookieBackUptoCard

/-- THE SECOND FORM's CARD OF 'trunklinelaw06.CookieLife'. -/
def cookieLifeUptoCard : Claim7 := { stood := { row := cookieLifeUptoRow, standIns := [], harness := (true, "6d1b2c121cc7264a2cba7328cfb3acc145b4f7e0c57547ea2380c17dae4cf9a8"), looks := false }, kinds := [], alts := [], laidByText := true, laidKinds := [.data], laidTests := true, laidLooks := .later }
def CookieLifeUptoCardSaid : Prop := Claim7.holds Tryd.pinned (.plain (OpenSpec.upto cookieLifeSpec)) cookieLifeUptoCard

/-- THE SECOND FORM's CARD OF 'trunklinelaw06.CookieLays'. -/
def cookieLaysUptoCard : Claim7 := { stood := { row := cookieLaysUptoRow, standIns := [], harness := (true, "6d1b2c121cc7264a2cba7328cfb3acc145b4f7e0c57547ea2380c17dae4cf9a8"), looks := false }, kinds := [], alts := [], laidByText := true, laidKinds := [.data], laidTests := true, laidLooks := .later }
def CookieLaysUptoCardSaid : Prop := Claim7.holds Tryd.pinned (.plain (OpenSpec.upto cookieLaysSpec)) cookieLaysUptoCard

/-- THE SECOND FORM's CARD OF 'trunklinelaw06.CookieForks'. -/
def cookieForksUptoCard : Claim7 := { stood := { row := cookieForksUptoRow, standIns := [], harness := (true, "6d1b2c121cc7264a2cba7328cfb3acc145b4f7e0c57547ea2380c17dae4cf9a8"), looks := false }, kinds := [], alts := [], laidByText := true, laidKinds := [.data], laidTests := true, laidLooks := .later }
def CookieForksUptoCardSaid : Prop := Claim7.holds Tryd.pinned (.plain (OpenSpec.upto cookieForksSpec)) cookieForksUptoCard

/-- THE SECOND FORM's CARD OF 'trunklinelaw06.CookieNone'. -/
def cookieNoneUptoCard : Claim7 := { stood := { row := cookieNoneUptoRow, standIns := [], harness := (true, "6d1b2c121cc7264a2cba7328cfb3acc145b4f7e0c57547ea2380c17dae4cf9a8"), looks := false }, kinds := [], alts := [], laidByText := true, laidKinds := [.data], laidTests := true, laidLooks := .later }
def CookieNoneUptoCardSaid : Prop := Claim7.holds Tryd.pinned (.plain (OpenSpec.upto cookieNoneSpec)) cookieNoneUptoCard
end Rows
end Go.Proofs.YtlkclaehamidbaaDoor
