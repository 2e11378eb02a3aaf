/-
  DERIVED. GIVEN WITH THE SEED: THE CARDS: each row of YtfclmbneimbmnaaDoorRows.lean that lists a variable, with what it lists TIED to the program's text (the seventh form; the later family's looks); each row that meets fmt, with fmt's text TOLD by the authors' own Lean function (tested against real Go, not proved from fmt's source: count such statements apart). THE CARD IS WHAT COUNTS. Prove the row's statement (the work); the ties are given (YtfclmbneimbmnaaDoorTie.lean); close each card by the builder's one call (the guide's Derived/Test/ToyasCard.lean, 'card_holds'). Laid BY PROGRAM, IN A SANDBOX (cutbox-door.mjs). By AI agents, Wed Nov 11 2026. No macro, syntax, notation, axiom, sorry.
-/
import Derived.Test.YtfclmbneimbmnaaDoorRows
import GoSem.ClaimSeven
namespace Go.Proofs.YtfclmbneimbmnaaDoor
namespace Rows

/-- THE TIED CARD OF 'curfewlaw11.SlotsSort'. -/
def slotsSortCard : Claim7 := { stood := { row := slotsSortRow, standIns := [], harness := (true, "b5b76811f9d12e74c1b46ee61d237e011277300763c11b3d6b0c1d6ee9bc38ff"), looks := false }, kinds := [], alts := [], laidByText := true, laidKinds := [.data], laidTests := true, laidLooks := .later }
def SlotsSortCardSaid : Prop := Claim7.holds Tryd.pinned (.plain (OpenSpec.ofChange slotsSortSpec)) slotsSortCard

/-- THE TIED CARD OF 'curfewlaw11.SlotsPlay'. -/
def slotsPlayCard : Claim7 := { stood := { row := slotsPlayRow, standIns := [], harness := (true, "b5b76811f9d12e74c1b46ee61d237e011277300763c11b3d6b0c1d6ee9bc38ff"), looks := false }, kinds := [], alts := [], laidByText := true, laidKinds := [.data], laidTests := true, laidLooks := .later }
def SlotsPlayCardSaid : Prop := Claim7.holds Tryd.pinned (.plain (OpenSpec.ofChange slotsPlaySpec)) slotsPlayCard

/-- THE TIED CARD OF 'curfewlaw12.WheelPlays'. -/
def wheelPlaysCard : Claim7 := { stood := { row := wheelPlaysRow, standIns := [], harness := (true, "b5b76811f9d12e74c1b46ee61d237e011277300763c11b3d6b0c1d6ee9bc38ff"), looks := false }, kinds := [], alts := [], laidByText := true, laidKinds := [.data], laidTests := true, laidLooks := .later }
def WheelPlaysCardSaid : Prop := Claim7.holds Tryd.pinned (.plain (OpenSpec.ofChange wheelPlaysSpec)) wheelPlaysCard

/-- THE TIED CARD OF 'curfewlaw12.WheelFires'. -/
def wheelFiresCard : Claim7 := { stood := { row := wheelFiresRow, standIns := [], harness := (true, "b5b76811f9d12e74c1b46ee61d237e011277300763c11b3d6b0c1d6ee9bc38ff"), looks := false }, kinds := [], alts := [], laidByText := true, laidKinds := [.data], laidTests := true, laidLooks := .later }
def WheelFiresCardSaid : Prop := Claim7.holds Tryd.pinned (.plain (OpenSpec.ofChange wheelFiresSpec)) wheelFiresCard

/-- THE TIED CARD OF 'curfewlaw12.WheelSteps'. -/
def wheelStepsCard : Claim7 := { stood := { row := wheelStepsRow, standIns := [], harness := (true, "b5b76811f9d12e74c1b46ee61d237e011277300763c11b3d6b0c1d6ee9bc38ff"), looks := false }, kinds := [], alts := [], laidByText := true, laidKinds := [.data], laidTests := true, laidLooks := .later }
def WheelStepsCardSaid : Prop := Claim7.holds Tryd.pinned (.plain (OpenSpec.ofChange wheelStepsSpec)) wheelStepsCard

/-- THE TIED CARD OF 'curfewlaw12.WheelFull'. -/
def wheelFullCard : Claim7 := { stood := { row := wheelFullRow, standIns := [], harness := (true, "b5b76811f9d12e74c1b46ee61d237e011277300763c11b3d6b0c1d6ee9bc38ff"), looks := false }, kinds := [], alts := [], laidByText := true, laidKinds := [.data], laidTests := true, laidLooks := .later }
def WheelFullCardSaid : Prop := Claim7.holds Tryd.pinned (.plain (OpenSpec.ofChange wheelFullSpec)) wheelFullCard

/-- THE TIED CARD OF 'curfewlaw12.WheelNobody'. -/
def wheelNobodyCard : Claim7 := { stood := { row := wheelNobodyRow, standIns := [], harness := (true, "b5b76811f9d12e74c1b46ee61d237e011277300763c11b3d6b0c1d6ee9bc38ff"), looks := false }, kinds := [], alts := [], laidByText := true, laidKinds := [.data], laidTests := true, laidLooks := .later }
def WheelNobodyCardSaid : Prop := Claim7.holds Tryd.pinned (.plain (OpenSpec.ofChange wheelNobodySpec)) wheelNobodyCard

/-- THE TIED CARD OF 'curfewlaw13.DeadlinePlays'. -/
def deadlinePlaysCard : Claim7 := { stood := { row := deadlinePlaysRow, standIns := [], harness := (true, "b5b76811f9d12e74c1b46ee61d237e011277300763c11b3d6b0c1d6ee9bc38ff"), looks := false }, kinds := [], alts := [], laidByText := true, laidKinds := [.data], laidTests := true, laidLooks := .later }
def DeadlinePlaysCardSaid : Prop := Claim7.holds Tryd.pinned (.plain (OpenSpec.ofChange deadlinePlaysSpec)) deadlinePlaysCard

/-- THE TIED CARD OF 'curfewlaw13.DeadlineOnce'. -/
def deadlineOnceCard : Claim7 := { stood := { row := deadlineOnceRow, standIns := [], harness := (true, "b5b76811f9d12e74c1b46ee61d237e011277300763c11b3d6b0c1d6ee9bc38ff"), looks := false }, kinds := [], alts := [], laidByText := true, laidKinds := [.data], laidTests := true, laidLooks := .later }
def DeadlineOnceCardSaid : Prop := Claim7.holds Tryd.pinned (.plain (OpenSpec.ofChange deadlineOnceSpec)) deadlineOnceCard

/-- THE TIED CARD OF 'curfewlaw13.DeadlineApart'. -/
def deadlineApartCard : Claim7 := { stood := { row := deadlineApartRow, standIns := [], harness := (true, "b5b76811f9d12e74c1b46ee61d237e011277300763c11b3d6b0c1d6ee9bc38ff"), looks := false }, kinds := [], alts := [], laidByText := true, laidKinds := [.data], laidTests := true, laidLooks := .later }
def DeadlineApartCardSaid : Prop := Claim7.holds Tryd.pinned (.plain (OpenSpec.ofChange deadlineApartSpec)) deadlineApartCard

/-- THE TIED CARD OF 'curfewlaw13.DeadlineBytes'. -/
def deadlineBytesCard : Claim7 := { stood := { row := deadlineBytesRow, standIns := [], harness := (true, "b5b76811f9d12e74c1b46ee61d237e011277300763c11b3d6b0c1d6ee9bc38ff"), looks := false }, kinds := [], alts := [], laidByText := true, laidKinds := [.data], laidTests := true, laidLooks := .later }
def DeadlineBytesCardSaid : Prop := Claim7.holds Tryd.pinned (.plain (OpenSpec.ofChange deadlineBytesSpec)) deadlineBytesCard

/-- THE TIED CARD OF 'curfewlaw13.DeadlineNobody'. -/
def deadlineNobodyCard : Claim7 := { stood := { row := deadlineNobodyRow, standIns := [], harness := (true, "b5b76811f9d12e74c1b46ee61d237e011277300763c11b3d6b0c1d6ee9bc38ff"), looks := false }, kinds := [], alts := [], laidByText := true, laidKinds := [.data], laidTests := true, laidLooks := .later }
def DeadlineNobodyCardSaid : Prop := Claim7.holds Tryd.pinned (.plain (OpenSpec.ofChange deadlineNobodySpec)) deadlineNobodyCard

/-- THE SECOND FORM's CARD OF 'curfewlaw11.SlotsSort'. -/
def slotsSortUptoCard : Claim7 := { stood := { row := slotsSortUptoRow, standIns := [], harness := (true, "b5b76811f9d12e74c1b46ee61d237e011277300763c11b3d6b0c1d6ee9bc38ff"), looks := false }, kinds := [], alts := [], laidByText := true, laidKinds := [.data], laidTests := true, laidLooks := .later }
def SlotsSortUptoCardSaid : Prop := Claim7.holds Tryd.pinned (.plain (OpenSpec.upto slotsSortSpec)) slotsSortUptoCard

/-- THE SECOND FORM's CARD OF 'curfewlaw11.SlotsPlay'. -/
def slotsPlayUptoCard : Claim7 := { stood := { row := slotsPlayUptoRow, standIns := [], harness := (true, "b5b76811f9d12e74c1b46ee61d237e011277300763c11b3d6b0c1d6ee9bc38ff"), looks := false }, kinds := [], alts := [], laidByText := true, laidKinds := [.data], laidTests := true, laidLooks := .later }
def SlotsPlayUptoCardSaid : Prop := Claim7.holds Tryd.pinned (.plain (OpenSpec.upto slotsPlaySpec)) slotsPlayUptoCard

/-- THE SECOND FORM's CARD OF 'curfewlaw12.WheelPlays'. -/
def wheelPlaysUptoCard : Claim7 := { stood := { row := wheelPlaysUptoRow, standIns := [], harness := (true, "b5b76811f9d12e74c1b46ee61d237e011277300763c11b3d6b0c1d6ee9bc38ff"), looks := false }, kinds := [], alts := [], laidByText := true, laidKinds := [.data], laidTests := true, laidLooks := .later }
def WheelPlaysUptoCardSaid : Prop := Claim7.holds Tryd.pinned (.plain (OpenSpec.upto wheelPlaysSpec)) wheelPlaysUptoCard

/-- THE SECOND FORM's CARD OF 'curfewlaw12.WheelFires'. -/
def wheelFiresUptoCard : Claim7 := { stood := { row := wheelFiresUptoRow, standIns := [], harness := (true, "b5b76811f9d12e74c1b46ee61d237e011277300763c11b3d6b0c1d6ee9bc38ff"), looks := false }, kinds := [], alts := [], laidByText := true, laidKinds := [.data], laidTests := true, laidLooks := .later }
def WheelFiresUptoCardSaid : Prop := Claim7.holds Tryd.pinned (.plain (OpenSpec.upto wheelFiresSpec)) wheelFiresUptoCard

/-- THE SECOND FORM's CARD OF 'curfewlaw12.WheelSteps'. -/
def wheelStepsUptoCard : Claim7 := { stood := { row := wheelStepsUptoRow, standIns := [], harness := (true, "b5b76811f9d12e74c1b46ee61d237e011277300763c11b3d6b0c1d6ee9bc38ff"), looks := false }, kinds := [], alts := [], laidByText := true, laidKinds := [.data], laidTests := true, laidLooks := .later }
def WheelStepsUptoCardSaid : Prop := Claim7.holds Tryd.pinned (.plain (OpenSpec.upto wheelStepsSpec)) wheelStepsUptoCard

/-- THE SECOND FORM's CARD OF 'curfewlaw12.WheelFull'. -/
def wheelFullUptoCard : Claim7 := { stood := { row := wheelFullUptoRow, standIns := [], harness := (true, "b5b76811f9d12e74c1b46ee61d237e011277300763c11b3d6b0c1d6ee9bc38ff"), looks := false }, kinds := [], alts := [], laidByText := true, laidKinds := [.data], laidTests := true, laidLooks := .later }
def WheelFullUptoCardSaid : Prop := Claim7.holds Tryd.pinned (.plain (OpenSpec.upto wheelFullSpec)) wheelFullUptoCard

/-- THE SECOND FORM's CARD OF 'curfewlaw12.WheelNobody'. -/
def wheelNobodyUptoCard : Claim7 := { stood := { row := wheelNobodyUptoRow, standIns := [], harness := (true, "b5b76811f9d12e74c1b46ee61d237e011277300763c11b3d6b0c1d6ee9bc38ff"), looks := false }, kinds := [], alts := [], laidByText := true, laidKinds := [.data], laidTests := true, laidLooks := .later }
def WheelNobodyUptoCardSaid : Prop := Claim7.holds Tryd.pinned (.plain (OpenSpec.upto wheelNobodySpec)) wheelNobodyUptoCard

/-- THE SECOND FORM's CARD OF 'curfewlaw13.DeadlinePlays'. -/
def deadlinePlaysUptoCard : Claim7 := { stood := { row := deadlinePlaysUptoRow, standIns := [], harness := (true, "b5b76811f9d12e74c1b46ee61d237e011277300763c11b3d6b0c1d6ee9bc38ff"), looks := false }, kinds := [], alts := [], laidByText := true, laidKinds := [.data], laidTests := true, laidLooks := .later }
def DeadlinePlaysUptoCardSaid : Prop := Claim7.holds Tryd.pinned (.plain (OpenSpec.upto deadlinePlaysSpec)) deadlinePlaysUptoCard

/-- THE SECOND FORM's CARD OF 'curfewlaw13.DeadlineOnce'. -/
def deadlineOnceUptoCard : Claim7 := { stood := { row := deadlineOnceUptoRow, standIns := [], harness := (true, "b5b76811f9d12e74c1b46ee61d237e011277300763c11b3d6b0c1d6ee9bc38ff"), looks := false }, kinds := [], alts := [], laidByText := true, laidKinds := [.data], laidTests := true, laidLooks := .later }
def DeadlineOnceUptoCardSaid : Prop := Claim7.holds Tryd.pinned (.plain (OpenSpec.upto deadlineOnceSpec)) deadlineOnceUptoCard

/-- THE SECOND FORM's CARD OF 'curfewlaw13.DeadlineApart'. -/
def deadlineApartUptoCard : Claim7 := { stood := { row := deadlineApartUptoRow, standIns := [], harness := (true, "b5b76811f9d12e74c1b46ee61d237e011277300763c11b3d6b0c1d6ee9bc38ff"), looks := false }, kinds := [], alts := [], laidByText := true, laidKinds := [.data], laidTests := true, laidLooks := .later }
def DeadlineApartUptoCardSaid : Prop := Claim7.holds Tryd.pinned (.plain (OpenSpec.upto deadlineApartSpec)) deadlineApartUptoCard

/-- THE SECOND FORM's CARD OF 'curfewlaw13.DeadlineBytes'. -/
def deadlineBytesUptoCard : Claim7 := { stood := { row := deadlineBytesUptoRow, standIns := [], harness := (true, "b5b76811f9d12e74c1b46ee61d237e011277300763c11b3d6b0c1d6ee9bc38ff"), looks := false }, kinds := [], alts := [], laidByText := true, laidKinds := [.data], laidTests := true, laidLooks := .later }
def DeadlineBytesUptoCardSaid : Prop := Claim7.holds Tryd.pinned (.plain (OpenSpec.upto deadlineBytesSpec)) deadlineBytesUptoCard

/-- THE SECOND FORM's CARD OF 'curfewlaw13.DeadlineNobody'. -/
def deadlineNobodyUptoCard : Claim7 := { stood := { row := deadlineNobodyUptoRow, standIns := [], harness := (true, "b5b76811f9d12e74c1b46ee61d237e011277300763c11b3d6b0c1d6ee9bc38ff"), looks := false }, kinds := [], alts := [], laidByText := true, laidKinds := [.data], laidTests := true, laidLooks := .later }
def DeadlineNobodyUptoCardSaid : Prop := Claim7.holds Tryd.pinned (.plain (OpenSpec.upto deadlineNobodySpec)) deadlineNobodyUptoCard
end Rows
end Go.Proofs.YtfclmbneimbmnaaDoor
