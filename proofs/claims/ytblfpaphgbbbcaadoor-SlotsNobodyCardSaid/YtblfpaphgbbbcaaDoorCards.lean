/-
  DERIVED. GIVEN WITH THE SEED: THE CARDS: each row of YtblfpaphgbbbcaaDoorRows.lean that lists a variable, with what it lists TIED to the program's text (the seventh form; the later family's looks); each row that meets fmt, with fmt's text TOLD by the authors' own Lean function (tested against real Go, not proved from fmt's source: count such statements apart). THE CARD IS WHAT COUNTS. Prove the row's statement (the work); the ties are given (YtblfpaphgbbbcaaDoorTie.lean); close each card by the builder's one call (the guide's Derived/Test/ToyasCard.lean, 'card_holds'). Laid BY PROGRAM, IN A SANDBOX (cutbox-door.mjs). By AI agents, Wed Nov 11 2026. No macro, syntax, notation, axiom, sorry.
-/
import Derived.Test.YtblfpaphgbbbcaaDoorRows
import GoSem.ClaimSeven
namespace Go.Proofs.YtblfpaphgbbbcaaDoor
namespace Rows

/-- THE TIED CARD OF 'curfewlaw11.SlotsSort'. -/
def slotsSortCard : Claim7 := { stood := { row := slotsSortRow, standIns := [], harness := (true, "8e929a009814a3331f9c7921224e3eb495699272e028c900a0d9a1255ece5ef2"), looks := false }, kinds := [], alts := [], laidByText := true, laidKinds := [.data], laidTests := true, laidLooks := .later }
def SlotsSortCardSaid : Prop := Claim7.holds Tryd.pinned (.plain (OpenSpec.ofChange slotsSortSpec)) slotsSortCard

/-- THE TIED CARD OF 'curfewlaw11.SlotsPlay'. -/
def slotsPlayCard : Claim7 := { stood := { row := slotsPlayRow, standIns := [], harness := (true, "8e929a009814a3331f9c7921224e3eb495699272e028c900a0d9a1255ece5ef2"), looks := false }, kinds := [], alts := [], laidByText := true, laidKinds := [.data], laidTests := true, laidLooks := .later }
def SlotsPlayCardSaid : Prop := Claim7.holds Tryd.pinned (.plain (OpenSpec.ofChange slotsPlaySpec)) slotsPlayCard

/-- THE TIED CARD OF 'curfewlaw11.SlotsNobody'. -/
def slotsNobodyCard : Claim7 := { stood := { row := slotsNobodyRow, standIns := [], harness := (true, "8e929a009814a3331f9c7921224e3eb495699272e028c900a0d9a1255ece5ef2"), looks := false }, kinds := [], alts := [], laidByText := true, laidKinds := [.data], laidTests := true, laidLooks := .later }
def SlotsNobodyCardSaid : Prop := Claim7.holds Tryd.pinned (.plain (OpenSpec.ofChange slotsNobodySpec)) slotsNobodyCard

/-- THE TIED CARD OF 'curfewlaw12.WheelPlays'. -/
def wheelPlaysCard : Claim7 := { stood := { row := wheelPlaysRow, standIns := [], harness := (true, "8e929a009814a3331f9c7921224e3eb495699272e028c900a0d9a1255ece5ef2"), looks := false }, kinds := [], alts := [], laidByText := true, laidKinds := [.data], laidTests := true, laidLooks := .later }
def WheelPlaysCardSaid : Prop := Claim7.holds Tryd.pinned (.plain (OpenSpec.ofChange wheelPlaysSpec)) wheelPlaysCard

/-- THE TIED CARD OF 'curfewlaw12.WheelFires'. -/
def wheelFiresCard : Claim7 := { stood := { row := wheelFiresRow, standIns := [], harness := (true, "8e929a009814a3331f9c7921224e3eb495699272e028c900a0d9a1255ece5ef2"), looks := false }, kinds := [], alts := [], laidByText := true, laidKinds := [.data], laidTests := true, laidLooks := .later }
def WheelFiresCardSaid : Prop := Claim7.holds Tryd.pinned (.plain (OpenSpec.ofChange wheelFiresSpec)) wheelFiresCard

/-- THE TIED CARD OF 'curfewlaw12.WheelSteps'. -/
def wheelStepsCard : Claim7 := { stood := { row := wheelStepsRow, standIns := [], harness := (true, "8e929a009814a3331f9c7921224e3eb495699272e028c900a0d9a1255ece5ef2"), looks := false }, kinds := [], alts := [], laidByText := true, laidKinds := [.data], laidTests := true, laidLooks := .later }
def WheelStepsCardSaid : Prop := Claim7.holds Tryd.pinned (.plain (OpenSpec.ofChange wheelStepsSpec)) wheelStepsCard

/-- THE TIED CARD OF 'curfewlaw12.WheelFull'. -/
def wheelFullCard : Claim7 := { stood := { row := wheelFullRow, standIns := [], harness := (true, "8e929a009814a3331f9c7921224e3eb495699272e028c900a0d9a1255ece5ef2"), looks := false }, kinds := [], alts := [], laidByText := true, laidKinds := [.data], laidTests := true, laidLooks := .later }
def WheelFullCardSaid : Prop := Claim7.holds Tryd.pinned (.plain (OpenSpec.ofChange wheelFullSpec)) wheelFullCard

/-- THE TIED CARD OF 'curfewlaw12.WheelNobody'. -/
def wheelNobodyCard : Claim7 := { stood := { row := wheelNobodyRow, standIns := [], harness := (true, "8e929a009814a3331f9c7921224e3eb495699272e028c900a0d9a1255ece5ef2"), looks := false }, kinds := [], alts := [], laidByText := true, laidKinds := [.data], laidTests := true, laidLooks := .later }
def WheelNobodyCardSaid : Prop := Claim7.holds Tryd.pinned (.plain (OpenSpec.ofChange wheelNobodySpec)) wheelNobodyCard

/-- THE SECOND FORM's CARD OF 'curfewlaw11.SlotsSort'. -/
def slotsSortUptoCard : Claim7 := { stood := { row := slotsSortUptoRow, standIns := [], harness := (true, "8e929a009814a3331f9c7921224e3eb495699272e028c900a0d9a1255ece5ef2"), looks := false }, kinds := [], alts := [], laidByText := true, laidKinds := [.data], laidTests := true, laidLooks := .later }
def SlotsSortUptoCardSaid : Prop := Claim7.holds Tryd.pinned (.plain (OpenSpec.upto slotsSortSpec)) slotsSortUptoCard

/-- THE SECOND FORM's CARD OF 'curfewlaw11.SlotsPlay'. -/
def slotsPlayUptoCard : Claim7 := { stood := { row := slotsPlayUptoRow, standIns := [], harness := (true, "8e929a009814a3331f9c7921224e3eb495699272e028c900a0d9a1255ece5ef2"), looks := false }, kinds := [], alts := [], laidByText := true, laidKinds := [.data], laidTests := true, laidLooks := .later }
def SlotsPlayUptoCardSaid : Prop := Claim7.holds Tryd.pinned (.plain (OpenSpec.upto slotsPlaySpec)) slotsPlayUptoCard

/-- THE SECOND FORM's CARD OF 'curfewlaw11.SlotsNobody'. -/
def slotsNobodyUptoCard : Claim7 := { stood := { row := slotsNobodyUptoRow, standIns := [], harness := (true, "8e929a009814a3331f9c7921224e3eb495699272e028c900a0d9a1255ece5ef2"), looks := false }, kinds := [], alts := [], laidByText := true, laidKinds := [.data], laidTests := true, laidLooks := .later }
def SlotsNobodyUptoCardSaid : Prop := Claim7.holds Tryd.pinned (.plain (OpenSpec.upto slotsNobodySpec)) slotsNobodyUptoCard

/-- THE SECOND FORM's CARD OF 'curfewlaw12.WheelPlays'. -/
def wheelPlaysUptoCard : Claim7 := { stood := { row := wheelPlaysUptoRow, standIns := [], harness := (true, "8e929a009814a3331f9c7921224e3eb495699272e028c900a0d9a1255ece5ef2"), looks := false }, kinds := [], alts := [], laidByText := true, laidKinds := [.data], laidTests := true, laidLooks := .later }
def WheelPlaysUptoCardSaid : Prop := Claim7.holds Tryd.pinned (.plain (OpenSpec.upto wheelPlaysSpec)) wheelPlaysUptoCard

/-- THE SECOND FORM's CARD OF 'curfewlaw12.WheelFires'. -/
def wheelFiresUptoCard : Claim7 := { stood := { row := wheelFiresUptoRow, standIns := [], harness := (true, "8e929a009814a3331f9c7921224e3eb495699272e028c900a0d9a1255ece5ef2"), looks := false }, kinds := [], alts := [], laidByText := true, laidKinds := [.data], laidTests := true, laidLooks := .later }
def WheelFiresUptoCardSaid : Prop := Claim7.holds Tryd.pinned (.plain (OpenSpec.upto wheelFiresSpec)) wheelFiresUptoCard

/-- THE SECOND FORM's CARD OF 'curfewlaw12.WheelSteps'. -/
def wheelStepsUptoCard : Claim7 := { stood := { row := wheelStepsUptoRow, standIns := [], harness := (true, "8e929a009814a3331f9c7921224e3eb495699272e028c900a0d9a1255ece5ef2"), looks := false }, kinds := [], alts := [], laidByText := true, laidKinds := [.data], laidTests := true, laidLooks := .later }
def WheelStepsUptoCardSaid : Prop := Claim7.holds Tryd.pinned (.plain (OpenSpec.upto wheelStepsSpec)) wheelStepsUptoCard

/-- THE SECOND FORM's CARD OF 'curfewlaw12.WheelFull'. -/
def wheelFullUptoCard : Claim7 := { stood := { row := wheelFullUptoRow, standIns := [], harness := (true, "8e929a009814a3331f9c7921224e3eb495699272e028c900a0d9a1255ece5ef2"), looks := false }, kinds := [], alts := [], laidByText := true, laidKinds := [.data], laidTests := true, laidLooks := .later }
def WheelFullUptoCardSaid : Prop := Claim7.holds Tryd.pinned (.plain (OpenSpec.upto wheelFullSpec)) wheelFullUptoCard

/-- THE SECOND FORM's CARD OF 'curfewlaw12.WheelNobody'. -/
def wheelNobodyUptoCard : Claim7 := { stood := { row := wheelNobodyUptoRow, standIns := [], harness := (true, "8e929a009814a3331f9c7921224e3eb495699272e028c900a0d9a1255ece5ef2"), looks := false }, kinds := [], alts := [], laidByText := true, laidKinds := [.data], laidTests := true, laidLooks := .later }
def WheelNobodyUptoCardSaid : Prop := Claim7.holds Tryd.pinned (.plain (OpenSpec.upto wheelNobodySpec)) wheelNobodyUptoCard
end Rows
end Go.Proofs.YtblfpaphgbbbcaaDoor
