/-
  DERIVED. GIVEN WITH THE SEED: THE CARDS: each row of YtbmjablmmlnieaaGreatDoorRows.lean that lists a variable, with what it lists TIED to the program's text (the seventh form; the later family's looks); each row that meets fmt, with fmt's text TOLD by the authors' own Lean function (tested against real Go, not proved from fmt's source: count such statements apart). THE CARD IS WHAT COUNTS. Prove the row's statement (the work); the ties are given (YtbmjablmmlnieaaGreatDoorTie.lean); close each card by the builder's one call (the guide's Derived/Test/ToyasCard.lean, 'card_holds'). Laid BY PROGRAM, IN A SANDBOX (cutbox-door.mjs). By AI agents, Wed Nov 11 2026. No macro, syntax, notation, axiom, sorry.
-/
import Derived.Test.YtbmjablmmlnieaaGreatDoorRows
import GoSem.ClaimSeven
namespace Go.Proofs.YtbmjablmmlnieaaGreatDoor
namespace Rows

/-- THE TIED CARD OF 'grapnellaw12.JournalLives'. -/
def journalLivesCard : Claim7 := { stood := { row := journalLivesRow, standIns := [], harness := (true, "4a8ed0411e9cc8cfee9fd496ea08152d967e7d43a310ab7c78cef032747b2312"), looks := true }, kinds := [], alts := [], laidByText := true, laidKinds := [.data, .handle, .pinned], laidTests := true, laidLooks := .later }
def JournalLivesCardSaid : Prop := Claim7.holds Tryz.pinned (.plain (OpenSpec.ofChange journalLivesSpec)) journalLivesCard

/-- THE TIED CARD OF 'grapnellaw12.JournalChooses'. -/
def journalChoosesCard : Claim7 := { stood := { row := journalChoosesRow, standIns := [], harness := (true, "4a8ed0411e9cc8cfee9fd496ea08152d967e7d43a310ab7c78cef032747b2312"), looks := true }, kinds := [], alts := [], laidByText := true, laidKinds := [.data, .handle, .pinned], laidTests := true, laidLooks := .later }
def JournalChoosesCardSaid : Prop := Claim7.holds Tryz.pinned (.plain (OpenSpec.ofChange journalChoosesSpec)) journalChoosesCard

/-- THE TIED CARD OF 'grapnellaw12.JournalAll'. -/
def journalAllCard : Claim7 := { stood := { row := journalAllRow, standIns := [], harness := (true, "4a8ed0411e9cc8cfee9fd496ea08152d967e7d43a310ab7c78cef032747b2312"), looks := true }, kinds := [], alts := [], laidByText := true, laidKinds := [.data, .handle, .pinned], laidTests := true, laidLooks := .later }
def JournalAllCardSaid : Prop := Claim7.holds Tryz.pinned (.plain (OpenSpec.ofChange journalAllSpec)) journalAllCard

/-- THE TIED CARD OF 'grapnellaw12.JournalNobody'. -/
def journalNobodyCard : Claim7 := { stood := { row := journalNobodyRow, standIns := [], harness := (true, "4a8ed0411e9cc8cfee9fd496ea08152d967e7d43a310ab7c78cef032747b2312"), looks := true }, kinds := [], alts := [], laidByText := true, laidKinds := [.data, .handle, .pinned], laidTests := true, laidLooks := .later }
def JournalNobodyCardSaid : Prop := Claim7.holds Tryz.pinned (.plain (OpenSpec.ofChange journalNobodySpec)) journalNobodyCard

/-- THE SECOND FORM's CARD OF 'grapnellaw12.JournalLives'. -/
def journalLivesUptoCard : Claim7 := { stood := { row := journalLivesUptoRow, standIns := [], harness := (true, "4a8ed0411e9cc8cfee9fd496ea08152d967e7d43a310ab7c78cef032747b2312"), looks := true }, kinds := [], alts := [], laidByText := true, laidKinds := [.data, .handle, .pinned], laidTests := true, laidLooks := .later }
def JournalLivesUptoCardSaid : Prop := Claim7.holds Tryz.pinned (.plain (OpenSpec.upto journalLivesSpec)) journalLivesUptoCard

/-- THE SECOND FORM's CARD OF 'grapnellaw12.JournalChooses'. -/
def journalChoosesUptoCard : Claim7 := { stood := { row := journalChoosesUptoRow, standIns := [], harness := (true, "4a8ed0411e9cc8cfee9fd496ea08152d967e7d43a310ab7c78cef032747b2312"), looks := true }, kinds := [], alts := [], laidByText := true, laidKinds := [.data, .handle, .pinned], laidTests := true, laidLooks := .later }
def JournalChoosesUptoCardSaid : Prop := Claim7.holds Tryz.pinned (.plain (OpenSpec.upto journalChoosesSpec)) journalChoosesUptoCard

/-- THE SECOND FORM's CARD OF 'grapnellaw12.JournalAll'. -/
def journalAllUptoCard : Claim7 := { stood := { row := journalAllUptoRow, standIns := [], harness := (true, "4a8ed0411e9cc8cfee9fd496ea08152d967e7d43a310ab7c78cef032747b2312"), looks := true }, kinds := [], alts := [], laidByText := true, laidKinds := [.data, .handle, .pinned], laidTests := true, laidLooks := .later }
def JournalAllUptoCardSaid : Prop := Claim7.holds Tryz.pinned (.plain (OpenSpec.upto journalAllSpec)) journalAllUptoCard

/-- THE SECOND FORM's CARD OF 'grapnellaw12.JournalNobody'. -/
def journalNobodyUptoCard : Claim7 := { stood := { row := journalNobodyUptoRow, standIns := [], harness := (true, "4a8ed0411e9cc8cfee9fd496ea08152d967e7d43a310ab7c78cef032747b2312"), looks := true }, kinds := [], alts := [], laidByText := true, laidKinds := [.data, .handle, .pinned], laidTests := true, laidLooks := .later }
def JournalNobodyUptoCardSaid : Prop := Claim7.holds Tryz.pinned (.plain (OpenSpec.upto journalNobodySpec)) journalNobodyUptoCard
end Rows
end Go.Proofs.YtbmjablmmlnieaaGreatDoor
