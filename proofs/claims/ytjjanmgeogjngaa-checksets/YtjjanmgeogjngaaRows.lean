/-
  No cell of these rows narrows 'for every input' (looked for: loops, veiled, ifaces, maps, wideKeys, modest, calm, conditions, laid).
  DERIVED. THE GIVEN ROWS OF THIS SEAT. 6 by the template 'for every input the law returns true; each argument reads behind the call as it read before'; 0 by the template 'total and deterministic' (their statements: YtjjanmgeogjngaaTotals.lean).
  GIVEN WITH THE SEED: the statements are not yours to turn. If you find one false, say at which input.
  Laid BY PROGRAM, IN A SANDBOX (cutbox-rows.mjs): the forced cells as the released guide's own fill.sh prints them over the translation 6f941c64717c9eab… (all of the seat's roots in one cut). By AI agents, Wed Nov 11 2026. No macro, syntax, notation, axiom, sorry.
-/
import Derived.Test.YtjjanmgeogjngaaChecked
import GoSem.Claim
import GoSem.ClaimJoined
import GoSem.ClaimMapViews
import Derived.JoinedTies
import Derived.KernelRfl
namespace Go.Proofs.Ytjjanmgeogjngaa
/- THE CELL 'sum', in the pinned program and in every row, IS THE sha256 OF THE DUMP (.gsa) THAT YtjjanmgeogjngaaProg.lean LOADS. Nothing in Lean hashes anything: it is a label: what it is worth is what the hold of that sum in a sandbox is worth. -/
noncomputable def Try.pinned : Pinned := { name := "ytjjanmgeogjngaa", sum := "6f941c64717c9eaba65b43796b019c7be907612ea3326e736f58ba3fe4835a47", checked := Try.checked }
namespace Rows
def none {H : Type} : Left H := { results := [], args := [] }

/-- 'threshinglaw06.CheckPlays': WHATEVER THE INPUT: true; the input reads as it did. -/
def checkPlaysSpec : ChangeSpec := { name := "checkPlays", fn := fun _ => fun
  | [d1, d2] => { results := [.lit (.bool true)], args := [d1, d2] }
  | _ => none }
def checkPlaysRow : OpenClaim := { program := "ytjjanmgeogjngaa", sum := "6f941c64717c9eaba65b43796b019c7be907612ea3326e736f58ba3fe4835a47", func := "threshing/threshinglaw06.CheckPlays", spec := "checkPlays", unfollowed := true, recurses := true, apart := false }
def CheckPlaysSaid : Prop := checkPlaysRow.holds Try.pinned (OpenSpec.ofChange checkPlaysSpec)

/-- ITS FALSE NEIGHBOUR: 'it returns false'. Refute it at one input. -/
def checkPlaysWrong : ChangeSpec := { name := "checkPlays", fn := fun _ => fun
  | [d1, d2] => { results := [.lit (.bool false)], args := [d1, d2] }
  | _ => none }
def CheckPlaysWrongFalsely : Prop := checkPlaysRow.holds Try.pinned (OpenSpec.ofChange checkPlaysWrong)

/-- 'threshinglaw06.CheckRuns': WHATEVER THE INPUT: true; the input reads as it did. -/
def checkRunsSpec : ChangeSpec := { name := "checkRuns", fn := fun _ => fun
  | [d1, d2] => { results := [.lit (.bool true)], args := [d1, d2] }
  | _ => none }
def checkRunsRow : OpenClaim := { program := "ytjjanmgeogjngaa", sum := "6f941c64717c9eaba65b43796b019c7be907612ea3326e736f58ba3fe4835a47", func := "threshing/threshinglaw06.CheckRuns", spec := "checkRuns", unfollowed := true, recurses := true, apart := false }
def CheckRunsSaid : Prop := checkRunsRow.holds Try.pinned (OpenSpec.ofChange checkRunsSpec)

/-- ITS FALSE NEIGHBOUR: 'it returns false'. Refute it at one input. -/
def checkRunsWrong : ChangeSpec := { name := "checkRuns", fn := fun _ => fun
  | [d1, d2] => { results := [.lit (.bool false)], args := [d1, d2] }
  | _ => none }
def CheckRunsWrongFalsely : Prop := checkRunsRow.holds Try.pinned (OpenSpec.ofChange checkRunsWrong)

/-- 'threshinglaw06.CheckSound': WHATEVER THE INPUT: true; the input reads as it did. -/
def checkSoundSpec : ChangeSpec := { name := "checkSound", fn := fun _ => fun
  | [d1, d2] => { results := [.lit (.bool true)], args := [d1, d2] }
  | _ => none }
def checkSoundRow : OpenClaim := { program := "ytjjanmgeogjngaa", sum := "6f941c64717c9eaba65b43796b019c7be907612ea3326e736f58ba3fe4835a47", func := "threshing/threshinglaw06.CheckSound", spec := "checkSound", unfollowed := true, recurses := true, apart := false }
def CheckSoundSaid : Prop := checkSoundRow.holds Try.pinned (OpenSpec.ofChange checkSoundSpec)

/-- ITS FALSE NEIGHBOUR: 'it returns false'. Refute it at one input. -/
def checkSoundWrong : ChangeSpec := { name := "checkSound", fn := fun _ => fun
  | [d1, d2] => { results := [.lit (.bool false)], args := [d1, d2] }
  | _ => none }
def CheckSoundWrongFalsely : Prop := checkSoundRow.holds Try.pinned (OpenSpec.ofChange checkSoundWrong)

/-- 'threshinglaw06.CheckImplies': WHATEVER THE INPUT: true; the input reads as it did. -/
def checkImpliesSpec : ChangeSpec := { name := "checkImplies", fn := fun _ => fun
  | [d1, d2, d3] => { results := [.lit (.bool true)], args := [d1, d2, d3] }
  | _ => none }
def checkImpliesRow : OpenClaim := { program := "ytjjanmgeogjngaa", sum := "6f941c64717c9eaba65b43796b019c7be907612ea3326e736f58ba3fe4835a47", func := "threshing/threshinglaw06.CheckImplies", spec := "checkImplies", unfollowed := true, recurses := true, apart := false }
def CheckImpliesSaid : Prop := checkImpliesRow.holds Try.pinned (OpenSpec.ofChange checkImpliesSpec)

/-- ITS FALSE NEIGHBOUR: 'it returns false'. Refute it at one input. -/
def checkImpliesWrong : ChangeSpec := { name := "checkImplies", fn := fun _ => fun
  | [d1, d2, d3] => { results := [.lit (.bool false)], args := [d1, d2, d3] }
  | _ => none }
def CheckImpliesWrongFalsely : Prop := checkImpliesRow.holds Try.pinned (OpenSpec.ofChange checkImpliesWrong)

/-- 'threshinglaw06.CheckSets': WHATEVER THE INPUT: true; the input reads as it did. -/
def checkSetsSpec : ChangeSpec := { name := "checkSets", fn := fun _ => fun
  | [d1, d2] => { results := [.lit (.bool true)], args := [d1, d2] }
  | _ => none }
def checkSetsRow : OpenClaim := { program := "ytjjanmgeogjngaa", sum := "6f941c64717c9eaba65b43796b019c7be907612ea3326e736f58ba3fe4835a47", func := "threshing/threshinglaw06.CheckSets", spec := "checkSets", unfollowed := true, recurses := true, apart := false }
def CheckSetsSaid : Prop := checkSetsRow.holds Try.pinned (OpenSpec.ofChange checkSetsSpec)

/-- ITS FALSE NEIGHBOUR: 'it returns false'. Refute it at one input. -/
def checkSetsWrong : ChangeSpec := { name := "checkSets", fn := fun _ => fun
  | [d1, d2] => { results := [.lit (.bool false)], args := [d1, d2] }
  | _ => none }
def CheckSetsWrongFalsely : Prop := checkSetsRow.holds Try.pinned (OpenSpec.ofChange checkSetsWrong)

/-- 'threshinglaw06.CheckKnown': WHATEVER THE INPUT: true; the input reads as it did. -/
def checkKnownSpec : ChangeSpec := { name := "checkKnown", fn := fun _ => fun
  | [] => { results := [.lit (.bool true)], args := [] }
  | _ => none }
def checkKnownRow : OpenClaim := { program := "ytjjanmgeogjngaa", sum := "6f941c64717c9eaba65b43796b019c7be907612ea3326e736f58ba3fe4835a47", func := "threshing/threshinglaw06.CheckKnown", spec := "checkKnown", unfollowed := true, recurses := true, apart := false }
def CheckKnownSaid : Prop := checkKnownRow.holds Try.pinned (OpenSpec.ofChange checkKnownSpec)

/-- ITS FALSE NEIGHBOUR: 'it returns false'. Refute it at one input. -/
def checkKnownWrong : ChangeSpec := { name := "checkKnown", fn := fun _ => fun
  | [] => { results := [.lit (.bool false)], args := [] }
  | _ => none }
def CheckKnownWrongFalsely : Prop := checkKnownRow.holds Try.pinned (OpenSpec.ofChange checkKnownWrong)

/- THE SECOND FORM. 'bulk': how many values and letters a reading holds, each counted each time it is reached (what is shared counts as often as it is met; a slice's spare places count too). A statement '..UptoSaid' is the law's where the arguments, and the package variables that the reading takes, are together of bulk at most 1048576: NARROWER than '..Said'. Prove '..Said' where nothing that the law and all that it calls make is longer than what came in: it says more and counts as full. Else prove '..UptoSaid'. A law counts once. -/
mutual
def uptoBulk {H : Type} : DataW H → Nat
  | .lit (.string bytes) => bytes.length + 1
  | .lit _ => 1
  | .nil => 1
  | .ptr d => uptoBulk d + 1
  | .slice elems spare => uptoBulkAll elems + uptoBulkAll spare + 1
  | .agg parts => uptoBulkAll parts + 1
  | .iface _ d => uptoBulk d + 1
  | .map entries => uptoBulkEntries entries + 1
  | .held _ => 1
def uptoBulkAll {H : Type} : List (DataW H) → Nat
  | [] => 0
  | d :: r => uptoBulk d + uptoBulkAll r
def uptoBulkEntries {H : Type} : List (Lit × DataW H) → Nat
  | [] => 0
  | x :: r => uptoBulkEntry x + uptoBulkEntries r
def uptoBulkEntry {H : Type} : Lit × DataW H → Nat
  | (.string bytes, d) => bytes.length + uptoBulk d + 1
  | (_, d) => uptoBulk d + 1
 end
def uptoSmall : (H : Type) → List (DataW H) → Bool := fun _ ds => decide (uptoBulkAll ds ≤ 1048576)
def OpenSpec.upto (s : _root_.Go.ChangeSpec) : _root_.Go.OpenSpec := { _root_.Go.OpenSpec.ofChange s with cond := some uptoSmall }

/-- 'threshinglaw06.CheckPlays', WHERE WHAT IT READS IS OF BULK AT MOST 1048576: true; the input reads as it did. -/
def checkPlaysUptoRow : OpenClaim := { program := "ytjjanmgeogjngaa", sum := "6f941c64717c9eaba65b43796b019c7be907612ea3326e736f58ba3fe4835a47", func := "threshing/threshinglaw06.CheckPlays", spec := "checkPlays", unfollowed := true, recurses := true, apart := false, narrowed := true }
def CheckPlaysUptoSaid : Prop := checkPlaysUptoRow.holds Try.pinned (OpenSpec.upto checkPlaysSpec)

/-- 'threshinglaw06.CheckRuns', WHERE WHAT IT READS IS OF BULK AT MOST 1048576: true; the input reads as it did. -/
def checkRunsUptoRow : OpenClaim := { program := "ytjjanmgeogjngaa", sum := "6f941c64717c9eaba65b43796b019c7be907612ea3326e736f58ba3fe4835a47", func := "threshing/threshinglaw06.CheckRuns", spec := "checkRuns", unfollowed := true, recurses := true, apart := false, narrowed := true }
def CheckRunsUptoSaid : Prop := checkRunsUptoRow.holds Try.pinned (OpenSpec.upto checkRunsSpec)

/-- 'threshinglaw06.CheckSound', WHERE WHAT IT READS IS OF BULK AT MOST 1048576: true; the input reads as it did. -/
def checkSoundUptoRow : OpenClaim := { program := "ytjjanmgeogjngaa", sum := "6f941c64717c9eaba65b43796b019c7be907612ea3326e736f58ba3fe4835a47", func := "threshing/threshinglaw06.CheckSound", spec := "checkSound", unfollowed := true, recurses := true, apart := false, narrowed := true }
def CheckSoundUptoSaid : Prop := checkSoundUptoRow.holds Try.pinned (OpenSpec.upto checkSoundSpec)

/-- 'threshinglaw06.CheckImplies', WHERE WHAT IT READS IS OF BULK AT MOST 1048576: true; the input reads as it did. -/
def checkImpliesUptoRow : OpenClaim := { program := "ytjjanmgeogjngaa", sum := "6f941c64717c9eaba65b43796b019c7be907612ea3326e736f58ba3fe4835a47", func := "threshing/threshinglaw06.CheckImplies", spec := "checkImplies", unfollowed := true, recurses := true, apart := false, narrowed := true }
def CheckImpliesUptoSaid : Prop := checkImpliesUptoRow.holds Try.pinned (OpenSpec.upto checkImpliesSpec)

/-- 'threshinglaw06.CheckSets', WHERE WHAT IT READS IS OF BULK AT MOST 1048576: true; the input reads as it did. -/
def checkSetsUptoRow : OpenClaim := { program := "ytjjanmgeogjngaa", sum := "6f941c64717c9eaba65b43796b019c7be907612ea3326e736f58ba3fe4835a47", func := "threshing/threshinglaw06.CheckSets", spec := "checkSets", unfollowed := true, recurses := true, apart := false, narrowed := true }
def CheckSetsUptoSaid : Prop := checkSetsUptoRow.holds Try.pinned (OpenSpec.upto checkSetsSpec)

/-- 'threshinglaw06.CheckKnown', WHERE WHAT IT READS IS OF BULK AT MOST 1048576: true; the input reads as it did. -/
def checkKnownUptoRow : OpenClaim := { program := "ytjjanmgeogjngaa", sum := "6f941c64717c9eaba65b43796b019c7be907612ea3326e736f58ba3fe4835a47", func := "threshing/threshinglaw06.CheckKnown", spec := "checkKnown", unfollowed := true, recurses := true, apart := false, narrowed := true }
def CheckKnownUptoSaid : Prop := checkKnownUptoRow.holds Try.pinned (OpenSpec.upto checkKnownSpec)

end Rows
end Go.Proofs.Ytjjanmgeogjngaa
