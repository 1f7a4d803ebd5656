/-
  No cell of these rows narrows 'for every input' (looked for: loops, veiled, ifaces, maps, wideKeys, modest, calm, conditions, laid).
  DERIVED. THE GIVEN ROWS OF THIS SEAT. 3 by the template 'for every input the law returns true; each argument reads behind the call as it read before'; 0 by the template 'total and deterministic' (their statements: YtjakfgpgcnbclaaTotals.lean).
  GIVEN WITH THE SEED: the statements are not yours to turn. If you find one false, say at which input.
  Laid BY PROGRAM, IN A SANDBOX (cutbox-rows.mjs): the forced cells as the released guide's own fill.sh prints them over the translation df658206dc9b98bc… (all of the seat's roots in one cut). By AI agents, Wed Nov 11 2026. No macro, syntax, notation, axiom, sorry.
-/
import Derived.Test.YtjakfgpgcnbclaaChecked
import GoSem.Claim
import GoSem.ClaimJoined
import GoSem.ClaimMapViews
import Derived.JoinedTies
import Derived.KernelRfl
namespace Go.Proofs.Ytjakfgpgcnbclaa
/- THE CELL 'sum', in the pinned program and in every row, IS THE sha256 OF THE DUMP (.gsa) THAT YtjakfgpgcnbclaaProg.lean LOADS. Nothing in Lean hashes anything: it is a label: what it is worth is what the hold of that sum in a sandbox is worth. -/
noncomputable def Try.pinned : Pinned := { name := "ytjakfgpgcnbclaa", sum := "df658206dc9b98bcbc0ff5b2c97628fb9c51a4c69406d4b1215fafbe5fdbc89a", checked := Try.checked }
namespace Rows
def none {H : Type} : Left H := { results := [], args := [] }

/-- 'threshinglaw08.ExtendPlays': WHATEVER THE INPUT: true; the input reads as it did. -/
def extendPlaysSpec : ChangeSpec := { name := "extendPlays", fn := fun _ => fun
  | [d1, d2] => { results := [.lit (.bool true)], args := [d1, d2] }
  | _ => none }
def extendPlaysRow : OpenClaim := { program := "ytjakfgpgcnbclaa", sum := "df658206dc9b98bcbc0ff5b2c97628fb9c51a4c69406d4b1215fafbe5fdbc89a", func := "threshing/threshinglaw08.ExtendPlays", spec := "extendPlays", unfollowed := true, recurses := true, apart := false }
def ExtendPlaysSaid : Prop := extendPlaysRow.holds Try.pinned (OpenSpec.ofChange extendPlaysSpec)

/-- ITS FALSE NEIGHBOUR: 'it returns false'. Refute it at one input. -/
def extendPlaysWrong : ChangeSpec := { name := "extendPlays", fn := fun _ => fun
  | [d1, d2] => { results := [.lit (.bool false)], args := [d1, d2] }
  | _ => none }
def ExtendPlaysWrongFalsely : Prop := extendPlaysRow.holds Try.pinned (OpenSpec.ofChange extendPlaysWrong)

/-- 'threshinglaw08.ExtendGood': WHATEVER THE INPUT: true; the input reads as it did. -/
def extendGoodSpec : ChangeSpec := { name := "extendGood", fn := fun _ => fun
  | [d1, d2, d3] => { results := [.lit (.bool true)], args := [d1, d2, d3] }
  | _ => none }
def extendGoodRow : OpenClaim := { program := "ytjakfgpgcnbclaa", sum := "df658206dc9b98bcbc0ff5b2c97628fb9c51a4c69406d4b1215fafbe5fdbc89a", func := "threshing/threshinglaw08.ExtendGood", spec := "extendGood", unfollowed := true, recurses := true, apart := false }
def ExtendGoodSaid : Prop := extendGoodRow.holds Try.pinned (OpenSpec.ofChange extendGoodSpec)

/-- ITS FALSE NEIGHBOUR: 'it returns false'. Refute it at one input. -/
def extendGoodWrong : ChangeSpec := { name := "extendGood", fn := fun _ => fun
  | [d1, d2, d3] => { results := [.lit (.bool false)], args := [d1, d2, d3] }
  | _ => none }
def ExtendGoodWrongFalsely : Prop := extendGoodRow.holds Try.pinned (OpenSpec.ofChange extendGoodWrong)

/-- 'threshinglaw08.ExtendKnown': WHATEVER THE INPUT: true; the input reads as it did. -/
def extendKnownSpec : ChangeSpec := { name := "extendKnown", fn := fun _ => fun
  | [] => { results := [.lit (.bool true)], args := [] }
  | _ => none }
def extendKnownRow : OpenClaim := { program := "ytjakfgpgcnbclaa", sum := "df658206dc9b98bcbc0ff5b2c97628fb9c51a4c69406d4b1215fafbe5fdbc89a", func := "threshing/threshinglaw08.ExtendKnown", spec := "extendKnown", unfollowed := true, recurses := true, apart := false }
def ExtendKnownSaid : Prop := extendKnownRow.holds Try.pinned (OpenSpec.ofChange extendKnownSpec)

/-- ITS FALSE NEIGHBOUR: 'it returns false'. Refute it at one input. -/
def extendKnownWrong : ChangeSpec := { name := "extendKnown", fn := fun _ => fun
  | [] => { results := [.lit (.bool false)], args := [] }
  | _ => none }
def ExtendKnownWrongFalsely : Prop := extendKnownRow.holds Try.pinned (OpenSpec.ofChange extendKnownWrong)

/- THE SECOND FORM. 'bulk': how many values and letters a reading holds, each counted each time it is reached (what is shared counts as often as it is met; a slice's spare places count too). A statement '..UptoSaid' is the law's where the arguments, and the package variables that the reading takes, are together of bulk at most 1048576: NARROWER than '..Said'. Prove '..Said' where nothing that the law and all that it calls make is longer than what came in: it says more and counts as full. Else prove '..UptoSaid'. A law counts once. -/
mutual
def uptoBulk {H : Type} : DataW H → Nat
  | .lit (.string bytes) => bytes.length + 1
  | .lit _ => 1
  | .nil => 1
  | .ptr d => uptoBulk d + 1
  | .slice elems spare => uptoBulkAll elems + uptoBulkAll spare + 1
  | .agg parts => uptoBulkAll parts + 1
  | .iface _ d => uptoBulk d + 1
  | .map entries => uptoBulkEntries entries + 1
  | .held _ => 1
def uptoBulkAll {H : Type} : List (DataW H) → Nat
  | [] => 0
  | d :: r => uptoBulk d + uptoBulkAll r
def uptoBulkEntries {H : Type} : List (Lit × DataW H) → Nat
  | [] => 0
  | x :: r => uptoBulkEntry x + uptoBulkEntries r
def uptoBulkEntry {H : Type} : Lit × DataW H → Nat
  | (.string bytes, d) => bytes.length + uptoBulk d + 1
  | (_, d) => uptoBulk d + 1
 end
def uptoSmall : (H : Type) → List (DataW H) → Bool := fun _ ds => decide (uptoBulkAll ds ≤ 1048576)
def OpenSpec.upto (s : _root_.Go.ChangeSpec) : _root_.Go.OpenSpec := { _root_.Go.OpenSpec.ofChange s with cond := some uptoSmall }

/-- 'threshinglaw08.ExtendPlays', WHERE WHAT IT READS IS OF BULK AT MOST 1048576: true; the input reads as it did. -/
def extendPlaysUptoRow : OpenClaim := { program := "ytjakfgpgcnbclaa", sum := "df658206dc9b98bcbc0ff5b2c97628fb9c51a4c69406d4b1215fafbe5fdbc89a", func := "threshing/threshinglaw08.ExtendPlays", spec := "extendPlays", unfollowed := true, recurses := true, apart := false, narrowed := true }
def ExtendPlaysUptoSaid : Prop := extendPlaysUptoRow.holds Try.pinned (OpenSpec.upto extendPlaysSpec)

/-- 'threshinglaw08.ExtendGood', WHERE WHAT IT READS IS OF BULK AT MOST 1048576: true; the input reads as it did. -/
def extendGoodUptoRow : OpenClaim := { program := "ytjakfgpgcnbclaa", sum := "df658206dc9b98bcbc0ff5b2c97628fb9c51a4c69406d4b1215fafbe5fdbc89a", func := "threshing/threshinglaw08.ExtendGood", spec := "extendGood", unfollowed := true, recurses := true, apart := false, narrowed := true }
def ExtendGoodUptoSaid : Prop := extendGoodUptoRow.holds Try.pinned (OpenSpec.upto extendGoodSpec)

/-- 'threshinglaw08.ExtendKnown', WHERE WHAT IT READS IS OF BULK AT MOST 1048576: true; the input reads as it did. -/
def extendKnownUptoRow : OpenClaim := { program := "ytjakfgpgcnbclaa", sum := "df658206dc9b98bcbc0ff5b2c97628fb9c51a4c69406d4b1215fafbe5fdbc89a", func := "threshing/threshinglaw08.ExtendKnown", spec := "extendKnown", unfollowed := true, recurses := true, apart := false, narrowed := true }
def ExtendKnownUptoSaid : Prop := extendKnownUptoRow.holds Try.pinned (OpenSpec.upto extendKnownSpec)

end Rows
end Go.Proofs.Ytjakfgpgcnbclaa
