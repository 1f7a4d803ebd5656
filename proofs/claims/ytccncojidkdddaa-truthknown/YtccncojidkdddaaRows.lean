/-
  No cell of these rows narrows 'for every input' (looked for: loops, veiled, ifaces, maps, wideKeys, modest, calm, conditions, laid).
  DERIVED. THE GIVEN ROWS OF THIS SEAT. 4 by the template 'for every input the law returns true; each argument reads behind the call as it read before'; 0 by the template 'total and deterministic' (their statements: YtccncojidkdddaaTotals.lean).
  GIVEN WITH THE SEED: the statements are not yours to turn. If you find one false, say at which input.
  Laid BY PROGRAM, IN A SANDBOX (cutbox-rows.mjs): the forced cells as the released guide's own fill.sh prints them over the translation ae912e4f1cb9c552… (all of the seat's roots in one cut). By AI agents, Wed Nov 11 2026. No macro, syntax, notation, axiom, sorry.
-/
import Derived.Test.YtccncojidkdddaaChecked
import GoSem.Claim
import GoSem.ClaimJoined
import GoSem.ClaimMapViews
import Derived.JoinedTies
import Derived.KernelRfl
namespace Go.Proofs.Ytccncojidkdddaa
/- THE CELL 'sum', in the pinned program and in every row, IS THE sha256 OF THE DUMP (.gsa) THAT YtccncojidkdddaaProg.lean LOADS. Nothing in Lean hashes anything: it is a label: what it is worth is what the hold of that sum in a sandbox is worth. -/
noncomputable def Try.pinned : Pinned := { name := "ytccncojidkdddaa", sum := "ae912e4f1cb9c5521f899c3958a45a75880878dbad6ef60a74d8f0d05cbb5f4b", checked := Try.checked }
namespace Rows
def none {H : Type} : Left H := { results := [], args := [] }

/-- 'threshinglaw03.TruthFinds': WHATEVER THE INPUT: true; the input reads as it did. -/
def truthFindsSpec : ChangeSpec := { name := "truthFinds", fn := fun _ => fun
  | [d] => { results := [.lit (.bool true)], args := [d] }
  | _ => none }
def truthFindsRow : OpenClaim := { program := "ytccncojidkdddaa", sum := "ae912e4f1cb9c5521f899c3958a45a75880878dbad6ef60a74d8f0d05cbb5f4b", func := "threshing/threshinglaw03.TruthFinds", spec := "truthFinds", unfollowed := true, recurses := true, apart := false }
def TruthFindsSaid : Prop := truthFindsRow.holds Try.pinned (OpenSpec.ofChange truthFindsSpec)

/-- ITS FALSE NEIGHBOUR: 'it returns false'. Refute it at one input. -/
def truthFindsWrong : ChangeSpec := { name := "truthFinds", fn := fun _ => fun
  | [d] => { results := [.lit (.bool false)], args := [d] }
  | _ => none }
def TruthFindsWrongFalsely : Prop := truthFindsRow.holds Try.pinned (OpenSpec.ofChange truthFindsWrong)

/-- 'threshinglaw03.TruthImplies': WHATEVER THE INPUT: true; the input reads as it did. -/
def truthImpliesSpec : ChangeSpec := { name := "truthImplies", fn := fun _ => fun
  | [d1, d2, d3] => { results := [.lit (.bool true)], args := [d1, d2, d3] }
  | _ => none }
def truthImpliesRow : OpenClaim := { program := "ytccncojidkdddaa", sum := "ae912e4f1cb9c5521f899c3958a45a75880878dbad6ef60a74d8f0d05cbb5f4b", func := "threshing/threshinglaw03.TruthImplies", spec := "truthImplies", unfollowed := true, recurses := true, apart := false }
def TruthImpliesSaid : Prop := truthImpliesRow.holds Try.pinned (OpenSpec.ofChange truthImpliesSpec)

/-- ITS FALSE NEIGHBOUR: 'it returns false'. Refute it at one input. -/
def truthImpliesWrong : ChangeSpec := { name := "truthImplies", fn := fun _ => fun
  | [d1, d2, d3] => { results := [.lit (.bool false)], args := [d1, d2, d3] }
  | _ => none }
def TruthImpliesWrongFalsely : Prop := truthImpliesRow.holds Try.pinned (OpenSpec.ofChange truthImpliesWrong)

/-- 'threshinglaw03.TruthGrows': WHATEVER THE INPUT: true; the input reads as it did. -/
def truthGrowsSpec : ChangeSpec := { name := "truthGrows", fn := fun _ => fun
  | [d1, d2] => { results := [.lit (.bool true)], args := [d1, d2] }
  | _ => none }
def truthGrowsRow : OpenClaim := { program := "ytccncojidkdddaa", sum := "ae912e4f1cb9c5521f899c3958a45a75880878dbad6ef60a74d8f0d05cbb5f4b", func := "threshing/threshinglaw03.TruthGrows", spec := "truthGrows", unfollowed := true, recurses := true, apart := false }
def TruthGrowsSaid : Prop := truthGrowsRow.holds Try.pinned (OpenSpec.ofChange truthGrowsSpec)

/-- ITS FALSE NEIGHBOUR: 'it returns false'. Refute it at one input. -/
def truthGrowsWrong : ChangeSpec := { name := "truthGrows", fn := fun _ => fun
  | [d1, d2] => { results := [.lit (.bool false)], args := [d1, d2] }
  | _ => none }
def TruthGrowsWrongFalsely : Prop := truthGrowsRow.holds Try.pinned (OpenSpec.ofChange truthGrowsWrong)

/-- 'threshinglaw03.TruthKnown': WHATEVER THE INPUT: true; the input reads as it did. -/
def truthKnownSpec : ChangeSpec := { name := "truthKnown", fn := fun _ => fun
  | [] => { results := [.lit (.bool true)], args := [] }
  | _ => none }
def truthKnownRow : OpenClaim := { program := "ytccncojidkdddaa", sum := "ae912e4f1cb9c5521f899c3958a45a75880878dbad6ef60a74d8f0d05cbb5f4b", func := "threshing/threshinglaw03.TruthKnown", spec := "truthKnown", unfollowed := true, recurses := true, apart := false }
def TruthKnownSaid : Prop := truthKnownRow.holds Try.pinned (OpenSpec.ofChange truthKnownSpec)

/-- ITS FALSE NEIGHBOUR: 'it returns false'. Refute it at one input. -/
def truthKnownWrong : ChangeSpec := { name := "truthKnown", fn := fun _ => fun
  | [] => { results := [.lit (.bool false)], args := [] }
  | _ => none }
def TruthKnownWrongFalsely : Prop := truthKnownRow.holds Try.pinned (OpenSpec.ofChange truthKnownWrong)

/- THE SECOND FORM. 'bulk': how many values and letters a reading holds, each counted each time it is reached (what is shared counts as often as it is met; a slice's spare places count too). A statement '..UptoSaid' is the law's where the arguments, and the package variables that the reading takes, are together of bulk at most 1048576: NARROWER than '..Said'. Prove '..Said' where nothing that the law and all that it calls make is longer than what came in: it says more and counts as full. Else prove '..UptoSaid'. A law counts once. -/
mutual
def uptoBulk {H : Type} : DataW H → Nat
  | .lit (.string bytes) => bytes.length + 1
  | .lit _ => 1
  | .nil => 1
  | .ptr d => uptoBulk d + 1
  | .slice elems spare => uptoBulkAll elems + uptoBulkAll spare + 1
  | .agg parts => uptoBulkAll parts + 1
  | .iface _ d => uptoBulk d + 1
  | .map entries => uptoBulkEntries entries + 1
  | .held _ => 1
def uptoBulkAll {H : Type} : List (DataW H) → Nat
  | [] => 0
  | d :: r => uptoBulk d + uptoBulkAll r
def uptoBulkEntries {H : Type} : List (Lit × DataW H) → Nat
  | [] => 0
  | x :: r => uptoBulkEntry x + uptoBulkEntries r
def uptoBulkEntry {H : Type} : Lit × DataW H → Nat
  | (.string bytes, d) => bytes.length + uptoBulk d + 1
  | (_, d) => uptoBulk d + 1
 end
def uptoSmall : (H : Type) → List (DataW H) → Bool := fun _ ds => decide (uptoBulkAll ds ≤ 1048576)
def OpenSpec.upto (s : _root_.Go.ChangeSpec) : _root_.Go.OpenSpec := { _root_.Go.OpenSpec.ofChange s with cond := some uptoSmall }

/-- 'threshinglaw03.TruthFinds', WHERE WHAT IT READS IS OF BULK AT MOST 1048576: true; the input reads as it did. -/
def truthFindsUptoRow : OpenClaim := { program := "ytccncojidkdddaa", sum := "ae912e4f1cb9c5521f899c3958a45a75880878dbad6ef60a74d8f0d05cbb5f4b", func := "threshing/threshinglaw03.TruthFinds", spec := "truthFinds", unfollowed := true, recurses := true, apart := false, narrowed := true }
def TruthFindsUptoSaid : Prop := truthFindsUptoRow.holds Try.pinned (OpenSpec.upto truthFindsSpec)

/-- 'threshinglaw03.TruthImplies', WHERE WHAT IT READS IS OF BULK AT MOST 1048576: true; the input reads as it did. -/
def truthImpliesUptoRow : OpenClaim := { program := "ytccncojidkdddaa", sum := "ae912e4f1cb9c5521f899c3958a45a75880878dbad6ef60a74d8f0d05cbb5f4b", func := "threshing/threshinglaw03.TruthImplies", spec := "truthImplies", unfollowed := true, recurses := true, apart := false, narrowed := true }
def TruthImpliesUptoSaid : Prop := truthImpliesUptoRow.holds Try.pinned (OpenSpec.upto truthImpliesSpec)

/-- 'threshinglaw03.TruthGrows', WHERE WHAT IT READS IS OF BULK AT MOST 1048576: true; the input reads as it did. -/
def truthGrowsUptoRow : OpenClaim := { program := "ytccncojidkdddaa", sum := "ae912e4f1cb9c5521f899c3958a45a75880878dbad6ef60a74d8f0d05cbb5f4b", func := "threshing/threshinglaw03.TruthGrows", spec := "truthGrows", unfollowed := true, recurses := true, apart := false, narrowed := true }
def TruthGrowsUptoSaid : Prop := truthGrowsUptoRow.holds Try.pinned (OpenSpec.upto truthGrowsSpec)

/-- 'threshinglaw03.TruthKnown', WHERE WHAT IT READS IS OF BULK AT MOST 1048576: true; the input reads as it did. -/
def truthKnownUptoRow : OpenClaim := { program := "ytccncojidkdddaa", sum := "ae912e4f1cb9c5521f899c3958a45a75880878dbad6ef60a74d8f0d05cbb5f4b", func := "threshing/threshinglaw03.TruthKnown", spec := "truthKnown", unfollowed := true, recurses := true, apart := false, narrowed := true }
def TruthKnownUptoSaid : Prop := truthKnownUptoRow.holds Try.pinned (OpenSpec.upto truthKnownSpec)

end Rows
end Go.Proofs.Ytccncojidkdddaa
