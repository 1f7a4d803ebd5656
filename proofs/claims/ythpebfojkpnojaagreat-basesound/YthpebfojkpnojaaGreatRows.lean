/-
  No cell of these rows narrows 'for every input' (looked for: loops, veiled, ifaces, maps, wideKeys, modest, calm, conditions, laid).
  DERIVED. THE GIVEN ROWS OF THIS SEAT. 3 by the template 'for every input the law returns true; each argument reads behind the call as it read before'; 0 by the template 'total and deterministic' (their statements: YthpebfojkpnojaaGreatTotals.lean).
  GIVEN WITH THE SEED: the statements are not yours to turn. If you find one false, say at which input.
  Laid BY PROGRAM, IN A SANDBOX (cutbox-rows.mjs): the forced cells as the released guide's own fill.sh prints them over the translation c9fda13e0236f561… (all of the seat's roots in one cut). By AI agents, Wed Nov 11 2026. No macro, syntax, notation, axiom, sorry.
-/
import Derived.Test.YthpebfojkpnojaaGreatChecked
import GoSem.Claim
import GoSem.ClaimJoined
import GoSem.ClaimMapViews
import Derived.JoinedTies
import Derived.KernelRfl
namespace Go.Proofs.YthpebfojkpnojaaGreat
/- THE CELL 'sum', in the pinned program and in every row, IS THE sha256 OF THE DUMP (.gsa) THAT YthpebfojkpnojaaGreatProg.lean LOADS. Nothing in Lean hashes anything: it is a label: what it is worth is what the hold of that sum in a sandbox is worth. -/
noncomputable def Tryz.pinned : Pinned := { name := "ythpebfojkpnojaagreat", sum := "c9fda13e0236f5618d210665db88f00c2d5b7d2f72c6a6102117363f77a37ca6", checked := Tryz.checked }
namespace Rows
def none {H : Type} : Left H := { results := [], args := [] }

/-- 'threshinglaw07.BasePlays': WHATEVER THE INPUT: true; the input reads as it did. -/
def basePlaysSpec : ChangeSpec := { name := "basePlays", fn := fun _ => fun
  | [d1, d2] => { results := [.lit (.bool true)], args := [d1, d2] }
  | _ => none }
def basePlaysRow : OpenClaim := { program := "ythpebfojkpnojaagreat", sum := "c9fda13e0236f5618d210665db88f00c2d5b7d2f72c6a6102117363f77a37ca6", func := "threshing/threshinglaw07.BasePlays", spec := "basePlays", inPlace := ["maps.clone"], unfollowed := true, recurses := true, apart := false }
def BasePlaysSaid : Prop := basePlaysRow.holds Tryz.pinned (OpenSpec.ofChange basePlaysSpec)

/-- ITS FALSE NEIGHBOUR: 'it returns false'. Refute it at one input. -/
def basePlaysWrong : ChangeSpec := { name := "basePlays", fn := fun _ => fun
  | [d1, d2] => { results := [.lit (.bool false)], args := [d1, d2] }
  | _ => none }
def BasePlaysWrongFalsely : Prop := basePlaysRow.holds Tryz.pinned (OpenSpec.ofChange basePlaysWrong)

/-- 'threshinglaw07.BaseSound': WHATEVER THE INPUT: true; the input reads as it did. -/
def baseSoundSpec : ChangeSpec := { name := "baseSound", fn := fun _ => fun
  | [d1, d2] => { results := [.lit (.bool true)], args := [d1, d2] }
  | _ => none }
def baseSoundRow : OpenClaim := { program := "ythpebfojkpnojaagreat", sum := "c9fda13e0236f5618d210665db88f00c2d5b7d2f72c6a6102117363f77a37ca6", func := "threshing/threshinglaw07.BaseSound", spec := "baseSound", unfollowed := true, recurses := true, apart := false }
def BaseSoundSaid : Prop := baseSoundRow.holds Tryz.pinned (OpenSpec.ofChange baseSoundSpec)

/-- ITS FALSE NEIGHBOUR: 'it returns false'. Refute it at one input. -/
def baseSoundWrong : ChangeSpec := { name := "baseSound", fn := fun _ => fun
  | [d1, d2] => { results := [.lit (.bool false)], args := [d1, d2] }
  | _ => none }
def BaseSoundWrongFalsely : Prop := baseSoundRow.holds Tryz.pinned (OpenSpec.ofChange baseSoundWrong)

/-- 'threshinglaw07.BaseKnown': WHATEVER THE INPUT: true; the input reads as it did. -/
def baseKnownSpec : ChangeSpec := { name := "baseKnown", fn := fun _ => fun
  | [] => { results := [.lit (.bool true)], args := [] }
  | _ => none }
def baseKnownRow : OpenClaim := { program := "ythpebfojkpnojaagreat", sum := "c9fda13e0236f5618d210665db88f00c2d5b7d2f72c6a6102117363f77a37ca6", func := "threshing/threshinglaw07.BaseKnown", spec := "baseKnown", inPlace := ["maps.clone"], unfollowed := true, recurses := true, apart := false }
def BaseKnownSaid : Prop := baseKnownRow.holds Tryz.pinned (OpenSpec.ofChange baseKnownSpec)

/-- ITS FALSE NEIGHBOUR: 'it returns false'. Refute it at one input. -/
def baseKnownWrong : ChangeSpec := { name := "baseKnown", fn := fun _ => fun
  | [] => { results := [.lit (.bool false)], args := [] }
  | _ => none }
def BaseKnownWrongFalsely : Prop := baseKnownRow.holds Tryz.pinned (OpenSpec.ofChange baseKnownWrong)

/- THE SECOND FORM. 'bulk': how many values and letters a reading holds, each counted each time it is reached (what is shared counts as often as it is met; a slice's spare places count too). A statement '..UptoSaid' is the law's where the arguments, and the package variables that the reading takes, are together of bulk at most 1048576: NARROWER than '..Said'. Prove '..Said' where nothing that the law and all that it calls make is longer than what came in: it says more and counts as full. Else prove '..UptoSaid'. A law counts once. -/
mutual
def uptoBulk {H : Type} : DataW H → Nat
  | .lit (.string bytes) => bytes.length + 1
  | .lit _ => 1
  | .nil => 1
  | .ptr d => uptoBulk d + 1
  | .slice elems spare => uptoBulkAll elems + uptoBulkAll spare + 1
  | .agg parts => uptoBulkAll parts + 1
  | .iface _ d => uptoBulk d + 1
  | .map entries => uptoBulkEntries entries + 1
  | .held _ => 1
def uptoBulkAll {H : Type} : List (DataW H) → Nat
  | [] => 0
  | d :: r => uptoBulk d + uptoBulkAll r
def uptoBulkEntries {H : Type} : List (Lit × DataW H) → Nat
  | [] => 0
  | x :: r => uptoBulkEntry x + uptoBulkEntries r
def uptoBulkEntry {H : Type} : Lit × DataW H → Nat
  | (.string bytes, d) => bytes.length + uptoBulk d + 1
  | (_, d) => uptoBulk d + 1
 end
def uptoSmall : (H : Type) → List (DataW H) → Bool := fun _ ds => decide (uptoBulkAll ds ≤ 1048576)
def OpenSpec.upto (s : _root_.Go.ChangeSpec) : _root_.Go.OpenSpec := { _root_.Go.OpenSpec.ofChange s with cond := some uptoSmall }

/-- 'threshinglaw07.BasePlays', WHERE WHAT IT READS IS OF BULK AT MOST 1048576: true; the input reads as it did. -/
def basePlaysUptoRow : OpenClaim := { program := "ythpebfojkpnojaagreat", sum := "c9fda13e0236f5618d210665db88f00c2d5b7d2f72c6a6102117363f77a37ca6", func := "threshing/threshinglaw07.BasePlays", spec := "basePlays", inPlace := ["maps.clone"], unfollowed := true, recurses := true, apart := false, narrowed := true }
def BasePlaysUptoSaid : Prop := basePlaysUptoRow.holds Tryz.pinned (OpenSpec.upto basePlaysSpec)

/-- 'threshinglaw07.BaseSound', WHERE WHAT IT READS IS OF BULK AT MOST 1048576: true; the input reads as it did. -/
def baseSoundUptoRow : OpenClaim := { program := "ythpebfojkpnojaagreat", sum := "c9fda13e0236f5618d210665db88f00c2d5b7d2f72c6a6102117363f77a37ca6", func := "threshing/threshinglaw07.BaseSound", spec := "baseSound", unfollowed := true, recurses := true, apart := false, narrowed := true }
def BaseSoundUptoSaid : Prop := baseSoundUptoRow.holds Tryz.pinned (OpenSpec.upto baseSoundSpec)

/-- 'threshinglaw07.BaseKnown', WHERE WHAT IT READS IS OF BULK AT MOST 1048576: true; the input reads as it did. -/
def baseKnownUptoRow : OpenClaim := { program := "ythpebfojkpnojaagreat", sum := "c9fda13e0236f5618d210665db88f00c2d5b7d2f72c6a6102117363f77a37ca6", func := "threshing/threshinglaw07.BaseKnown", spec := "baseKnown", inPlace := ["maps.clone"], unfollowed := true, recurses := true, apart := false, narrowed := true }
def BaseKnownUptoSaid : Prop := baseKnownUptoRow.holds Tryz.pinned (OpenSpec.upto baseKnownSpec)

end Rows
end Go.Proofs.YthpebfojkpnojaaGreat
