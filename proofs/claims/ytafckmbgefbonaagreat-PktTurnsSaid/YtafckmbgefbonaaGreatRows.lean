/-
  No cell of these rows narrows 'for every input' (looked for: loops, veiled, ifaces, maps, wideKeys, modest, calm, conditions, laid).
  DERIVED. THE GIVEN ROWS OF THIS SEAT. 3 by the template 'for every input the law returns true; each argument reads behind the call as it read before'; 0 by the template 'total and deterministic' (their statements: YtafckmbgefbonaaGreatTotals.lean).
  GIVEN WITH THE SEED: the statements are not yours to turn. If you find one false, say at which input.
  Laid BY PROGRAM, IN A SANDBOX (cutbox-rows.mjs): the forced cells as the released guide's own fill.sh prints them over the translation bf5073072f4ed7bd… (all of the seat's roots in one cut). By AI agents, Wed Nov 11 2026. No macro, syntax, notation, axiom, sorry.
-/
import Derived.Test.YtafckmbgefbonaaGreatChecked
import GoSem.Claim
import GoSem.ClaimJoined
import GoSem.ClaimMapViews
import Derived.JoinedTies
import Derived.KernelRfl
namespace Go.Proofs.YtafckmbgefbonaaGreat
/- THE CELL 'sum', in the pinned program and in every row, IS THE sha256 OF THE DUMP (.gsa) THAT YtafckmbgefbonaaGreatProg.lean LOADS. Nothing in Lean hashes anything: it is a label: what it is worth is what the hold of that sum in a sandbox is worth. -/
noncomputable def Tryz.pinned : Pinned := { name := "ytafckmbgefbonaagreat", sum := "bf5073072f4ed7bd528cfdf5e867e8ed6a3c4c5402ea751e51b439f3737df936", checked := Tryz.checked }
namespace Rows
def none {H : Type} : Left H := { results := [], args := [] }

/-- 'transomlaw08.PktWrites': WHATEVER THE INPUT: true; the input reads as it did. -/
def pktWritesSpec : ChangeSpec := { name := "pktWrites", fn := fun _ => fun
  | [d1, d2] => { results := [.lit (.bool true)], args := [d1, d2] }
  | _ => none }
def pktWritesRow : OpenClaim := { program := "ytafckmbgefbonaagreat", sum := "bf5073072f4ed7bd528cfdf5e867e8ed6a3c4c5402ea751e51b439f3737df936", func := "transom/transomlaw08.PktWrites", spec := "pktWrites", unfollowed := true, recurses := true, apart := false }
def PktWritesSaid : Prop := pktWritesRow.holds Tryz.pinned (OpenSpec.ofChange pktWritesSpec)

/-- ITS FALSE NEIGHBOUR: 'it returns false'. Refute it at one input. -/
def pktWritesWrong : ChangeSpec := { name := "pktWrites", fn := fun _ => fun
  | [d1, d2] => { results := [.lit (.bool false)], args := [d1, d2] }
  | _ => none }
def PktWritesWrongFalsely : Prop := pktWritesRow.holds Tryz.pinned (OpenSpec.ofChange pktWritesWrong)

/-- 'transomlaw08.PktReads': WHATEVER THE INPUT: true; the input reads as it did. -/
def pktReadsSpec : ChangeSpec := { name := "pktReads", fn := fun _ => fun
  | [d] => { results := [.lit (.bool true)], args := [d] }
  | _ => none }
def pktReadsRow : OpenClaim := { program := "ytafckmbgefbonaagreat", sum := "bf5073072f4ed7bd528cfdf5e867e8ed6a3c4c5402ea751e51b439f3737df936", func := "transom/transomlaw08.PktReads", spec := "pktReads", unfollowed := true, recurses := true, apart := false }
def PktReadsSaid : Prop := pktReadsRow.holds Tryz.pinned (OpenSpec.ofChange pktReadsSpec)

/-- ITS FALSE NEIGHBOUR: 'it returns false'. Refute it at one input. -/
def pktReadsWrong : ChangeSpec := { name := "pktReads", fn := fun _ => fun
  | [d] => { results := [.lit (.bool false)], args := [d] }
  | _ => none }
def PktReadsWrongFalsely : Prop := pktReadsRow.holds Tryz.pinned (OpenSpec.ofChange pktReadsWrong)

/-- 'transomlaw08.PktTurns': WHATEVER THE INPUT: true; the input reads as it did. -/
def pktTurnsSpec : ChangeSpec := { name := "pktTurns", fn := fun _ => fun
  | [d1, d2, d3] => { results := [.lit (.bool true)], args := [d1, d2, d3] }
  | _ => none }
def pktTurnsRow : OpenClaim := { program := "ytafckmbgefbonaagreat", sum := "bf5073072f4ed7bd528cfdf5e867e8ed6a3c4c5402ea751e51b439f3737df936", func := "transom/transomlaw08.PktTurns", spec := "pktTurns", unfollowed := true, recurses := true, apart := false }
def PktTurnsSaid : Prop := pktTurnsRow.holds Tryz.pinned (OpenSpec.ofChange pktTurnsSpec)

/-- ITS FALSE NEIGHBOUR: 'it returns false'. Refute it at one input. -/
def pktTurnsWrong : ChangeSpec := { name := "pktTurns", fn := fun _ => fun
  | [d1, d2, d3] => { results := [.lit (.bool false)], args := [d1, d2, d3] }
  | _ => none }
def PktTurnsWrongFalsely : Prop := pktTurnsRow.holds Tryz.pinned (OpenSpec.ofChange pktTurnsWrong)

/- THE SECOND FORM. 'bulk': how many values and letters a reading holds, each counted each time it is reached (what is shared counts as often as it is met; a slice's spare places count too). A statement '..UptoSaid' is the law's where the arguments, and the package variables that the reading takes, are together of bulk at most 1048576: NARROWER than '..Said'. Prove '..Said' where nothing that the law and all that it calls make is longer than what came in: it says more and counts as full. Else prove '..UptoSaid'. A law counts once. -/
mutual
def uptoBulk {H : Type} : DataW H → Nat
  | .lit (.string bytes) => bytes.length + 1
  | .lit _ => 1
  | .nil => 1
  | .ptr d => uptoBulk d + 1
  | .slice elems spare => uptoBulkAll elems + uptoBulkAll spare + 1
  | .agg parts => uptoBulkAll parts + 1
  | .iface _ d => uptoBulk d + 1
  | .map entries => uptoBulkEntries entries + 1
  | .held _ => 1
def uptoBulkAll {H : Type} : List (DataW H) → Nat
  | [] => 0
  | d :: r => uptoBulk d + uptoBulkAll r
def uptoBulkEntries {H : Type} : List (Lit × DataW H) → Nat
  | [] => 0
  | x :: r => uptoBulkEntry x + uptoBulkEntries r
def uptoBulkEntry {H : Type} : Lit × DataW H → Nat
  | (.string bytes, d) => bytes.length + uptoBulk d + 1
  | (_, d) => uptoBulk d + 1
 end
def uptoSmall : (H : Type) → List (DataW H) → Bool := fun _ ds => decide (uptoBulkAll ds ≤ 1048576)
def OpenSpec.upto (s : _root_.Go.ChangeSpec) : _root_.Go.OpenSpec := { _root_.Go.OpenSpec.ofChange s with cond := some uptoSmall }

/-- 'transomlaw08.PktWrites', WHERE WHAT IT READS IS OF BULK AT MOST 1048576: true; the input reads as it did. -/
def pktWritesUptoRow : OpenClaim := { program := "ytafckmbgefbonaagreat", sum := "bf5073072f4ed7bd528cfdf5e867e8ed6a3c4c5402ea751e51b439f3737df936", func := "transom/transomlaw08.PktWrites", spec := "pktWrites", unfollowed := true, recurses := true, apart := false, narrowed := true }
def PktWritesUptoSaid : Prop := pktWritesUptoRow.holds Tryz.pinned (OpenSpec.upto pktWritesSpec)

/-- 'transomlaw08.PktReads', WHERE WHAT IT READS IS OF BULK AT MOST 1048576: true; the input reads as it did. -/
def pktReadsUptoRow : OpenClaim := { program := "ytafckmbgefbonaagreat", sum := "bf5073072f4ed7bd528cfdf5e867e8ed6a3c4c5402ea751e51b439f3737df936", func := "transom/transomlaw08.PktReads", spec := "pktReads", unfollowed := true, recurses := true, apart := false, narrowed := true }
def PktReadsUptoSaid : Prop := pktReadsUptoRow.holds Tryz.pinned (OpenSpec.upto pktReadsSpec)

/-- 'transomlaw08.PktTurns', WHERE WHAT IT READS IS OF BULK AT MOST 1048576: true; the input reads as it did. -/
def pktTurnsUptoRow : OpenClaim := { program := "ytafckmbgefbonaagreat", sum := "bf5073072f4ed7bd528cfdf5e867e8ed6a3c4c5402ea751e51b439f3737df936", func := "transom/transomlaw08.PktTurns", spec := "pktTurns", unfollowed := true, recurses := true, apart := false, narrowed := true }
def PktTurnsUptoSaid : Prop := pktTurnsUptoRow.holds Tryz.pinned (OpenSpec.upto pktTurnsSpec)

end Rows
end Go.Proofs.YtafckmbgefbonaaGreat
