/-
  No cell of these rows narrows 'for every input' (looked for: loops, veiled, ifaces, maps, wideKeys, modest, calm, conditions, laid).
  DERIVED. THE GIVEN ROWS OF THIS SEAT. 9 by the template 'for every input the law returns true; each argument reads behind the call as it read before'; 0 by the template 'total and deterministic' (their statements: YtggapcfjcdafpaaGreatTotals.lean).
  GIVEN WITH THE SEED: the statements are not yours to turn. If you find one false, say at which input.
  Laid BY PROGRAM, IN A SANDBOX (cutbox-rows.mjs): the forced cells as the released guide's own fill.sh prints them over the translation fe7c568ce75b6a32… (all of the seat's roots in one cut). By AI agents, Wed Nov 11 2026. No macro, syntax, notation, axiom, sorry.
-/
import Derived.Test.YtggapcfjcdafpaaGreatChecked
import GoSem.Claim
import GoSem.ClaimJoined
import GoSem.ClaimMapViews
import Derived.JoinedTies
import Derived.KernelRfl
namespace Go.Proofs.YtggapcfjcdafpaaGreat
/- THE CELL 'sum', in the pinned program and in every row, IS THE sha256 OF THE DUMP (.gsa) THAT YtggapcfjcdafpaaGreatProg.lean LOADS. Nothing in Lean hashes anything: it is a label: what it is worth is what the hold of that sum in a sandbox is worth. -/
noncomputable def Tryz.pinned : Pinned := { name := "ytggapcfjcdafpaagreat", sum := "fe7c568ce75b6a3272f759bb9cbc4976a8da979ad33cfc877d162c7cc7809a80", checked := Tryz.checked }
namespace Rows
def none {H : Type} : Left H := { results := [], args := [] }

/-- 'typebarlaw10.SegStarts': WHATEVER THE INPUT: true; the input reads as it did. -/
def segStartsSpec : ChangeSpec := { name := "segStarts", fn := fun _ => fun
  | [d] => { results := [.lit (.bool true)], args := [d] }
  | _ => none }
def segStartsRow : OpenClaim := { program := "ytggapcfjcdafpaagreat", sum := "fe7c568ce75b6a3272f759bb9cbc4976a8da979ad33cfc877d162c7cc7809a80", func := "typebar/typebarlaw10.SegStarts", spec := "segStarts", unfollowed := true, recurses := true, plainKeys := false, apart := false }
def SegStartsSaid : Prop := segStartsRow.holds Tryz.pinned (OpenSpec.ofChange segStartsSpec)

/-- ITS FALSE NEIGHBOUR: 'it returns false'. Refute it at one input. -/
def segStartsWrong : ChangeSpec := { name := "segStarts", fn := fun _ => fun
  | [d] => { results := [.lit (.bool false)], args := [d] }
  | _ => none }
def SegStartsWrongFalsely : Prop := segStartsRow.holds Tryz.pinned (OpenSpec.ofChange segStartsWrong)

/-- 'typebarlaw10.SegSteps': WHATEVER THE INPUT: true; the input reads as it did. -/
def segStepsSpec : ChangeSpec := { name := "segSteps", fn := fun _ => fun
  | [d] => { results := [.lit (.bool true)], args := [d] }
  | _ => none }
def segStepsRow : OpenClaim := { program := "ytggapcfjcdafpaagreat", sum := "fe7c568ce75b6a3272f759bb9cbc4976a8da979ad33cfc877d162c7cc7809a80", func := "typebar/typebarlaw10.SegSteps", spec := "segSteps", unfollowed := true, recurses := true, plainKeys := false, apart := false }
def SegStepsSaid : Prop := segStepsRow.holds Tryz.pinned (OpenSpec.ofChange segStepsSpec)

/-- ITS FALSE NEIGHBOUR: 'it returns false'. Refute it at one input. -/
def segStepsWrong : ChangeSpec := { name := "segSteps", fn := fun _ => fun
  | [d] => { results := [.lit (.bool false)], args := [d] }
  | _ => none }
def SegStepsWrongFalsely : Prop := segStepsRow.holds Tryz.pinned (OpenSpec.ofChange segStepsWrong)

/-- 'typebarlaw10.SegClusters': WHATEVER THE INPUT: true; the input reads as it did. -/
def segClustersSpec : ChangeSpec := { name := "segClusters", fn := fun _ => fun
  | [d] => { results := [.lit (.bool true)], args := [d] }
  | _ => none }
def segClustersRow : OpenClaim := { program := "ytggapcfjcdafpaagreat", sum := "fe7c568ce75b6a3272f759bb9cbc4976a8da979ad33cfc877d162c7cc7809a80", func := "typebar/typebarlaw10.SegClusters", spec := "segClusters", unfollowed := true, recurses := true, plainKeys := false, apart := false }
def SegClustersSaid : Prop := segClustersRow.holds Tryz.pinned (OpenSpec.ofChange segClustersSpec)

/-- ITS FALSE NEIGHBOUR: 'it returns false'. Refute it at one input. -/
def segClustersWrong : ChangeSpec := { name := "segClusters", fn := fun _ => fun
  | [d] => { results := [.lit (.bool false)], args := [d] }
  | _ => none }
def SegClustersWrongFalsely : Prop := segClustersRow.holds Tryz.pinned (OpenSpec.ofChange segClustersWrong)

/-- 'typebarlaw10.SegNext': WHATEVER THE INPUT: true; the input reads as it did. -/
def segNextSpec : ChangeSpec := { name := "segNext", fn := fun _ => fun
  | [d1, d2] => { results := [.lit (.bool true)], args := [d1, d2] }
  | _ => none }
def segNextRow : OpenClaim := { program := "ytggapcfjcdafpaagreat", sum := "fe7c568ce75b6a3272f759bb9cbc4976a8da979ad33cfc877d162c7cc7809a80", func := "typebar/typebarlaw10.SegNext", spec := "segNext", unfollowed := true, recurses := true, plainKeys := false, apart := false }
def SegNextSaid : Prop := segNextRow.holds Tryz.pinned (OpenSpec.ofChange segNextSpec)

/-- ITS FALSE NEIGHBOUR: 'it returns false'. Refute it at one input. -/
def segNextWrong : ChangeSpec := { name := "segNext", fn := fun _ => fun
  | [d1, d2] => { results := [.lit (.bool false)], args := [d1, d2] }
  | _ => none }
def SegNextWrongFalsely : Prop := segNextRow.holds Tryz.pinned (OpenSpec.ofChange segNextWrong)

/-- 'typebarlaw10.SegSuffix': WHATEVER THE INPUT: true; the input reads as it did. -/
def segSuffixSpec : ChangeSpec := { name := "segSuffix", fn := fun _ => fun
  | [d1, d2] => { results := [.lit (.bool true)], args := [d1, d2] }
  | _ => none }
def segSuffixRow : OpenClaim := { program := "ytggapcfjcdafpaagreat", sum := "fe7c568ce75b6a3272f759bb9cbc4976a8da979ad33cfc877d162c7cc7809a80", func := "typebar/typebarlaw10.SegSuffix", spec := "segSuffix", unfollowed := true, recurses := true, plainKeys := false, apart := false }
def SegSuffixSaid : Prop := segSuffixRow.holds Tryz.pinned (OpenSpec.ofChange segSuffixSpec)

/-- ITS FALSE NEIGHBOUR: 'it returns false'. Refute it at one input. -/
def segSuffixWrong : ChangeSpec := { name := "segSuffix", fn := fun _ => fun
  | [d1, d2] => { results := [.lit (.bool false)], args := [d1, d2] }
  | _ => none }
def SegSuffixWrongFalsely : Prop := segSuffixRow.holds Tryz.pinned (OpenSpec.ofChange segSuffixWrong)

/-- 'typebarlaw11.BackFloors': WHATEVER THE INPUT: true; the input reads as it did. -/
def backFloorsSpec : ChangeSpec := { name := "backFloors", fn := fun _ => fun
  | [d1, d2] => { results := [.lit (.bool true)], args := [d1, d2] }
  | _ => none }
def backFloorsRow : OpenClaim := { program := "ytggapcfjcdafpaagreat", sum := "fe7c568ce75b6a3272f759bb9cbc4976a8da979ad33cfc877d162c7cc7809a80", func := "typebar/typebarlaw11.BackFloors", spec := "backFloors", unfollowed := true, recurses := true, plainKeys := false, apart := false }
def BackFloorsSaid : Prop := backFloorsRow.holds Tryz.pinned (OpenSpec.ofChange backFloorsSpec)

/-- ITS FALSE NEIGHBOUR: 'it returns false'. Refute it at one input. -/
def backFloorsWrong : ChangeSpec := { name := "backFloors", fn := fun _ => fun
  | [d1, d2] => { results := [.lit (.bool false)], args := [d1, d2] }
  | _ => none }
def BackFloorsWrongFalsely : Prop := backFloorsRow.holds Tryz.pinned (OpenSpec.ofChange backFloorsWrong)

/-- 'typebarlaw11.BackPrev': WHATEVER THE INPUT: true; the input reads as it did. -/
def backPrevSpec : ChangeSpec := { name := "backPrev", fn := fun _ => fun
  | [d1, d2] => { results := [.lit (.bool true)], args := [d1, d2] }
  | _ => none }
def backPrevRow : OpenClaim := { program := "ytggapcfjcdafpaagreat", sum := "fe7c568ce75b6a3272f759bb9cbc4976a8da979ad33cfc877d162c7cc7809a80", func := "typebar/typebarlaw11.BackPrev", spec := "backPrev", unfollowed := true, recurses := true, plainKeys := false, apart := false }
def BackPrevSaid : Prop := backPrevRow.holds Tryz.pinned (OpenSpec.ofChange backPrevSpec)

/-- ITS FALSE NEIGHBOUR: 'it returns false'. Refute it at one input. -/
def backPrevWrong : ChangeSpec := { name := "backPrev", fn := fun _ => fun
  | [d1, d2] => { results := [.lit (.bool false)], args := [d1, d2] }
  | _ => none }
def BackPrevWrongFalsely : Prop := backPrevRow.holds Tryz.pinned (OpenSpec.ofChange backPrevWrong)

/-- 'typebarlaw11.BackWalks': WHATEVER THE INPUT: true; the input reads as it did. -/
def backWalksSpec : ChangeSpec := { name := "backWalks", fn := fun _ => fun
  | [d] => { results := [.lit (.bool true)], args := [d] }
  | _ => none }
def backWalksRow : OpenClaim := { program := "ytggapcfjcdafpaagreat", sum := "fe7c568ce75b6a3272f759bb9cbc4976a8da979ad33cfc877d162c7cc7809a80", func := "typebar/typebarlaw11.BackWalks", spec := "backWalks", unfollowed := true, recurses := true, plainKeys := false, apart := false }
def BackWalksSaid : Prop := backWalksRow.holds Tryz.pinned (OpenSpec.ofChange backWalksSpec)

/-- ITS FALSE NEIGHBOUR: 'it returns false'. Refute it at one input. -/
def backWalksWrong : ChangeSpec := { name := "backWalks", fn := fun _ => fun
  | [d] => { results := [.lit (.bool false)], args := [d] }
  | _ => none }
def BackWalksWrongFalsely : Prop := backWalksRow.holds Tryz.pinned (OpenSpec.ofChange backWalksWrong)

/-- 'typebarlaw11.BackLong': WHATEVER THE INPUT: true; the input reads as it did. -/
def backLongSpec : ChangeSpec := { name := "backLong", fn := fun _ => fun
  | [d1, d2, d3] => { results := [.lit (.bool true)], args := [d1, d2, d3] }
  | _ => none }
def backLongRow : OpenClaim := { program := "ytggapcfjcdafpaagreat", sum := "fe7c568ce75b6a3272f759bb9cbc4976a8da979ad33cfc877d162c7cc7809a80", func := "typebar/typebarlaw11.BackLong", spec := "backLong", unfollowed := true, recurses := true, plainKeys := false, apart := false }
def BackLongSaid : Prop := backLongRow.holds Tryz.pinned (OpenSpec.ofChange backLongSpec)

/-- ITS FALSE NEIGHBOUR: 'it returns false'. Refute it at one input. -/
def backLongWrong : ChangeSpec := { name := "backLong", fn := fun _ => fun
  | [d1, d2, d3] => { results := [.lit (.bool false)], args := [d1, d2, d3] }
  | _ => none }
def BackLongWrongFalsely : Prop := backLongRow.holds Tryz.pinned (OpenSpec.ofChange backLongWrong)

/- THE SECOND FORM. 'bulk': how many values and letters a reading holds, each counted each time it is reached (what is shared counts as often as it is met; a slice's spare places count too). A statement '..UptoSaid' is the law's where the arguments, and the package variables that the reading takes, are together of bulk at most 1048576: NARROWER than '..Said'. Prove '..Said' where nothing that the law and all that it calls make is longer than what came in: it says more and counts as full. Else prove '..UptoSaid'. A law counts once. -/
mutual
def uptoBulk {H : Type} : DataW H → Nat
  | .lit (.string bytes) => bytes.length + 1
  | .lit _ => 1
  | .nil => 1
  | .ptr d => uptoBulk d + 1
  | .slice elems spare => uptoBulkAll elems + uptoBulkAll spare + 1
  | .agg parts => uptoBulkAll parts + 1
  | .iface _ d => uptoBulk d + 1
  | .map entries => uptoBulkEntries entries + 1
  | .held _ => 1
def uptoBulkAll {H : Type} : List (DataW H) → Nat
  | [] => 0
  | d :: r => uptoBulk d + uptoBulkAll r
def uptoBulkEntries {H : Type} : List (Lit × DataW H) → Nat
  | [] => 0
  | x :: r => uptoBulkEntry x + uptoBulkEntries r
def uptoBulkEntry {H : Type} : Lit × DataW H → Nat
  | (.string bytes, d) => bytes.length + uptoBulk d + 1
  | (_, d) => uptoBulk d + 1
 end
def uptoSmall : (H : Type) → List (DataW H) → Bool := fun _ ds => decide (uptoBulkAll ds ≤ 1048576)
def OpenSpec.upto (s : _root_.Go.ChangeSpec) : _root_.Go.OpenSpec := { _root_.Go.OpenSpec.ofChange s with cond := some uptoSmall }

/-- 'typebarlaw10.SegStarts', WHERE WHAT IT READS IS OF BULK AT MOST 1048576: true; the input reads as it did. -/
def segStartsUptoRow : OpenClaim := { program := "ytggapcfjcdafpaagreat", sum := "fe7c568ce75b6a3272f759bb9cbc4976a8da979ad33cfc877d162c7cc7809a80", func := "typebar/typebarlaw10.SegStarts", spec := "segStarts", unfollowed := true, recurses := true, plainKeys := false, apart := false, narrowed := true }
def SegStartsUptoSaid : Prop := segStartsUptoRow.holds Tryz.pinned (OpenSpec.upto segStartsSpec)

/-- 'typebarlaw10.SegSteps', WHERE WHAT IT READS IS OF BULK AT MOST 1048576: true; the input reads as it did. -/
def segStepsUptoRow : OpenClaim := { program := "ytggapcfjcdafpaagreat", sum := "fe7c568ce75b6a3272f759bb9cbc4976a8da979ad33cfc877d162c7cc7809a80", func := "typebar/typebarlaw10.SegSteps", spec := "segSteps", unfollowed := true, recurses := true, plainKeys := false, apart := false, narrowed := true }
def SegStepsUptoSaid : Prop := segStepsUptoRow.holds Tryz.pinned (OpenSpec.upto segStepsSpec)

/-- 'typebarlaw10.SegClusters', WHERE WHAT IT READS IS OF BULK AT MOST 1048576: true; the input reads as it did. -/
def segClustersUptoRow : OpenClaim := { program := "ytggapcfjcdafpaagreat", sum := "fe7c568ce75b6a3272f759bb9cbc4976a8da979ad33cfc877d162c7cc7809a80", func := "typebar/typebarlaw10.SegClusters", spec := "segClusters", unfollowed := true, recurses := true, plainKeys := false, apart := false, narrowed := true }
def SegClustersUptoSaid : Prop := segClustersUptoRow.holds Tryz.pinned (OpenSpec.upto segClustersSpec)

/-- 'typebarlaw10.SegNext', WHERE WHAT IT READS IS OF BULK AT MOST 1048576: true; the input reads as it did. -/
def segNextUptoRow : OpenClaim := { program := "ytggapcfjcdafpaagreat", sum := "fe7c568ce75b6a3272f759bb9cbc4976a8da979ad33cfc877d162c7cc7809a80", func := "typebar/typebarlaw10.SegNext", spec := "segNext", unfollowed := true, recurses := true, plainKeys := false, apart := false, narrowed := true }
def SegNextUptoSaid : Prop := segNextUptoRow.holds Tryz.pinned (OpenSpec.upto segNextSpec)

/-- 'typebarlaw10.SegSuffix', WHERE WHAT IT READS IS OF BULK AT MOST 1048576: true; the input reads as it did. -/
def segSuffixUptoRow : OpenClaim := { program := "ytggapcfjcdafpaagreat", sum := "fe7c568ce75b6a3272f759bb9cbc4976a8da979ad33cfc877d162c7cc7809a80", func := "typebar/typebarlaw10.SegSuffix", spec := "segSuffix", unfollowed := true, recurses := true, plainKeys := false, apart := false, narrowed := true }
def SegSuffixUptoSaid : Prop := segSuffixUptoRow.holds Tryz.pinned (OpenSpec.upto segSuffixSpec)

/-- 'typebarlaw11.BackFloors', WHERE WHAT IT READS IS OF BULK AT MOST 1048576: true; the input reads as it did. -/
def backFloorsUptoRow : OpenClaim := { program := "ytggapcfjcdafpaagreat", sum := "fe7c568ce75b6a3272f759bb9cbc4976a8da979ad33cfc877d162c7cc7809a80", func := "typebar/typebarlaw11.BackFloors", spec := "backFloors", unfollowed := true, recurses := true, plainKeys := false, apart := false, narrowed := true }
def BackFloorsUptoSaid : Prop := backFloorsUptoRow.holds Tryz.pinned (OpenSpec.upto backFloorsSpec)

/-- 'typebarlaw11.BackPrev', WHERE WHAT IT READS IS OF BULK AT MOST 1048576: true; the input reads as it did. -/
def backPrevUptoRow : OpenClaim := { program := "ytggapcfjcdafpaagreat", sum := "fe7c568ce75b6a3272f759bb9cbc4976a8da979ad33cfc877d162c7cc7809a80", func := "typebar/typebarlaw11.BackPrev", spec := "backPrev", unfollowed := true, recurses := true, plainKeys := false, apart := false, narrowed := true }
def BackPrevUptoSaid : Prop := backPrevUptoRow.holds Tryz.pinned (OpenSpec.upto backPrevSpec)

/-- 'typebarlaw11.BackWalks', WHERE WHAT IT READS IS OF BULK AT MOST 1048576: true; the input reads as it did. -/
def backWalksUptoRow : OpenClaim := { program := "ytggapcfjcdafpaagreat", sum := "fe7c568ce75b6a3272f759bb9cbc4976a8da979ad33cfc877d162c7cc7809a80", func := "typebar/typebarlaw11.BackWalks", spec := "backWalks", unfollowed := true, recurses := true, plainKeys := false, apart := false, narrowed := true }
def BackWalksUptoSaid : Prop := backWalksUptoRow.holds Tryz.pinned (OpenSpec.upto backWalksSpec)

/-- 'typebarlaw11.BackLong', WHERE WHAT IT READS IS OF BULK AT MOST 1048576: true; the input reads as it did. -/
def backLongUptoRow : OpenClaim := { program := "ytggapcfjcdafpaagreat", sum := "fe7c568ce75b6a3272f759bb9cbc4976a8da979ad33cfc877d162c7cc7809a80", func := "typebar/typebarlaw11.BackLong", spec := "backLong", unfollowed := true, recurses := true, plainKeys := false, apart := false, narrowed := true }
def BackLongUptoSaid : Prop := backLongUptoRow.holds Tryz.pinned (OpenSpec.upto backLongSpec)

end Rows
end Go.Proofs.YtggapcfjcdafpaaGreat
