/-
  NARROWER THAN 'FOR EVERY INPUT', by the rows' own cells (each row's printed sentence says how): Frames: laid · Told: laid · Ends: laid · Agreed: laid · Comes: laid · Never: laid · Looped: laid · Pieces: laid · Spoken: laid · All: laid.
  DERIVED. THE GIVEN ROWS OF THIS SEAT. 10 by the template 'for every input the law returns true; each argument reads behind the call as it read before'; 0 by the template 'total and deterministic' (their statements: YtoeihlgidakjbaaGreatDoorTotals.lean).
  GIVEN WITH THE SEED: the statements are not yours to turn. If you find one false, say at which input.
  Laid BY PROGRAM, IN A SANDBOX (cutbox-rows.mjs): the forced cells as the released guide's own fill.sh prints them over the translation a59f486f8679e9de… (all of the seat's roots in one cut). By AI agents, Wed Nov 11 2026. No macro, syntax, notation, axiom, sorry.
-/
import Derived.Test.YtoeihlgidakjbaaGreatDoorChecked
import GoSem.Claim
import GoSem.ClaimJoined
import GoSem.ClaimMapViews
import Derived.JoinedTies
import Derived.KernelRfl
namespace Go.Proofs.YtoeihlgidakjbaaGreatDoor
/- THE CELL 'sum', in the pinned program and in every row, IS THE sha256 OF THE DUMP (.gsa) THAT YtoeihlgidakjbaaGreatDoorProg.lean LOADS. Nothing in Lean hashes anything: it is a label: what it is worth is what the hold of that sum in a sandbox is worth. -/
noncomputable def Tryz.pinned : Pinned := { name := "ytoeihlgidakjbaagreatdoor", sum := "a59f486f8679e9de5e0d2ebcebd7b586f882469ddfaf2e1de5698b17700918ff", checked := Tryz.checked }
namespace Rows
def none {H : Type} : Left H := { results := [], args := [] }

/- WHAT THE LISTED PACKAGE-LEVEL VARIABLES READ AS WHEN THE CALL BEGINS. Each datum BY PROGRAM (the guide's laid-datum.mjs) off the statement by which the dump's own 'gosem.cut.vars' lays the variable. In a bare row this is a premise. The card (YtoeihlgidakjbaaGreatDoorCards.lean) ties it to the program's text. -/
def laid_errors_errorType {H : Type} : DataW H := .iface "internal/reflectlite.rtype" (.agg [.ptr (.lit (.string [101, 114, 114, 111, 114]))])
def laid_concord_line_ErrFlag {H : Type} : DataW H := .iface "*errors.errorString" (.ptr (.agg [.lit (.string [97, 32, 102, 108, 97, 103, 32, 97, 109, 111, 110, 103, 32, 116, 104, 101, 32, 98, 121, 116, 101, 115])]))
def laid_concord_line_ErrLoose {H : Type} : DataW H := .iface "*errors.errorString" (.ptr (.agg [.lit (.string [97, 110, 32, 101, 115, 99, 97, 112, 101, 32, 116, 104, 97, 116, 32, 101, 115, 99, 97, 112, 101, 115, 32, 110, 111, 116, 104, 105, 110, 103])]))
def laid_concord_line_ErrShort {H : Type} : DataW H := .iface "*errors.errorString" (.ptr (.agg [.lit (.string [116, 111, 111, 32, 102, 101, 119, 32, 98, 121, 116, 101, 115])]))
def laid_concord_line_ErrLong {H : Type} : DataW H := .iface "*errors.errorString" (.ptr (.agg [.lit (.string [116, 111, 111, 32, 109, 97, 110, 121, 32, 98, 121, 116, 101, 115])]))
def laid_concord_line_ErrSum {H : Type} : DataW H := .iface "*errors.errorString" (.ptr (.agg [.lit (.string [116, 104, 101, 32, 115, 117, 109, 32, 105, 115, 32, 97, 110, 111, 116, 104, 101, 114, 32, 111, 110, 101])]))
def laid_concord_line_ErrCode {H : Type} : DataW H := .iface "*errors.errorString" (.ptr (.agg [.lit (.string [116, 104, 101, 32, 99, 111, 100, 101, 32, 105, 115, 32, 48])]))
def laid_concord_terms_ErrNone {H : Type} : DataW H := .iface "*errors.errorString" (.ptr (.agg [.lit (.string [110, 111, 32, 105, 116, 101, 109])]))
def laid_concord_terms_ErrPart {H : Type} : DataW H := .iface "*errors.errorString" (.ptr (.agg [.lit (.string [97, 32, 112, 97, 114, 116, 32, 111, 102, 32, 97, 110, 32, 105, 116, 101, 109])]))
def laid_concord_terms_ErrOrder {H : Type} : DataW H := .iface "*errors.errorString" (.ptr (.agg [.lit (.string [97, 110, 32, 105, 116, 101, 109, 32, 116, 104, 97, 116, 32, 105, 115, 32, 110, 111, 110, 101, 44, 32, 111, 114, 32, 111, 117, 116, 32, 111, 102, 32, 105, 116, 115, 32, 111, 114, 100, 101, 114])]))
def laid_concord_terms_ErrMissing {H : Type} : DataW H := .iface "*errors.errorString" (.ptr (.agg [.lit (.string [110, 111, 116, 32, 97, 108, 108, 32, 116, 104, 101, 32, 105, 116, 101, 109, 115])]))

/-- 'concordlaw.Frames': WHATEVER THE INPUT: true; the input reads as it did. -/
def framesSpec : ChangeSpec := { name := "frames", fn := fun _ => fun
  | [d] => { results := [.lit (.bool true)], args := [d] }
  | _ => none }
def framesRow : OpenClaim := { program := "ytoeihlgidakjbaagreatdoor", sum := "a59f486f8679e9de5e0d2ebcebd7b586f882469ddfaf2e1de5698b17700918ff", func := "concord/concordlaw.Frames", spec := "frames", inPlace := ["internal/reflectlite.ValueOf", "(internal/reflectlite.Value).Type", "(internal/reflectlite.Value).IsNil", "internal/reflectlite.TypeOf", "(internal/reflectlite.Value).Elem", "(internal/reflectlite.Value).Set"], unfollowed := true, recurses := true, named := ["concord/line.ErrFlag", "concord/line.ErrLong", "concord/line.ErrLoose", "concord/line.ErrShort", "concord/line.ErrSum", "concord/line.ErrCode", "errors.errorType", "concord/terms.ErrMissing", "concord/terms.ErrNone", "concord/terms.ErrPart", "concord/terms.ErrOrder"], apart := false, laid := [("errors.errorType", laid_errors_errorType), ("concord/line.ErrFlag", laid_concord_line_ErrFlag), ("concord/line.ErrLoose", laid_concord_line_ErrLoose), ("concord/line.ErrShort", laid_concord_line_ErrShort), ("concord/line.ErrLong", laid_concord_line_ErrLong), ("concord/line.ErrSum", laid_concord_line_ErrSum), ("concord/line.ErrCode", laid_concord_line_ErrCode), ("concord/terms.ErrNone", laid_concord_terms_ErrNone), ("concord/terms.ErrPart", laid_concord_terms_ErrPart), ("concord/terms.ErrOrder", laid_concord_terms_ErrOrder), ("concord/terms.ErrMissing", laid_concord_terms_ErrMissing)] }
def FramesSaid : Prop := framesRow.holds Tryz.pinned (OpenSpec.ofChange framesSpec)

/-- ITS FALSE NEIGHBOUR: 'it returns false'. Refute it at one input. -/
def framesWrong : ChangeSpec := { name := "frames", fn := fun _ => fun
  | [d] => { results := [.lit (.bool false)], args := [d] }
  | _ => none }
def FramesWrongFalsely : Prop := framesRow.holds Tryz.pinned (OpenSpec.ofChange framesWrong)

/-- 'concordlaw.Told': WHATEVER THE INPUT: true; the input reads as it did. -/
def toldSpec : ChangeSpec := { name := "told", fn := fun _ => fun
  | [d] => { results := [.lit (.bool true)], args := [d] }
  | _ => none }
def toldRow : OpenClaim := { program := "ytoeihlgidakjbaagreatdoor", sum := "a59f486f8679e9de5e0d2ebcebd7b586f882469ddfaf2e1de5698b17700918ff", func := "concord/concordlaw.Told", spec := "told", inPlace := ["internal/reflectlite.ValueOf", "(internal/reflectlite.Value).Type", "(internal/reflectlite.Value).IsNil", "internal/reflectlite.TypeOf", "(internal/reflectlite.Value).Elem", "(internal/reflectlite.Value).Set"], unfollowed := true, recurses := true, named := ["concord/line.ErrFlag", "concord/line.ErrLong", "concord/line.ErrLoose", "concord/line.ErrShort", "concord/line.ErrSum", "concord/line.ErrCode", "errors.errorType", "concord/terms.ErrMissing", "concord/terms.ErrNone", "concord/terms.ErrPart", "concord/terms.ErrOrder"], apart := false, laid := [("errors.errorType", laid_errors_errorType), ("concord/line.ErrFlag", laid_concord_line_ErrFlag), ("concord/line.ErrLoose", laid_concord_line_ErrLoose), ("concord/line.ErrShort", laid_concord_line_ErrShort), ("concord/line.ErrLong", laid_concord_line_ErrLong), ("concord/line.ErrSum", laid_concord_line_ErrSum), ("concord/line.ErrCode", laid_concord_line_ErrCode), ("concord/terms.ErrNone", laid_concord_terms_ErrNone), ("concord/terms.ErrPart", laid_concord_terms_ErrPart), ("concord/terms.ErrOrder", laid_concord_terms_ErrOrder), ("concord/terms.ErrMissing", laid_concord_terms_ErrMissing)] }
def ToldSaid : Prop := toldRow.holds Tryz.pinned (OpenSpec.ofChange toldSpec)

/-- ITS FALSE NEIGHBOUR: 'it returns false'. Refute it at one input. -/
def toldWrong : ChangeSpec := { name := "told", fn := fun _ => fun
  | [d] => { results := [.lit (.bool false)], args := [d] }
  | _ => none }
def ToldWrongFalsely : Prop := toldRow.holds Tryz.pinned (OpenSpec.ofChange toldWrong)

/-- 'concordlaw.Ends': WHATEVER THE INPUT: true; the input reads as it did. -/
def endsSpec : ChangeSpec := { name := "ends", fn := fun _ => fun
  | [d] => { results := [.lit (.bool true)], args := [d] }
  | _ => none }
def endsRow : OpenClaim := { program := "ytoeihlgidakjbaagreatdoor", sum := "a59f486f8679e9de5e0d2ebcebd7b586f882469ddfaf2e1de5698b17700918ff", func := "concord/concordlaw.Ends", spec := "ends", inPlace := ["internal/reflectlite.ValueOf", "(internal/reflectlite.Value).Type", "(internal/reflectlite.Value).IsNil", "internal/reflectlite.TypeOf", "(internal/reflectlite.Value).Elem", "(internal/reflectlite.Value).Set"], unfollowed := true, recurses := true, named := ["concord/line.ErrFlag", "concord/line.ErrLong", "concord/line.ErrLoose", "concord/line.ErrShort", "concord/line.ErrSum", "concord/line.ErrCode", "errors.errorType", "concord/terms.ErrMissing", "concord/terms.ErrNone", "concord/terms.ErrPart", "concord/terms.ErrOrder"], apart := false, laid := [("errors.errorType", laid_errors_errorType), ("concord/line.ErrFlag", laid_concord_line_ErrFlag), ("concord/line.ErrLoose", laid_concord_line_ErrLoose), ("concord/line.ErrShort", laid_concord_line_ErrShort), ("concord/line.ErrLong", laid_concord_line_ErrLong), ("concord/line.ErrSum", laid_concord_line_ErrSum), ("concord/line.ErrCode", laid_concord_line_ErrCode), ("concord/terms.ErrNone", laid_concord_terms_ErrNone), ("concord/terms.ErrPart", laid_concord_terms_ErrPart), ("concord/terms.ErrOrder", laid_concord_terms_ErrOrder), ("concord/terms.ErrMissing", laid_concord_terms_ErrMissing)] }
def EndsSaid : Prop := endsRow.holds Tryz.pinned (OpenSpec.ofChange endsSpec)

/-- ITS FALSE NEIGHBOUR: 'it returns false'. Refute it at one input. -/
def endsWrong : ChangeSpec := { name := "ends", fn := fun _ => fun
  | [d] => { results := [.lit (.bool false)], args := [d] }
  | _ => none }
def EndsWrongFalsely : Prop := endsRow.holds Tryz.pinned (OpenSpec.ofChange endsWrong)

/-- 'concordkeep.Agreed': WHATEVER THE INPUT: true; the input reads as it did. -/
def agreedSpec : ChangeSpec := { name := "agreed", fn := fun _ => fun
  | [d1, d2] => { results := [.lit (.bool true)], args := [d1, d2] }
  | _ => none }
def agreedRow : OpenClaim := { program := "ytoeihlgidakjbaagreatdoor", sum := "a59f486f8679e9de5e0d2ebcebd7b586f882469ddfaf2e1de5698b17700918ff", func := "concord/concordkeep.Agreed", spec := "agreed", unfollowed := true, recurses := true, named := ["concord/line.ErrFlag", "concord/line.ErrLong", "concord/line.ErrLoose", "concord/line.ErrShort", "concord/line.ErrSum", "concord/line.ErrCode", "concord/terms.ErrMissing", "concord/terms.ErrNone", "concord/terms.ErrPart", "concord/terms.ErrOrder"], apart := false, laid := [("concord/line.ErrFlag", laid_concord_line_ErrFlag), ("concord/line.ErrLoose", laid_concord_line_ErrLoose), ("concord/line.ErrShort", laid_concord_line_ErrShort), ("concord/line.ErrLong", laid_concord_line_ErrLong), ("concord/line.ErrSum", laid_concord_line_ErrSum), ("concord/line.ErrCode", laid_concord_line_ErrCode), ("concord/terms.ErrNone", laid_concord_terms_ErrNone), ("concord/terms.ErrPart", laid_concord_terms_ErrPart), ("concord/terms.ErrOrder", laid_concord_terms_ErrOrder), ("concord/terms.ErrMissing", laid_concord_terms_ErrMissing)] }
def AgreedSaid : Prop := agreedRow.holds Tryz.pinned (OpenSpec.ofChange agreedSpec)

/-- ITS FALSE NEIGHBOUR: 'it returns false'. Refute it at one input. -/
def agreedWrong : ChangeSpec := { name := "agreed", fn := fun _ => fun
  | [d1, d2] => { results := [.lit (.bool false)], args := [d1, d2] }
  | _ => none }
def AgreedWrongFalsely : Prop := agreedRow.holds Tryz.pinned (OpenSpec.ofChange agreedWrong)

/-- 'concordkeep.Comes': WHATEVER THE INPUT: true; the input reads as it did. -/
def comesSpec : ChangeSpec := { name := "comes", fn := fun _ => fun
  | [d1, d2] => { results := [.lit (.bool true)], args := [d1, d2] }
  | _ => none }
def comesRow : OpenClaim := { program := "ytoeihlgidakjbaagreatdoor", sum := "a59f486f8679e9de5e0d2ebcebd7b586f882469ddfaf2e1de5698b17700918ff", func := "concord/concordkeep.Comes", spec := "comes", unfollowed := true, recurses := true, named := ["concord/line.ErrFlag", "concord/line.ErrLong", "concord/line.ErrLoose", "concord/line.ErrShort", "concord/line.ErrSum", "concord/line.ErrCode", "concord/terms.ErrMissing", "concord/terms.ErrNone", "concord/terms.ErrPart", "concord/terms.ErrOrder"], apart := false, laid := [("concord/line.ErrFlag", laid_concord_line_ErrFlag), ("concord/line.ErrLoose", laid_concord_line_ErrLoose), ("concord/line.ErrShort", laid_concord_line_ErrShort), ("concord/line.ErrLong", laid_concord_line_ErrLong), ("concord/line.ErrSum", laid_concord_line_ErrSum), ("concord/line.ErrCode", laid_concord_line_ErrCode), ("concord/terms.ErrNone", laid_concord_terms_ErrNone), ("concord/terms.ErrPart", laid_concord_terms_ErrPart), ("concord/terms.ErrOrder", laid_concord_terms_ErrOrder), ("concord/terms.ErrMissing", laid_concord_terms_ErrMissing)] }
def ComesSaid : Prop := comesRow.holds Tryz.pinned (OpenSpec.ofChange comesSpec)

/-- ITS FALSE NEIGHBOUR: 'it returns false'. Refute it at one input. -/
def comesWrong : ChangeSpec := { name := "comes", fn := fun _ => fun
  | [d1, d2] => { results := [.lit (.bool false)], args := [d1, d2] }
  | _ => none }
def ComesWrongFalsely : Prop := comesRow.holds Tryz.pinned (OpenSpec.ofChange comesWrong)

/-- 'concordkeep.Never': WHATEVER THE INPUT: true; the input reads as it did. -/
def neverSpec : ChangeSpec := { name := "never", fn := fun _ => fun
  | [d1, d2, d3, d4] => { results := [.lit (.bool true)], args := [d1, d2, d3, d4] }
  | _ => none }
def neverRow : OpenClaim := { program := "ytoeihlgidakjbaagreatdoor", sum := "a59f486f8679e9de5e0d2ebcebd7b586f882469ddfaf2e1de5698b17700918ff", func := "concord/concordkeep.Never", spec := "never", unfollowed := true, recurses := true, named := ["concord/line.ErrFlag", "concord/line.ErrLong", "concord/line.ErrLoose", "concord/line.ErrShort", "concord/line.ErrSum", "concord/line.ErrCode", "concord/terms.ErrMissing", "concord/terms.ErrNone", "concord/terms.ErrPart", "concord/terms.ErrOrder"], apart := false, laid := [("concord/line.ErrFlag", laid_concord_line_ErrFlag), ("concord/line.ErrLoose", laid_concord_line_ErrLoose), ("concord/line.ErrShort", laid_concord_line_ErrShort), ("concord/line.ErrLong", laid_concord_line_ErrLong), ("concord/line.ErrSum", laid_concord_line_ErrSum), ("concord/line.ErrCode", laid_concord_line_ErrCode), ("concord/terms.ErrNone", laid_concord_terms_ErrNone), ("concord/terms.ErrPart", laid_concord_terms_ErrPart), ("concord/terms.ErrOrder", laid_concord_terms_ErrOrder), ("concord/terms.ErrMissing", laid_concord_terms_ErrMissing)] }
def NeverSaid : Prop := neverRow.holds Tryz.pinned (OpenSpec.ofChange neverSpec)

/-- ITS FALSE NEIGHBOUR: 'it returns false'. Refute it at one input. -/
def neverWrong : ChangeSpec := { name := "never", fn := fun _ => fun
  | [d1, d2, d3, d4] => { results := [.lit (.bool false)], args := [d1, d2, d3, d4] }
  | _ => none }
def NeverWrongFalsely : Prop := neverRow.holds Tryz.pinned (OpenSpec.ofChange neverWrong)

/-- 'concordkeep.Looped': WHATEVER THE INPUT: true; the input reads as it did. -/
def loopedSpec : ChangeSpec := { name := "looped", fn := fun _ => fun
  | [d1, d2] => { results := [.lit (.bool true)], args := [d1, d2] }
  | _ => none }
def loopedRow : OpenClaim := { program := "ytoeihlgidakjbaagreatdoor", sum := "a59f486f8679e9de5e0d2ebcebd7b586f882469ddfaf2e1de5698b17700918ff", func := "concord/concordkeep.Looped", spec := "looped", unfollowed := true, recurses := true, named := ["concord/line.ErrFlag", "concord/line.ErrLong", "concord/line.ErrLoose", "concord/line.ErrShort", "concord/line.ErrSum", "concord/line.ErrCode", "concord/terms.ErrMissing", "concord/terms.ErrNone", "concord/terms.ErrPart", "concord/terms.ErrOrder"], apart := false, laid := [("concord/line.ErrFlag", laid_concord_line_ErrFlag), ("concord/line.ErrLoose", laid_concord_line_ErrLoose), ("concord/line.ErrShort", laid_concord_line_ErrShort), ("concord/line.ErrLong", laid_concord_line_ErrLong), ("concord/line.ErrSum", laid_concord_line_ErrSum), ("concord/line.ErrCode", laid_concord_line_ErrCode), ("concord/terms.ErrNone", laid_concord_terms_ErrNone), ("concord/terms.ErrPart", laid_concord_terms_ErrPart), ("concord/terms.ErrOrder", laid_concord_terms_ErrOrder), ("concord/terms.ErrMissing", laid_concord_terms_ErrMissing)] }
def LoopedSaid : Prop := loopedRow.holds Tryz.pinned (OpenSpec.ofChange loopedSpec)

/-- ITS FALSE NEIGHBOUR: 'it returns false'. Refute it at one input. -/
def loopedWrong : ChangeSpec := { name := "looped", fn := fun _ => fun
  | [d1, d2] => { results := [.lit (.bool false)], args := [d1, d2] }
  | _ => none }
def LoopedWrongFalsely : Prop := loopedRow.holds Tryz.pinned (OpenSpec.ofChange loopedWrong)

/-- 'concordkeep.Pieces': WHATEVER THE INPUT: true; the input reads as it did. -/
def piecesSpec : ChangeSpec := { name := "pieces", fn := fun _ => fun
  | [d1, d2, d3] => { results := [.lit (.bool true)], args := [d1, d2, d3] }
  | _ => none }
def piecesRow : OpenClaim := { program := "ytoeihlgidakjbaagreatdoor", sum := "a59f486f8679e9de5e0d2ebcebd7b586f882469ddfaf2e1de5698b17700918ff", func := "concord/concordkeep.Pieces", spec := "pieces", inPlace := ["internal/reflectlite.ValueOf", "(internal/reflectlite.Value).Type", "(internal/reflectlite.Value).IsNil", "internal/reflectlite.TypeOf", "(internal/reflectlite.Value).Elem", "(internal/reflectlite.Value).Set"], unfollowed := true, recurses := true, named := ["concord/line.ErrFlag", "concord/line.ErrLong", "concord/line.ErrLoose", "concord/line.ErrShort", "concord/line.ErrSum", "concord/line.ErrCode", "concord/terms.ErrMissing", "concord/terms.ErrNone", "concord/terms.ErrPart", "concord/terms.ErrOrder", "errors.errorType"], apart := false, laid := [("errors.errorType", laid_errors_errorType), ("concord/line.ErrFlag", laid_concord_line_ErrFlag), ("concord/line.ErrLoose", laid_concord_line_ErrLoose), ("concord/line.ErrShort", laid_concord_line_ErrShort), ("concord/line.ErrLong", laid_concord_line_ErrLong), ("concord/line.ErrSum", laid_concord_line_ErrSum), ("concord/line.ErrCode", laid_concord_line_ErrCode), ("concord/terms.ErrNone", laid_concord_terms_ErrNone), ("concord/terms.ErrPart", laid_concord_terms_ErrPart), ("concord/terms.ErrOrder", laid_concord_terms_ErrOrder), ("concord/terms.ErrMissing", laid_concord_terms_ErrMissing)] }
def PiecesSaid : Prop := piecesRow.holds Tryz.pinned (OpenSpec.ofChange piecesSpec)

/-- ITS FALSE NEIGHBOUR: 'it returns false'. Refute it at one input. -/
def piecesWrong : ChangeSpec := { name := "pieces", fn := fun _ => fun
  | [d1, d2, d3] => { results := [.lit (.bool false)], args := [d1, d2, d3] }
  | _ => none }
def PiecesWrongFalsely : Prop := piecesRow.holds Tryz.pinned (OpenSpec.ofChange piecesWrong)

/-- 'concordkeep.Spoken': WHATEVER THE INPUT: true; the input reads as it did. -/
def spokenSpec : ChangeSpec := { name := "spoken", fn := fun _ => fun
  | [d1, d2] => { results := [.lit (.bool true)], args := [d1, d2] }
  | _ => none }
def spokenRow : OpenClaim := { program := "ytoeihlgidakjbaagreatdoor", sum := "a59f486f8679e9de5e0d2ebcebd7b586f882469ddfaf2e1de5698b17700918ff", func := "concord/concordkeep.Spoken", spec := "spoken", unfollowed := true, recurses := true, named := ["concord/line.ErrFlag", "concord/line.ErrLong", "concord/line.ErrLoose", "concord/line.ErrShort", "concord/line.ErrSum", "concord/line.ErrCode", "concord/terms.ErrMissing", "concord/terms.ErrNone", "concord/terms.ErrPart", "concord/terms.ErrOrder"], apart := false, laid := [("concord/line.ErrFlag", laid_concord_line_ErrFlag), ("concord/line.ErrLoose", laid_concord_line_ErrLoose), ("concord/line.ErrShort", laid_concord_line_ErrShort), ("concord/line.ErrLong", laid_concord_line_ErrLong), ("concord/line.ErrSum", laid_concord_line_ErrSum), ("concord/line.ErrCode", laid_concord_line_ErrCode), ("concord/terms.ErrNone", laid_concord_terms_ErrNone), ("concord/terms.ErrPart", laid_concord_terms_ErrPart), ("concord/terms.ErrOrder", laid_concord_terms_ErrOrder), ("concord/terms.ErrMissing", laid_concord_terms_ErrMissing)] }
def SpokenSaid : Prop := spokenRow.holds Tryz.pinned (OpenSpec.ofChange spokenSpec)

/-- ITS FALSE NEIGHBOUR: 'it returns false'. Refute it at one input. -/
def spokenWrong : ChangeSpec := { name := "spoken", fn := fun _ => fun
  | [d1, d2] => { results := [.lit (.bool false)], args := [d1, d2] }
  | _ => none }
def SpokenWrongFalsely : Prop := spokenRow.holds Tryz.pinned (OpenSpec.ofChange spokenWrong)

/-- 'concordlaw.All': WHATEVER THE INPUT: true; the input reads as it did. -/
def allSpec : ChangeSpec := { name := "all", fn := fun _ => fun
  | [d] => { results := [.lit (.bool true)], args := [d] }
  | _ => none }
def allRow : OpenClaim := { program := "ytoeihlgidakjbaagreatdoor", sum := "a59f486f8679e9de5e0d2ebcebd7b586f882469ddfaf2e1de5698b17700918ff", func := "concord/concordlaw.All", spec := "all", inPlace := ["internal/reflectlite.ValueOf", "(internal/reflectlite.Value).Type", "(internal/reflectlite.Value).IsNil", "internal/reflectlite.TypeOf", "(internal/reflectlite.Value).Elem", "(internal/reflectlite.Value).Set"], unfollowed := true, recurses := true, named := ["concord/line.ErrFlag", "concord/line.ErrLong", "concord/line.ErrLoose", "concord/line.ErrShort", "concord/line.ErrSum", "concord/line.ErrCode", "errors.errorType", "concord/terms.ErrMissing", "concord/terms.ErrNone", "concord/terms.ErrPart", "concord/terms.ErrOrder"], apart := false, laid := [("errors.errorType", laid_errors_errorType), ("concord/line.ErrFlag", laid_concord_line_ErrFlag), ("concord/line.ErrLoose", laid_concord_line_ErrLoose), ("concord/line.ErrShort", laid_concord_line_ErrShort), ("concord/line.ErrLong", laid_concord_line_ErrLong), ("concord/line.ErrSum", laid_concord_line_ErrSum), ("concord/line.ErrCode", laid_concord_line_ErrCode), ("concord/terms.ErrNone", laid_concord_terms_ErrNone), ("concord/terms.ErrPart", laid_concord_terms_ErrPart), ("concord/terms.ErrOrder", laid_concord_terms_ErrOrder), ("concord/terms.ErrMissing", laid_concord_terms_ErrMissing)] }
def AllSaid : Prop := allRow.holds Tryz.pinned (OpenSpec.ofChange allSpec)

/-- ITS FALSE NEIGHBOUR: 'it returns false'. Refute it at one input. -/
def allWrong : ChangeSpec := { name := "all", fn := fun _ => fun
  | [d] => { results := [.lit (.bool false)], args := [d] }
  | _ => none }
def AllWrongFalsely : Prop := allRow.holds Tryz.pinned (OpenSpec.ofChange allWrong)

/- THE SECOND FORM. 'bulk': how many values and letters a reading holds, each counted each time it is reached (what is shared counts as often as it is met; a slice's spare places count too). A statement '..UptoSaid' is the law's where the arguments, and the package variables that the reading takes, are together of bulk at most 1048576: NARROWER than '..Said'. Prove '..Said' where nothing that the law and all that it calls make is longer than what came in: it says more and counts as full. Else prove '..UptoSaid'. A law counts once. -/
mutual
def uptoBulk {H : Type} : DataW H → Nat
  | .lit (.string bytes) => bytes.length + 1
  | .lit _ => 1
  | .nil => 1
  | .ptr d => uptoBulk d + 1
  | .slice elems spare => uptoBulkAll elems + uptoBulkAll spare + 1
  | .agg parts => uptoBulkAll parts + 1
  | .iface _ d => uptoBulk d + 1
  | .map entries => uptoBulkEntries entries + 1
  | .held _ => 1
def uptoBulkAll {H : Type} : List (DataW H) → Nat
  | [] => 0
  | d :: r => uptoBulk d + uptoBulkAll r
def uptoBulkEntries {H : Type} : List (Lit × DataW H) → Nat
  | [] => 0
  | x :: r => uptoBulkEntry x + uptoBulkEntries r
def uptoBulkEntry {H : Type} : Lit × DataW H → Nat
  | (.string bytes, d) => bytes.length + uptoBulk d + 1
  | (_, d) => uptoBulk d + 1
 end
def uptoSmall : (H : Type) → List (DataW H) → Bool := fun _ ds => decide (uptoBulkAll ds ≤ 1048576)
def OpenSpec.upto (s : _root_.Go.ChangeSpec) : _root_.Go.OpenSpec := { _root_.Go.OpenSpec.ofChange s with cond := some uptoSmall }

/-- 'concordlaw.Frames', WHERE WHAT IT READS IS OF BULK AT MOST 1048576: true; the input reads as it did. -/
def framesUptoRow : OpenClaim := { program := "ytoeihlgidakjbaagreatdoor", sum := "a59f486f8679e9de5e0d2ebcebd7b586f882469ddfaf2e1de5698b17700918ff", func := "concord/concordlaw.Frames", spec := "frames", inPlace := ["internal/reflectlite.ValueOf", "(internal/reflectlite.Value).Type", "(internal/reflectlite.Value).IsNil", "internal/reflectlite.TypeOf", "(internal/reflectlite.Value).Elem", "(internal/reflectlite.Value).Set"], unfollowed := true, recurses := true, named := ["concord/line.ErrFlag", "concord/line.ErrLong", "concord/line.ErrLoose", "concord/line.ErrShort", "concord/line.ErrSum", "concord/line.ErrCode", "errors.errorType", "concord/terms.ErrMissing", "concord/terms.ErrNone", "concord/terms.ErrPart", "concord/terms.ErrOrder"], apart := false, laid := [("errors.errorType", laid_errors_errorType), ("concord/line.ErrFlag", laid_concord_line_ErrFlag), ("concord/line.ErrLoose", laid_concord_line_ErrLoose), ("concord/line.ErrShort", laid_concord_line_ErrShort), ("concord/line.ErrLong", laid_concord_line_ErrLong), ("concord/line.ErrSum", laid_concord_line_ErrSum), ("concord/line.ErrCode", laid_concord_line_ErrCode), ("concord/terms.ErrNone", laid_concord_terms_ErrNone), ("concord/terms.ErrPart", laid_concord_terms_ErrPart), ("concord/terms.ErrOrder", laid_concord_terms_ErrOrder), ("concord/terms.ErrMissing", laid_concord_terms_ErrMissing)], narrowed := true }
def FramesUptoSaid : Prop := framesUptoRow.holds Tryz.pinned (OpenSpec.upto framesSpec)

/-- 'concordlaw.Told', WHERE WHAT IT READS IS OF BULK AT MOST 1048576: true; the input reads as it did. -/
def toldUptoRow : OpenClaim := { program := "ytoeihlgidakjbaagreatdoor", sum := "a59f486f8679e9de5e0d2ebcebd7b586f882469ddfaf2e1de5698b17700918ff", func := "concord/concordlaw.Told", spec := "told", inPlace := ["internal/reflectlite.ValueOf", "(internal/reflectlite.Value).Type", "(internal/reflectlite.Value).IsNil", "internal/reflectlite.TypeOf", "(internal/reflectlite.Value).Elem", "(internal/reflectlite.Value).Set"], unfollowed := true, recurses := true, named := ["concord/line.ErrFlag", "concord/line.ErrLong", "concord/line.ErrLoose", "concord/line.ErrShort", "concord/line.ErrSum", "concord/line.ErrCode", "errors.errorType", "concord/terms.ErrMissing", "concord/terms.ErrNone", "concord/terms.ErrPart", "concord/terms.ErrOrder"], apart := false, laid := [("errors.errorType", laid_errors_errorType), ("concord/line.ErrFlag", laid_concord_line_ErrFlag), ("concord/line.ErrLoose", laid_concord_line_ErrLoose), ("concord/line.ErrShort", laid_concord_line_ErrShort), ("concord/line.ErrLong", laid_concord_line_ErrLong), ("concord/line.ErrSum", laid_concord_line_ErrSum), ("concord/line.ErrCode", laid_concord_line_ErrCode), ("concord/terms.ErrNone", laid_concord_terms_ErrNone), ("concord/terms.ErrPart", laid_concord_terms_ErrPart), ("concord/terms.ErrOrder", laid_concord_terms_ErrOrder), ("concord/terms.ErrMissing", laid_concord_terms_ErrMissing)], narrowed := true }
def ToldUptoSaid : Prop := toldUptoRow.holds Tryz.pinned (OpenSpec.upto toldSpec)

/-- 'concordlaw.Ends', WHERE WHAT IT READS IS OF BULK AT MOST 1048576: true; the input reads as it did. -/
def endsUptoRow : OpenClaim := { program := "ytoeihlgidakjbaagreatdoor", sum := "a59f486f8679e9de5e0d2ebcebd7b586f882469ddfaf2e1de5698b17700918ff", func := "concord/concordlaw.Ends", spec := "ends", inPlace := ["internal/reflectlite.ValueOf", "(internal/reflectlite.Value).Type", "(internal/reflectlite.Value).IsNil", "internal/reflectlite.TypeOf", "(internal/reflectlite.Value).Elem", "(internal/reflectlite.Value).Set"], unfollowed := true, recurses := true, named := ["concord/line.ErrFlag", "concord/line.ErrLong", "concord/line.ErrLoose", "concord/line.ErrShort", "concord/line.ErrSum", "concord/line.ErrCode", "errors.errorType", "concord/terms.ErrMissing", "concord/terms.ErrNone", "concord/terms.ErrPart", "concord/terms.ErrOrder"], apart := false, laid := [("errors.errorType", laid_errors_errorType), ("concord/line.ErrFlag", laid_concord_line_ErrFlag), ("concord/line.ErrLoose", laid_concord_line_ErrLoose), ("concord/line.ErrShort", laid_concord_line_ErrShort), ("concord/line.ErrLong", laid_concord_line_ErrLong), ("concord/line.ErrSum", laid_concord_line_ErrSum), ("concord/line.ErrCode", laid_concord_line_ErrCode), ("concord/terms.ErrNone", laid_concord_terms_ErrNone), ("concord/terms.ErrPart", laid_concord_terms_ErrPart), ("concord/terms.ErrOrder", laid_concord_terms_ErrOrder), ("concord/terms.ErrMissing", laid_concord_terms_ErrMissing)], narrowed := true }
def EndsUptoSaid : Prop := endsUptoRow.holds Tryz.pinned (OpenSpec.upto endsSpec)

/-- 'concordkeep.Agreed', WHERE WHAT IT READS IS OF BULK AT MOST 1048576: true; the input reads as it did. -/
def agreedUptoRow : OpenClaim := { program := "ytoeihlgidakjbaagreatdoor", sum := "a59f486f8679e9de5e0d2ebcebd7b586f882469ddfaf2e1de5698b17700918ff", func := "concord/concordkeep.Agreed", spec := "agreed", unfollowed := true, recurses := true, named := ["concord/line.ErrFlag", "concord/line.ErrLong", "concord/line.ErrLoose", "concord/line.ErrShort", "concord/line.ErrSum", "concord/line.ErrCode", "concord/terms.ErrMissing", "concord/terms.ErrNone", "concord/terms.ErrPart", "concord/terms.ErrOrder"], apart := false, laid := [("concord/line.ErrFlag", laid_concord_line_ErrFlag), ("concord/line.ErrLoose", laid_concord_line_ErrLoose), ("concord/line.ErrShort", laid_concord_line_ErrShort), ("concord/line.ErrLong", laid_concord_line_ErrLong), ("concord/line.ErrSum", laid_concord_line_ErrSum), ("concord/line.ErrCode", laid_concord_line_ErrCode), ("concord/terms.ErrNone", laid_concord_terms_ErrNone), ("concord/terms.ErrPart", laid_concord_terms_ErrPart), ("concord/terms.ErrOrder", laid_concord_terms_ErrOrder), ("concord/terms.ErrMissing", laid_concord_terms_ErrMissing)], narrowed := true }
def AgreedUptoSaid : Prop := agreedUptoRow.holds Tryz.pinned (OpenSpec.upto agreedSpec)

/-- 'concordkeep.Comes', WHERE WHAT IT READS IS OF BULK AT MOST 1048576: true; the input reads as it did. -/
def comesUptoRow : OpenClaim := { program := "ytoeihlgidakjbaagreatdoor", sum := "a59f486f8679e9de5e0d2ebcebd7b586f882469ddfaf2e1de5698b17700918ff", func := "concord/concordkeep.Comes", spec := "comes", unfollowed := true, recurses := true, named := ["concord/line.ErrFlag", "concord/line.ErrLong", "concord/line.ErrLoose", "concord/line.ErrShort", "concord/line.ErrSum", "concord/line.ErrCode", "concord/terms.ErrMissing", "concord/terms.ErrNone", "concord/terms.ErrPart", "concord/terms.ErrOrder"], apart := false, laid := [("concord/line.ErrFlag", laid_concord_line_ErrFlag), ("concord/line.ErrLoose", laid_concord_line_ErrLoose), ("concord/line.ErrShort", laid_concord_line_ErrShort), ("concord/line.ErrLong", laid_concord_line_ErrLong), ("concord/line.ErrSum", laid_concord_line_ErrSum), ("concord/line.ErrCode", laid_concord_line_ErrCode), ("concord/terms.ErrNone", laid_concord_terms_ErrNone), ("concord/terms.ErrPart", laid_concord_terms_ErrPart), ("concord/terms.ErrOrder", laid_concord_terms_ErrOrder), ("concord/terms.ErrMissing", laid_concord_terms_ErrMissing)], narrowed := true }
def ComesUptoSaid : Prop := comesUptoRow.holds Tryz.pinned (OpenSpec.upto comesSpec)

/-- 'concordkeep.Never', WHERE WHAT IT READS IS OF BULK AT MOST 1048576: true; the input reads as it did. -/
def neverUptoRow : OpenClaim := { program := "ytoeihlgidakjbaagreatdoor", sum := "a59f486f8679e9de5e0d2ebcebd7b586f882469ddfaf2e1de5698b17700918ff", func := "concord/concordkeep.Never", spec := "never", unfollowed := true, recurses := true, named := ["concord/line.ErrFlag", "concord/line.ErrLong", "concord/line.ErrLoose", "concord/line.ErrShort", "concord/line.ErrSum", "concord/line.ErrCode", "concord/terms.ErrMissing", "concord/terms.ErrNone", "concord/terms.ErrPart", "concord/terms.ErrOrder"], apart := false, laid := [("concord/line.ErrFlag", laid_concord_line_ErrFlag), ("concord/line.ErrLoose", laid_concord_line_ErrLoose), ("concord/line.ErrShort", laid_concord_line_ErrShort), ("concord/line.ErrLong", laid_concord_line_ErrLong), ("concord/line.ErrSum", laid_concord_line_ErrSum), ("concord/line.ErrCode", laid_concord_line_ErrCode), ("concord/terms.ErrNone", laid_concord_terms_ErrNone), ("concord/terms.ErrPart", laid_concord_terms_ErrPart), ("concord/terms.ErrOrder", laid_concord_terms_ErrOrder), ("concord/terms.ErrMissing", laid_concord_terms_ErrMissing)], narrowed := true }
def NeverUptoSaid : Prop := neverUptoRow.holds Tryz.pinned (OpenSpec.upto neverSpec)

/-- 'concordkeep.Looped', WHERE WHAT IT READS IS OF BULK AT MOST 1048576: true; the input reads as it did. -/
def loopedUptoRow : OpenClaim := { program := "ytoeihlgidakjbaagreatdoor", sum := "a59f486f8679e9de5e0d2ebcebd7b586f882469ddfaf2e1de5698b17700918ff", func := "concord/concordkeep.Looped", spec := "looped", unfollowed := true, recurses := true, named := ["concord/line.ErrFlag", "concord/line.ErrLong", "concord/line.ErrLoose", "concord/line.ErrShort", "concord/line.ErrSum", "concord/line.ErrCode", "concord/terms.ErrMissing", "concord/terms.ErrNone", "concord/terms.ErrPart", "concord/terms.ErrOrder"], apart := false, laid := [("concord/line.ErrFlag", laid_concord_line_ErrFlag), ("concord/line.ErrLoose", laid_concord_line_ErrLoose), ("concord/line.ErrShort", laid_concord_line_ErrShort), ("concord/line.ErrLong", laid_concord_line_ErrLong), ("concord/line.ErrSum", laid_concord_line_ErrSum), ("concord/line.ErrCode", laid_concord_line_ErrCode), ("concord/terms.ErrNone", laid_concord_terms_ErrNone), ("concord/terms.ErrPart", laid_concord_terms_ErrPart), ("concord/terms.ErrOrder", laid_concord_terms_ErrOrder), ("concord/terms.ErrMissing", laid_concord_terms_ErrMissing)], narrowed := true }
def LoopedUptoSaid : Prop := loopedUptoRow.holds Tryz.pinned (OpenSpec.upto loopedSpec)

/-- 'concordkeep.Pieces', WHERE WHAT IT READS IS OF BULK AT MOST 1048576: true; the input reads as it did. -/
def piecesUptoRow : OpenClaim := { program := "ytoeihlgidakjbaagreatdoor", sum := "a59f486f8679e9de5e0d2ebcebd7b586f882469ddfaf2e1de5698b17700918ff", func := "concord/concordkeep.Pieces", spec := "pieces", inPlace := ["internal/reflectlite.ValueOf", "(internal/reflectlite.Value).Type", "(internal/reflectlite.Value).IsNil", "internal/reflectlite.TypeOf", "(internal/reflectlite.Value).Elem", "(internal/reflectlite.Value).Set"], unfollowed := true, recurses := true, named := ["concord/line.ErrFlag", "concord/line.ErrLong", "concord/line.ErrLoose", "concord/line.ErrShort", "concord/line.ErrSum", "concord/line.ErrCode", "concord/terms.ErrMissing", "concord/terms.ErrNone", "concord/terms.ErrPart", "concord/terms.ErrOrder", "errors.errorType"], apart := false, laid := [("errors.errorType", laid_errors_errorType), ("concord/line.ErrFlag", laid_concord_line_ErrFlag), ("concord/line.ErrLoose", laid_concord_line_ErrLoose), ("concord/line.ErrShort", laid_concord_line_ErrShort), ("concord/line.ErrLong", laid_concord_line_ErrLong), ("concord/line.ErrSum", laid_concord_line_ErrSum), ("concord/line.ErrCode", laid_concord_line_ErrCode), ("concord/terms.ErrNone", laid_concord_terms_ErrNone), ("concord/terms.ErrPart", laid_concord_terms_ErrPart), ("concord/terms.ErrOrder", laid_concord_terms_ErrOrder), ("concord/terms.ErrMissing", laid_concord_terms_ErrMissing)], narrowed := true }
def PiecesUptoSaid : Prop := piecesUptoRow.holds Tryz.pinned (OpenSpec.upto piecesSpec)

/-- 'concordkeep.Spoken', WHERE WHAT IT READS IS OF BULK AT MOST 1048576: true; the input reads as it did. -/
def spokenUptoRow : OpenClaim := { program := "ytoeihlgidakjbaagreatdoor", sum := "a59f486f8679e9de5e0d2ebcebd7b586f882469ddfaf2e1de5698b17700918ff", func := "concord/concordkeep.Spoken", spec := "spoken", unfollowed := true, recurses := true, named := ["concord/line.ErrFlag", "concord/line.ErrLong", "concord/line.ErrLoose", "concord/line.ErrShort", "concord/line.ErrSum", "concord/line.ErrCode", "concord/terms.ErrMissing", "concord/terms.ErrNone", "concord/terms.ErrPart", "concord/terms.ErrOrder"], apart := false, laid := [("concord/line.ErrFlag", laid_concord_line_ErrFlag), ("concord/line.ErrLoose", laid_concord_line_ErrLoose), ("concord/line.ErrShort", laid_concord_line_ErrShort), ("concord/line.ErrLong", laid_concord_line_ErrLong), ("concord/line.ErrSum", laid_concord_line_ErrSum), ("concord/line.ErrCode", laid_concord_line_ErrCode), ("concord/terms.ErrNone", laid_concord_terms_ErrNone), ("concord/terms.ErrPart", laid_concord_terms_ErrPart), ("concord/terms.ErrOrder", laid_concord_terms_ErrOrder), ("concord/terms.ErrMissing", laid_concord_terms_ErrMissing)], narrowed := true }
def SpokenUptoSaid : Prop := spokenUptoRow.holds Tryz.pinned (OpenSpec.upto spokenSpec)

/-- 'concordlaw.All', WHERE WHAT IT READS IS OF BULK AT MOST 1048576: true; the input reads as it did. -/
def allUptoRow : OpenClaim := { program := "ytoeihlgidakjbaagreatdoor", sum := "a59f486f8679e9de5e0d2ebcebd7b586f882469ddfaf2e1de5698b17700918ff", func := "concord/concordlaw.All", spec := "all", inPlace := ["internal/reflectlite.ValueOf", "(internal/reflectlite.Value).Type", "(internal/reflectlite.Value).IsNil", "internal/reflectlite.TypeOf", "(internal/reflectlite.Value).Elem", "(internal/reflectlite.Value).Set"], unfollowed := true, recurses := true, named := ["concord/line.ErrFlag", "concord/line.ErrLong", "concord/line.ErrLoose", "concord/line.ErrShort", "concord/line.ErrSum", "concord/line.ErrCode", "errors.errorType", "concord/terms.ErrMissing", "concord/terms.ErrNone", "concord/terms.ErrPart", "concord/terms.ErrOrder"], apart := false, laid := [("errors.errorType", laid_errors_errorType), ("concord/line.ErrFlag", laid_concord_line_ErrFlag), ("concord/line.ErrLoose", laid_concord_line_ErrLoose), ("concord/line.ErrShort", laid_concord_line_ErrShort), ("concord/line.ErrLong", laid_concord_line_ErrLong), ("concord/line.ErrSum", laid_concord_line_ErrSum), ("concord/line.ErrCode", laid_concord_line_ErrCode), ("concord/terms.ErrNone", laid_concord_terms_ErrNone), ("concord/terms.ErrPart", laid_concord_terms_ErrPart), ("concord/terms.ErrOrder", laid_concord_terms_ErrOrder), ("concord/terms.ErrMissing", laid_concord_terms_ErrMissing)], narrowed := true }
def AllUptoSaid : Prop := allUptoRow.holds Tryz.pinned (OpenSpec.upto allSpec)

end Rows
end Go.Proofs.YtoeihlgidakjbaaGreatDoor
