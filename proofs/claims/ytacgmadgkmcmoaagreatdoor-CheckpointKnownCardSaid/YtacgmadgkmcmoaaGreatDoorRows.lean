/-
  NARROWER THAN 'FOR EVERY INPUT', by the rows' own cells (each row's printed sentence says how): CheckpointWrites: laid · CheckpointLoads: laid · CheckpointCut: laid · CheckpointKnown: laid.
  DERIVED. THE GIVEN ROWS OF THIS SEAT. 4 by the template 'for every input the law returns true; each argument reads behind the call as it read before'; 0 by the template 'total and deterministic' (their statements: YtacgmadgkmcmoaaGreatDoorTotals.lean).
  GIVEN WITH THE SEED: the statements are not yours to turn. If you find one false, say at which input.
  Laid BY PROGRAM, IN A SANDBOX (cutbox-rows.mjs): the forced cells as the released guide's own fill.sh prints them over the translation 81532cea4df6550f… (all of the seat's roots in one cut). By AI agents, Wed Nov 11 2026. No macro, syntax, notation, axiom, sorry.
-/
import Derived.Test.YtacgmadgkmcmoaaGreatDoorChecked
import GoSem.Claim
import GoSem.ClaimJoined
import GoSem.ClaimMapViews
import Derived.JoinedTies
import Derived.KernelRfl
namespace Go.Proofs.YtacgmadgkmcmoaaGreatDoor
/- THE CELL 'sum', in the pinned program and in every row, IS THE sha256 OF THE DUMP (.gsa) THAT YtacgmadgkmcmoaaGreatDoorProg.lean LOADS. Nothing in Lean hashes anything: it is a label: what it is worth is what the hold of that sum in a sandbox is worth. -/
noncomputable def Tryz.pinned : Pinned := { name := "ytacgmadgkmcmoaagreatdoor", sum := "81532cea4df6550fad54e9dcb65776fe7e0f87a19f1aa055141cf223db46f82f", checked := Tryz.checked }
namespace Rows
def none {H : Type} : Left H := { results := [], args := [] }

/- WHAT THE LISTED PACKAGE-LEVEL VARIABLES READ AS WHEN THE CALL BEGINS. Each datum BY PROGRAM (the guide's laid-datum.mjs) off the statement by which the dump's own 'gosem.cut.vars' lays the variable. In a bare row this is a premise. The card (YtacgmadgkmcmoaaGreatDoorCards.lean) ties it to the program's text. -/
def laid_hindcast_crc_fourSteps {H : Type} : DataW H := .agg [.lit (.int .u32 0), .lit (.int .u32 498536548), .lit (.int .u32 997073096), .lit (.int .u32 651767980), .lit (.int .u32 1994146192), .lit (.int .u32 1802195444), .lit (.int .u32 1303535960), .lit (.int .u32 1342533948), .lit (.int .u32 3988292384), .lit (.int .u32 4027552580), .lit (.int .u32 3604390888), .lit (.int .u32 3412177804), .lit (.int .u32 2607071920), .lit (.int .u32 2262029012), .lit (.int .u32 2685067896), .lit (.int .u32 3183342108)]
def laid_hindcast_state_bounds {H : Type} : DataW H := .agg [.agg [.lit (.int .i32 0), .lit (.int .i32 61440)], .agg [.lit (.int .i32 0), .lit (.int .i32 28672)], .agg [.lit (.int .i32 (-1024)), .lit (.int .i32 1024)], .agg [.lit (.int .i32 (-1024)), .lit (.int .i32 1024)], .agg [.lit (.int .i32 1), .lit (.int .i32 100)], .agg [.lit (.int .i32 0), .lit (.int .i32 30)], .agg [.lit (.int .i32 0), .lit (.int .i32 3)], .agg [.lit (.int .i32 0), .lit (.int .i32 65024)], .agg [.lit (.int .i32 0), .lit (.int .i32 32256)], .agg [.lit (.int .i32 (-2048)), .lit (.int .i32 2048)], .agg [.lit (.int .i32 (-2048)), .lit (.int .i32 2048)], .agg [.lit (.int .i32 0), .lit (.int .i32 1)], .agg [.lit (.int .i32 1), .lit (.int .i32 40)]]

/-- 'hindcastlaw18.CheckpointWrites': WHATEVER THE INPUT: true; the input reads as it did. -/
def checkpointWritesSpec : ChangeSpec := { name := "checkpointWrites", fn := fun _ => fun
  | [d1, d2] => { results := [.lit (.bool true)], args := [d1, d2] }
  | _ => none }
def checkpointWritesRow : OpenClaim := { program := "ytacgmadgkmcmoaagreatdoor", sum := "81532cea4df6550fad54e9dcb65776fe7e0f87a19f1aa055141cf223db46f82f", func := "hindcast/hindcastlaw18.CheckpointWrites", spec := "checkpointWrites", inPlace := ["sync/atomic.LoadUint32", "sync/atomic.AddInt64", "sync/atomic.StoreUint32", "(*internal/sync.Mutex).Lock", "internal/race.Disable", "sync/atomic.CompareAndSwapInt32", "internal/race.Enable", "internal/race.Acquire", "(*internal/sync.Mutex).lockSlow", "internal/sync.runtime_canSpin", "internal/sync.runtime_doSpin", "internal/sync.throw", "internal/sync.runtime_nanotime", "internal/sync.runtime_SemacquireMutex", "sync/atomic.AddInt32", "(*internal/sync.Mutex).Unlock", "internal/race.ReleaseMerge", "(*internal/sync.Mutex).unlockSlow", "internal/sync.fatal", "internal/sync.runtime_Semrelease", "sync/atomic.LoadInt64"], unfollowed := true, recurses := true, named := ["hindcast/crc.fourSteps", "hindcast/state.bounds"], apart := false, laid := [("hindcast/crc.fourSteps", laid_hindcast_crc_fourSteps), ("hindcast/state.bounds", laid_hindcast_state_bounds)] }
def CheckpointWritesSaid : Prop := checkpointWritesRow.holds Tryz.pinned (OpenSpec.ofChange checkpointWritesSpec)

/-- ITS FALSE NEIGHBOUR: 'it returns false'. Refute it at one input. -/
def checkpointWritesWrong : ChangeSpec := { name := "checkpointWrites", fn := fun _ => fun
  | [d1, d2] => { results := [.lit (.bool false)], args := [d1, d2] }
  | _ => none }
def CheckpointWritesWrongFalsely : Prop := checkpointWritesRow.holds Tryz.pinned (OpenSpec.ofChange checkpointWritesWrong)

/-- 'hindcastlaw18.CheckpointLoads': WHATEVER THE INPUT: true; the input reads as it did. -/
def checkpointLoadsSpec : ChangeSpec := { name := "checkpointLoads", fn := fun _ => fun
  | [d1, d2, d3] => { results := [.lit (.bool true)], args := [d1, d2, d3] }
  | _ => none }
def checkpointLoadsRow : OpenClaim := { program := "ytacgmadgkmcmoaagreatdoor", sum := "81532cea4df6550fad54e9dcb65776fe7e0f87a19f1aa055141cf223db46f82f", func := "hindcast/hindcastlaw18.CheckpointLoads", spec := "checkpointLoads", inPlace := ["sync/atomic.LoadUint32", "sync/atomic.AddInt64", "sync/atomic.StoreUint32", "(*internal/sync.Mutex).Lock", "internal/race.Disable", "sync/atomic.CompareAndSwapInt32", "internal/race.Enable", "internal/race.Acquire", "(*internal/sync.Mutex).lockSlow", "internal/sync.runtime_canSpin", "internal/sync.runtime_doSpin", "internal/sync.throw", "internal/sync.runtime_nanotime", "internal/sync.runtime_SemacquireMutex", "sync/atomic.AddInt32", "(*internal/sync.Mutex).Unlock", "internal/race.ReleaseMerge", "(*internal/sync.Mutex).unlockSlow", "internal/sync.fatal", "internal/sync.runtime_Semrelease", "sync/atomic.LoadInt64"], unfollowed := true, recurses := true, named := ["hindcast/crc.fourSteps", "hindcast/state.bounds"], apart := false, laid := [("hindcast/crc.fourSteps", laid_hindcast_crc_fourSteps), ("hindcast/state.bounds", laid_hindcast_state_bounds)] }
def CheckpointLoadsSaid : Prop := checkpointLoadsRow.holds Tryz.pinned (OpenSpec.ofChange checkpointLoadsSpec)

/-- ITS FALSE NEIGHBOUR: 'it returns false'. Refute it at one input. -/
def checkpointLoadsWrong : ChangeSpec := { name := "checkpointLoads", fn := fun _ => fun
  | [d1, d2, d3] => { results := [.lit (.bool false)], args := [d1, d2, d3] }
  | _ => none }
def CheckpointLoadsWrongFalsely : Prop := checkpointLoadsRow.holds Tryz.pinned (OpenSpec.ofChange checkpointLoadsWrong)

/-- 'hindcastlaw18.CheckpointCut': WHATEVER THE INPUT: true; the input reads as it did. -/
def checkpointCutSpec : ChangeSpec := { name := "checkpointCut", fn := fun _ => fun
  | [d1, d2, d3] => { results := [.lit (.bool true)], args := [d1, d2, d3] }
  | _ => none }
def checkpointCutRow : OpenClaim := { program := "ytacgmadgkmcmoaagreatdoor", sum := "81532cea4df6550fad54e9dcb65776fe7e0f87a19f1aa055141cf223db46f82f", func := "hindcast/hindcastlaw18.CheckpointCut", spec := "checkpointCut", inPlace := ["sync/atomic.LoadUint32", "sync/atomic.AddInt64", "sync/atomic.StoreUint32", "(*internal/sync.Mutex).Lock", "internal/race.Disable", "sync/atomic.CompareAndSwapInt32", "internal/race.Enable", "internal/race.Acquire", "(*internal/sync.Mutex).lockSlow", "internal/sync.runtime_canSpin", "internal/sync.runtime_doSpin", "internal/sync.throw", "internal/sync.runtime_nanotime", "internal/sync.runtime_SemacquireMutex", "sync/atomic.AddInt32", "(*internal/sync.Mutex).Unlock", "internal/race.ReleaseMerge", "(*internal/sync.Mutex).unlockSlow", "internal/sync.fatal", "internal/sync.runtime_Semrelease", "sync/atomic.LoadInt64"], unfollowed := true, recurses := true, named := ["hindcast/crc.fourSteps", "hindcast/state.bounds"], apart := false, laid := [("hindcast/crc.fourSteps", laid_hindcast_crc_fourSteps), ("hindcast/state.bounds", laid_hindcast_state_bounds)] }
def CheckpointCutSaid : Prop := checkpointCutRow.holds Tryz.pinned (OpenSpec.ofChange checkpointCutSpec)

/-- ITS FALSE NEIGHBOUR: 'it returns false'. Refute it at one input. -/
def checkpointCutWrong : ChangeSpec := { name := "checkpointCut", fn := fun _ => fun
  | [d1, d2, d3] => { results := [.lit (.bool false)], args := [d1, d2, d3] }
  | _ => none }
def CheckpointCutWrongFalsely : Prop := checkpointCutRow.holds Tryz.pinned (OpenSpec.ofChange checkpointCutWrong)

/-- 'hindcastlaw18.CheckpointKnown': WHATEVER THE INPUT: true; the input reads as it did. -/
def checkpointKnownSpec : ChangeSpec := { name := "checkpointKnown", fn := fun _ => fun
  | [] => { results := [.lit (.bool true)], args := [] }
  | _ => none }
def checkpointKnownRow : OpenClaim := { program := "ytacgmadgkmcmoaagreatdoor", sum := "81532cea4df6550fad54e9dcb65776fe7e0f87a19f1aa055141cf223db46f82f", func := "hindcast/hindcastlaw18.CheckpointKnown", spec := "checkpointKnown", inPlace := ["sync/atomic.LoadUint32", "sync/atomic.AddInt64", "sync/atomic.StoreUint32", "(*internal/sync.Mutex).Lock", "internal/race.Disable", "sync/atomic.CompareAndSwapInt32", "internal/race.Enable", "internal/race.Acquire", "(*internal/sync.Mutex).lockSlow", "internal/sync.runtime_canSpin", "internal/sync.runtime_doSpin", "internal/sync.throw", "internal/sync.runtime_nanotime", "internal/sync.runtime_SemacquireMutex", "sync/atomic.AddInt32", "(*internal/sync.Mutex).Unlock", "internal/race.ReleaseMerge", "(*internal/sync.Mutex).unlockSlow", "internal/sync.fatal", "internal/sync.runtime_Semrelease", "sync/atomic.LoadInt64"], unfollowed := true, recurses := true, named := ["hindcast/crc.fourSteps", "hindcast/state.bounds"], apart := false, laid := [("hindcast/crc.fourSteps", laid_hindcast_crc_fourSteps), ("hindcast/state.bounds", laid_hindcast_state_bounds)] }
def CheckpointKnownSaid : Prop := checkpointKnownRow.holds Tryz.pinned (OpenSpec.ofChange checkpointKnownSpec)

/-- ITS FALSE NEIGHBOUR: 'it returns false'. Refute it at one input. -/
def checkpointKnownWrong : ChangeSpec := { name := "checkpointKnown", fn := fun _ => fun
  | [] => { results := [.lit (.bool false)], args := [] }
  | _ => none }
def CheckpointKnownWrongFalsely : Prop := checkpointKnownRow.holds Tryz.pinned (OpenSpec.ofChange checkpointKnownWrong)

/- THE SECOND FORM. 'bulk': how many values and letters a reading holds, each counted each time it is reached (what is shared counts as often as it is met; a slice's spare places count too). A statement '..UptoSaid' is the law's where the arguments, and the package variables that the reading takes, are together of bulk at most 1048576: NARROWER than '..Said'. Prove '..Said' where nothing that the law and all that it calls make is longer than what came in: it says more and counts as full. Else prove '..UptoSaid'. A law counts once. -/
mutual
def uptoBulk {H : Type} : DataW H → Nat
  | .lit (.string bytes) => bytes.length + 1
  | .lit _ => 1
  | .nil => 1
  | .ptr d => uptoBulk d + 1
  | .slice elems spare => uptoBulkAll elems + uptoBulkAll spare + 1
  | .agg parts => uptoBulkAll parts + 1
  | .iface _ d => uptoBulk d + 1
  | .map entries => uptoBulkEntries entries + 1
  | .held _ => 1
def uptoBulkAll {H : Type} : List (DataW H) → Nat
  | [] => 0
  | d :: r => uptoBulk d + uptoBulkAll r
def uptoBulkEntries {H : Type} : List (Lit × DataW H) → Nat
  | [] => 0
  | x :: r => uptoBulkEntry x + uptoBulkEntries r
def uptoBulkEntry {H : Type} : Lit × DataW H → Nat
  | (.string bytes, d) => bytes.length + uptoBulk d + 1
  | (_, d) => uptoBulk d + 1
 end
def uptoSmall : (H : Type) → List (DataW H) → Bool := fun _ ds => decide (uptoBulkAll ds ≤ 1048576)
def OpenSpec.upto (s : _root_.Go.ChangeSpec) : _root_.Go.OpenSpec := { _root_.Go.OpenSpec.ofChange s with cond := some uptoSmall }

/-- 'hindcastlaw18.CheckpointWrites', WHERE WHAT IT READS IS OF BULK AT MOST 1048576: true; the input reads as it did. -/
def checkpointWritesUptoRow : OpenClaim := { program := "ytacgmadgkmcmoaagreatdoor", sum := "81532cea4df6550fad54e9dcb65776fe7e0f87a19f1aa055141cf223db46f82f", func := "hindcast/hindcastlaw18.CheckpointWrites", spec := "checkpointWrites", inPlace := ["sync/atomic.LoadUint32", "sync/atomic.AddInt64", "sync/atomic.StoreUint32", "(*internal/sync.Mutex).Lock", "internal/race.Disable", "sync/atomic.CompareAndSwapInt32", "internal/race.Enable", "internal/race.Acquire", "(*internal/sync.Mutex).lockSlow", "internal/sync.runtime_canSpin", "internal/sync.runtime_doSpin", "internal/sync.throw", "internal/sync.runtime_nanotime", "internal/sync.runtime_SemacquireMutex", "sync/atomic.AddInt32", "(*internal/sync.Mutex).Unlock", "internal/race.ReleaseMerge", "(*internal/sync.Mutex).unlockSlow", "internal/sync.fatal", "internal/sync.runtime_Semrelease", "sync/atomic.LoadInt64"], unfollowed := true, recurses := true, named := ["hindcast/crc.fourSteps", "hindcast/state.bounds"], apart := false, laid := [("hindcast/crc.fourSteps", laid_hindcast_crc_fourSteps), ("hindcast/state.bounds", laid_hindcast_state_bounds)], narrowed := true }
def CheckpointWritesUptoSaid : Prop := checkpointWritesUptoRow.holds Tryz.pinned (OpenSpec.upto checkpointWritesSpec)

/-- 'hindcastlaw18.CheckpointLoads', WHERE WHAT IT READS IS OF BULK AT MOST 1048576: true; the input reads as it did. -/
def checkpointLoadsUptoRow : OpenClaim := { program := "ytacgmadgkmcmoaagreatdoor", sum := "81532cea4df6550fad54e9dcb65776fe7e0f87a19f1aa055141cf223db46f82f", func := "hindcast/hindcastlaw18.CheckpointLoads", spec := "checkpointLoads", inPlace := ["sync/atomic.LoadUint32", "sync/atomic.AddInt64", "sync/atomic.StoreUint32", "(*internal/sync.Mutex).Lock", "internal/race.Disable", "sync/atomic.CompareAndSwapInt32", "internal/race.Enable", "internal/race.Acquire", "(*internal/sync.Mutex).lockSlow", "internal/sync.runtime_canSpin", "internal/sync.runtime_doSpin", "internal/sync.throw", "internal/sync.runtime_nanotime", "internal/sync.runtime_SemacquireMutex", "sync/atomic.AddInt32", "(*internal/sync.Mutex).Unlock", "internal/race.ReleaseMerge", "(*internal/sync.Mutex).unlockSlow", "internal/sync.fatal", "internal/sync.runtime_Semrelease", "sync/atomic.LoadInt64"], unfollowed := true, recurses := true, named := ["hindcast/crc.fourSteps", "hindcast/state.bounds"], apart := false, laid := [("hindcast/crc.fourSteps", laid_hindcast_crc_fourSteps), ("hindcast/state.bounds", laid_hindcast_state_bounds)], narrowed := true }
def CheckpointLoadsUptoSaid : Prop := checkpointLoadsUptoRow.holds Tryz.pinned (OpenSpec.upto checkpointLoadsSpec)

/-- 'hindcastlaw18.CheckpointCut', WHERE WHAT IT READS IS OF BULK AT MOST 1048576: true; the input reads as it did. -/
def checkpointCutUptoRow : OpenClaim := { program := "ytacgmadgkmcmoaagreatdoor", sum := "81532cea4df6550fad54e9dcb65776fe7e0f87a19f1aa055141cf223db46f82f", func := "hindcast/hindcastlaw18.CheckpointCut", spec := "checkpointCut", inPlace := ["sync/atomic.LoadUint32", "sync/atomic.AddInt64", "sync/atomic.StoreUint32", "(*internal/sync.Mutex).Lock", "internal/race.Disable", "sync/atomic.CompareAndSwapInt32", "internal/race.Enable", "internal/race.Acquire", "(*internal/sync.Mutex).lockSlow", "internal/sync.runtime_canSpin", "internal/sync.runtime_doSpin", "internal/sync.throw", "internal/sync.runtime_nanotime", "internal/sync.runtime_SemacquireMutex", "sync/atomic.AddInt32", "(*internal/sync.Mutex).Unlock", "internal/race.ReleaseMerge", "(*internal/sync.Mutex).unlockSlow", "internal/sync.fatal", "internal/sync.runtime_Semrelease", "sync/atomic.LoadInt64"], unfollowed := true, recurses := true, named := ["hindcast/crc.fourSteps", "hindcast/state.bounds"], apart := false, laid := [("hindcast/crc.fourSteps", laid_hindcast_crc_fourSteps), ("hindcast/state.bounds", laid_hindcast_state_bounds)], narrowed := true }
def CheckpointCutUptoSaid : Prop := checkpointCutUptoRow.holds Tryz.pinned (OpenSpec.upto checkpointCutSpec)

/-- 'hindcastlaw18.CheckpointKnown', WHERE WHAT IT READS IS OF BULK AT MOST 1048576: true; the input reads as it did. -/
def checkpointKnownUptoRow : OpenClaim := { program := "ytacgmadgkmcmoaagreatdoor", sum := "81532cea4df6550fad54e9dcb65776fe7e0f87a19f1aa055141cf223db46f82f", func := "hindcast/hindcastlaw18.CheckpointKnown", spec := "checkpointKnown", inPlace := ["sync/atomic.LoadUint32", "sync/atomic.AddInt64", "sync/atomic.StoreUint32", "(*internal/sync.Mutex).Lock", "internal/race.Disable", "sync/atomic.CompareAndSwapInt32", "internal/race.Enable", "internal/race.Acquire", "(*internal/sync.Mutex).lockSlow", "internal/sync.runtime_canSpin", "internal/sync.runtime_doSpin", "internal/sync.throw", "internal/sync.runtime_nanotime", "internal/sync.runtime_SemacquireMutex", "sync/atomic.AddInt32", "(*internal/sync.Mutex).Unlock", "internal/race.ReleaseMerge", "(*internal/sync.Mutex).unlockSlow", "internal/sync.fatal", "internal/sync.runtime_Semrelease", "sync/atomic.LoadInt64"], unfollowed := true, recurses := true, named := ["hindcast/crc.fourSteps", "hindcast/state.bounds"], apart := false, laid := [("hindcast/crc.fourSteps", laid_hindcast_crc_fourSteps), ("hindcast/state.bounds", laid_hindcast_state_bounds)], narrowed := true }
def CheckpointKnownUptoSaid : Prop := checkpointKnownUptoRow.holds Tryz.pinned (OpenSpec.upto checkpointKnownSpec)

end Rows
end Go.Proofs.YtacgmadgkmcmoaaGreatDoor
