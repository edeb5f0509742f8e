/- The seat holds sync.Mutex: its numbers. -/
import Derived.Test.YtlagodbkkkdmkaaRows
import Derived.Conc.RwLib
import Derived.Conc.MuData
import Derived.KernelRfl
namespace Go.Proofs.Ytlagodbkkkdmkaa
open Go
abbrev muLink : Go.Conc.Locks.MuLink := { lock := 44, unlock := 45, ilock := 51, iunlock := 52, lockSlow := 57, unlockSlow := 60, disable := 53, enable := 55, acquire := 56, relMerge := 58, cas32 := 54, add32 := 59, tMutex := 92, tIMutex := 90, tPMutex := 99, tPIMutex := 100, tPI32 := 102, tUP := 104, tNoCopy := 87, tU32 := 88 }
theorem muLib : Go.Conc.Locks.MuLib Try.prog muLink :=
  ⟨Try.func44, Try.func45, Try.func51, Try.func52, Try.func53, Try.func55, Try.func56, Try.func58, Try.func54, Try.func59, Try.underlying90, Try.runUnderlying90, Try.sizeOf90, Try.isAgg90, Try.zeroValue90, Try.underlying92, Try.runUnderlying92, Try.sizeOf92, Try.isAgg92, Try.zeroValue92, Try.underlying99, Try.runUnderlying99, Try.sizeOf99, Try.isAgg99, Try.zeroValue99, Try.underlying100, Try.runUnderlying100, Try.sizeOf100, Try.isAgg100, Try.zeroValue100, Try.underlying102, Try.runUnderlying102, Try.sizeOf102, Try.isAgg102, Try.zeroValue102, Try.underlying104, Try.runUnderlying104, Try.sizeOf104, Try.isAgg104, Try.zeroValue104, Try.underlying87, Try.runUnderlying87, Try.sizeOf87, Try.isAgg87, Try.zeroValue87, Try.underlying21, Try.runUnderlying21, Try.sizeOf21, Try.isAgg21, Try.zeroValue21, (by kernel_rfl)⟩
end Go.Proofs.Ytlagodbkkkdmkaa
