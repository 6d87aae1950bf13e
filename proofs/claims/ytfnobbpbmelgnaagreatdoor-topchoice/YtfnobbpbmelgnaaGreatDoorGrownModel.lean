import Derived.Test.YtfnobbpbmelgnaaGreatDoorModelOwn
import Derived.Test.YtfnobbpbmelgnaaGreatDoorGrownV
namespace Go.Proofs.YtfnobbpbmelgnaaGreatDoor
open Go.ChangeShapes Go.WideShapes Go.ChangeAt Go.RowKit Go.Deep
open Terms Tm
set_option maxHeartbeats 6400000
set_option maxRecDepth 20000
def bX:ByteArray:=⟨#[120]⟩
def bY:ByteArray:=⟨#[121,50]⟩
theorem name_bX:nameOk bX=true:=by first | kernel_rfl | (simp [nameOk,nmHead,bX,byteAt,chOk,ByteArray.toList_eq,ByteArray.size])
