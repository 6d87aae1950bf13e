/- Joined texts. -/
import Derived.Test.YtnihdlgfhhdhkaaGreatDoorBools
import Derived.Test.YtnihdlgfhhdhkaaGreatDoorIntsOf
import Derived.Deep.RegionHeld3
import Derived.Maps.OwnSet
import Derived.Maps.OwnOps
import Derived.Deep.LoopGhost
import Derived.BigRegion
import Derived.Deep.Cut
import Derived.Deep.CutBlock
import Derived.Deep.CutRange
import Derived.Deep.DeepCutAuto
import Derived.Test.YtnihdlgfhhdhkaaGreatDoorAnyOps
import Derived.Deep.RegionLaw
import Derived.Shelf.Slices.Reverse
import Derived.Lib.OwnBridge
import Derived.Lib.RowBridge
namespace Go.Proofs.YtnihdlgfhhdhkaaGreatDoor
open Go.ChangeShapes Go.WideShapes Go.ChangeAt Go.RowKit Go.Deep
open Terms
set_option maxHeartbeats 6400000
set_option maxRecDepth 20000
def zNp:Value:=.slice none 0 0
def zPb (w:World) (us:List Value) (ls:List (List Int)):Prop:=us.length=ls.length/\∀ i,i < ls.length->zAI w (us.getD i zNp) (ls.getD i [])
def zL9 (w:World) (v:Value) (ls:List (List Int)):Prop:=∃ us ao cap,v=.slice ao ls.length cap/\(ao=none->cap=0/\ls=[])/\zPb w us ls/\(ls≠[]->∃ b off,ao=some ⟨b,off,none⟩/\b < w.heap.size/\∀ i,i < ls.length->w.cell? ⟨b,off+i,none⟩=some (us.getD i zNp))
theorem zHH {w:World} {base:Nat} {v:Value} {us:List Value} {ls:List (List Int)} (h:w.ownsRow base 27 1 v us.length us) (hu:zPb w us ls):zL9 w v ls:=by
 have hlen:=hu.1
 rcases h.2 with ⟨rfl,h0⟩ | ⟨g,cap,cur,rfl,hb,hg,hnc,hcm,hcs,htake⟩
 ·have:ls=[]:=List.length_eq_zero_iff.1 (by omega)
  subst this;exact ⟨us,none,0,rfl,fun _=>⟨rfl,rfl⟩,hu,fun h=>absurd rfl h⟩
 ·refine ⟨us,_,cap,by rw [hlen],fun h=>by simp at h,hu,fun _=>⟨g,0,rfl,(Array.getElem?_eq_some_iff.1 hg).1,fun i hi=>?_⟩⟩
  rw [Nat.zero_add,h.cellAt i (by omega)]
  simp [List.getD_eq_getElem?_getD,show i < us.length by omega]
structure Gr where
 spots:List (Int × Int)
 init:Int
 next:List (List Int)
 sets:List Int
 many:Int
structure GraphV (w:World) (sv nv bv:Value) (g:Gr):Prop where
 spots:zAX w sv g.spots
 next:zL9 w nv g.next
 sets:zAI w bv g.sets
end Go.Proofs.YtnihdlgfhhdhkaaGreatDoor
namespace Go.Proofs.YtnihdlgfhhdhkaaGreatDoor
open Terms
set_option maxHeartbeats 6400000
set_option maxRecDepth 20000
structure GHead (g:Gr):Prop where
 n:g.spots.length <= 20000
 next:g.next.length=g.spots.length
 sets:g.sets.length=g.spots.length
 init0:0 <= g.init
 init1:g.init <= g.spots.length
 many0:0 <= g.many
 many6:g.many <= 6
def top (g:Gr):Int:=2 ^ g.many.toNat - 1
def zPi (g:Gr) (i:Nat):Prop:=0 <= g.sets.getD i 0/\g.sets.getD i 0 <= top g
def zPo (g:Gr) (i:Nat) (k:Nat):Prop:=0 <= (g.next.getD i []).getD k 0/\(g.next.getD i []).getD k 0 < g.spots.length
def zPs (g:Gr) (i:Nat):Prop:=zPi g i/\∀ k,k < (g.next.getD i []).length->zPo g i k
structure GOk (g:Gr):Prop where
 head:GHead g
 row:∀ i,i < g.spots.length->zPs g i
def nxt (g:Gr) (i:Nat):List Nat:=(g.next.getD i []).map Int.toNat
end Go.Proofs.YtnihdlgfhhdhkaaGreatDoor
namespace Go.Proofs.YtnihdlgfhhdhkaaGreatDoor
open Go.ChangeShapes Go.WideShapes Go.ChangeAt Go.RowKit Go.Deep
open Terms
set_option maxHeartbeats 6400000
set_option maxRecDepth 20000
end Go.Proofs.YtnihdlgfhhdhkaaGreatDoor
namespace Go.Proofs.YtnihdlgfhhdhkaaGreatDoor
open Terms
set_option maxHeartbeats 6400000
set_option maxRecDepth 20000
section
variable {n : Nat} {nx : Nat -> List Nat} {wh lo go : Nat -> Nat} {pt : Nat -> Int} {met : Nat}
def left (nx:Nat->List Nat) (go:Nat->Nat):Nat->Nat
 | 0=>0
 | n+1=>left nx go n+((nx n).length - go n)
end
end Go.Proofs.YtnihdlgfhhdhkaaGreatDoor
namespace Go.Proofs.YtnihdlgfhhdhkaaGreatDoor
open Go.ChangeShapes Go.WideShapes Go.ChangeAt Go.RowKit Go.Deep
open Terms
set_option maxHeartbeats 6400000
set_option maxRecDepth 20000
end Go.Proofs.YtnihdlgfhhdhkaaGreatDoor
namespace Go.Proofs.YtnihdlgfhhdhkaaGreatDoor
open Go.ChangeShapes Go.WideShapes Go.ChangeAt Go.RowKit Go.Deep Go.Maps
open Terms
set_option maxHeartbeats 6400000
set_option maxRecDepth 20000
end Go.Proofs.YtnihdlgfhhdhkaaGreatDoor
namespace Go.Proofs.YtnihdlgfhhdhkaaGreatDoor
open Go.ChangeShapes Go.WideShapes Go.ChangeAt Go.RowKit Go.Deep
open Terms
set_option maxHeartbeats 6400000
set_option maxRecDepth 20000
structure TA where
 s:Nat
 t:Nat
 b:Nat
 bw:Nat
 bl:Nat
 bg:Nat
 bp:Nat
section
variable {w0 w : World} {A : TA} {nv : Value} {n : Nat} {dv ov : Value} {dl ol : List Nat} {wh lo go : Nat -> Nat} {pt : Nat -> Int} {met : Nat}
end
end Go.Proofs.YtnihdlgfhhdhkaaGreatDoor
namespace Go.Proofs.YtnihdlgfhhdhkaaGreatDoor
open Go.ChangeShapes Go.WideShapes Go.ChangeAt Go.RowKit Go.Deep Go.Maps
open Terms
set_option maxHeartbeats 6400000
set_option maxRecDepth 20000
end Go.Proofs.YtnihdlgfhhdhkaaGreatDoor
namespace Go.Proofs.YtnihdlgfhhdhkaaGreatDoor
open Go.ChangeShapes Go.WideShapes Go.ChangeAt Go.RowKit Go.Deep
open Terms
set_option maxHeartbeats 6400000
set_option maxRecDepth 20000
end Go.Proofs.YtnihdlgfhhdhkaaGreatDoor
namespace Go.Proofs.YtnihdlgfhhdhkaaGreatDoor
open Go.ChangeShapes Go.WideShapes Go.ChangeAt Go.RowKit Go.Deep Go.Maps
open Terms
set_option maxHeartbeats 6400000
set_option maxRecDepth 20000
end Go.Proofs.YtnihdlgfhhdhkaaGreatDoor
namespace Go.Proofs.YtnihdlgfhhdhkaaGreatDoor
open Go.ChangeShapes Go.WideShapes Go.ChangeAt Go.RowKit Go.Deep
open Terms
set_option maxHeartbeats 6400000
set_option maxRecDepth 20000
end Go.Proofs.YtnihdlgfhhdhkaaGreatDoor
namespace Go.Proofs.YtnihdlgfhhdhkaaGreatDoor
set_option maxHeartbeats 6400000
set_option maxRecDepth 20000
end Go.Proofs.YtnihdlgfhhdhkaaGreatDoor
namespace Go.Proofs.YtnihdlgfhhdhkaaGreatDoor
open Go.ChangeShapes Go.WideShapes Go.ChangeAt Go.RowKit Go.Deep Go.Maps
open Terms
set_option maxHeartbeats 6400000
set_option maxRecDepth 20000
end Go.Proofs.YtnihdlgfhhdhkaaGreatDoor
namespace Go.Proofs.YtnihdlgfhhdhkaaGreatDoor
open Go.ChangeShapes Go.WideShapes Go.ChangeAt Go.RowKit Go.Deep
open Terms
set_option maxHeartbeats 6400000
set_option maxRecDepth 20000
section
variable {w wr : World} {s : Nat} {so no bo : Option Addr} {sc nc bc n : Nat} {gi gm : Int} {f met : Nat} {v : Value} {lp : List Nat}
end
