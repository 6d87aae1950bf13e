import Derived.Test.YtlepcjafgdlmgaaDoorModels
import Derived.Test.YtlepcjafgdlmgaaDoorOwns
namespace Go.Proofs.YtlepcjafgdlmgaaDoor
open Go.ChangeShapes Go.WideShapes Go.ChangeAt Go.RowKit Go.Deep
open Terms Tm
set_option maxHeartbeats 6400000
set_option maxRecDepth 20000
def SlV (w:World) (v:Value) (n:Nat) (P:Nat->Nat->Nat->Prop):Prop:=
 ∃ ao cap,v=.slice ao n cap/\(n <= cap/\(ao=none->cap=0/\n=0))/\(0 < n->∃ b off,ao=some ⟨b,off,none⟩/\b < w.heap.size/\∀ i,i < n->P b off i)
theorem SlV.imp {w w':World} {v:Value} {n:Nat} {P P':Nat->Nat->Nat->Prop} (h:SlV w v n P) (hs:w.heap.size <= w'.heap.size) (hP:∀ b off i,b < w.heap.size->i < n->P b off i->P' b off i):SlV w' v n P':=by
 obtain ⟨ao,cap,h1,h2,h3⟩:=h;refine ⟨ao,cap,h1,h2,fun hn=>?_⟩
 obtain ⟨b,off,e,hb,hi⟩:=h3 hn;exact ⟨b,off,e,Nat.lt_of_lt_of_le hb hs,fun i hin=>hP b off i hb hin (hi i hin)⟩
def VarAt (w:World) (b o:Nat) (v:Vr):Prop:=
 w.cell? ⟨b,o,none⟩=some (.string v.name)/\w.cell? ⟨b,o+1,none⟩=some (.int .i64 v.lo)/\w.cell? ⟨b,o+2,none⟩=some (.int .i64 v.hi)/\w.cell? ⟨b,o+3,none⟩=some (.int .i64 v.ini)
theorem VarAt.below {B b o:Nat} {v:Vr} {w w':World} (h:VarAt w b o v) (hb:Below B w w') (hB:b < B):VarAt w' b o v:=
 ⟨(hb.cell (p:=⟨b,_,none⟩) hB).trans h.1,(hb.cell (p:=⟨b,_,none⟩) hB).trans h.2.1,(hb.cell (p:=⟨b,_,none⟩) hB).trans h.2.2.1,(hb.cell (p:=⟨b,_,none⟩) hB).trans h.2.2.2⟩
def VarsV (w:World) (v:Value) (l:List Vr):Prop:=SlV w v l.length fun b off i=>VarAt w b (off+i*4) (l.getD i vr0)
theorem VarsV.below {w w':World} {v:Value} {l:List Vr} (h:VarsV w v l) (hb:Below w.heap.size w w'):VarsV w' v l:=SlV.imp h hb.size fun _ _ _ hlt _ hi=>hi.below hb hlt
def SetAt (w:World) (b o:Nat) (s:St):Prop:=w.cell? ⟨b,o,none⟩=some (.int .i64 s.var)/\∃ u,w.cell? ⟨b,o+1,none⟩=some u/\OpsV w u s.val
theorem SetAt.below {b o:Nat} {s:St} {w w':World} (h:SetAt w b o s) (hb:Below w.heap.size w w') (hB:b < w.heap.size):SetAt w' b o s:=by
 obtain ⟨h1,u,h2,h3⟩:=h;exact ⟨(hb.cell (p:=⟨b,_,none⟩) hB).trans h1,u,(hb.cell (p:=⟨b,_,none⟩) hB).trans h2,h3.below hb⟩
def SetsV (w:World) (v:Value) (l:List St):Prop:=SlV w v l.length fun b off i=>SetAt w b (off+i*2) (l.getD i st0)
theorem SetsV.below {w w':World} {v:Value} {l:List St} (h:SetsV w v l) (hb:Below w.heap.size w w'):SetsV w' v l:=SlV.imp h hb.size fun _ _ _ hlt _ hi=>hi.below hb hlt
def RuleAt (w:World) (b o:Nat) (r:Ru):Prop:=(∃ u,w.cell? ⟨b,o,none⟩=some u/\OpsV w u r.guard)/\∃ u,w.cell? ⟨b,o+1,none⟩=some u/\SetsV w u r.sets
theorem RuleAt.below {b o:Nat} {r:Ru} {w w':World} (h:RuleAt w b o r) (hb:Below w.heap.size w w') (hB:b < w.heap.size):RuleAt w' b o r:=by
 obtain ⟨⟨u,h1,h2⟩,u',h3,h4⟩:=h;exact ⟨⟨u,(hb.cell (p:=⟨b,_,none⟩) hB).trans h1,h2.below hb⟩,u',(hb.cell (p:=⟨b,_,none⟩) hB).trans h3,h4.below hb⟩
def RulesV (w:World) (v:Value) (l:List Ru):Prop:=SlV w v l.length fun b off i=>RuleAt w b (off+i*2) (l.getD i ru0)
theorem RulesV.below {w w':World} {v:Value} {l:List Ru} (h:RulesV w v l) (hb:Below w.heap.size w w'):RulesV w' v l:=SlV.imp h hb.size fun _ _ _ hlt _ hi=>hi.below hb hlt
def ModelV (w:World) (va vr:Value) (m:Mo):Prop:=VarsV w va m.vars/\RulesV w vr m.rules
theorem ModelV.below {w w':World} {va vr:Value} {m:Mo} (h:ModelV w va vr m) (hb:Below w.heap.size w w'):ModelV w' va vr m:=⟨h.1.below hb,h.2.below hb⟩
def StSz (s:St):Prop:=s.val.length*16 <= 140737488355328
def RuSz (r:Ru):Prop:=r.guard.length*16 <= 140737488355328/\r.sets.length*32 <= 140737488355328/\∀ j,j < r.sets.length->StSz (r.sets.getD j st0)
def MoSz (m:Mo):Prop:=m.vars.length*40 <= 140737488355328/\m.rules.length*48 <= 140737488355328/\∀ j,j < m.rules.length->RuSz (m.rules.getD j ru0)
theorem SlV.shape {w:World} {v:Value} {n:Nat} {P:Nat->Nat->Nat->Prop} (h:SlV w v n P):∃ ao cap,v=.slice ao n cap:=by
 obtain ⟨ao,cap,h1,_⟩:=h;exact ⟨ao,cap,h1⟩
theorem SlV.at {w:World} {ao:Option Addr} {cap n n':Nat} {P:Nat->Nat->Nat->Prop} (h:SlV w (.slice ao n' cap) n P) {i:Nat} (hi:i < n):∃ b off,ao=some ⟨b,off,none⟩/\b < w.heap.size/\P b off i:=by
 obtain ⟨ao',cap',h1,_,h3⟩:=h
 injection h1 with e1 e2 e3
 subst e1;obtain ⟨b,off,e,hb,hh⟩:=h3 (by omega)
 exact ⟨b,off,e,hb,hh i hi⟩
theorem OpsV.shape {w:World} {v:Value} {l:List (Int × Int)} (h:OpsV w v l):∃ ao cap,v=.slice ao l.length cap:=by
 obtain ⟨ao,cap,h1,_⟩:=h;exact ⟨ao,cap,h1⟩
