import Derived.Test.YtehfhemidmfffaaGreatDoorModels
open Go renaming World→Z,Value→X
open Go.RowKit renaming Below→V
open _root_.Option renaming none→Y,some→W
namespace Go.Proofs.YtehfhemidmfffaaGreatDoor
open Go.ChangeShapes Go.WideShapes Go.ChangeAt Go.RowKit Go.Deep
open Terms Tm
open Go.Addr renaming mk→U
set_option maxHeartbeats 6400000
set_option maxRecDepth 20000
def SlV(w:Z)(v:X)(n:Nat)(P:Nat->Nat->Nat->Prop):Prop:=
 ∃ao cap,v=.slice ao n cap/\(n<=cap/\(ao=Y->cap=0/\n=0))/\(0<n->∃b off,ao=W (U b off Y)/\b<w.heap.size/\∀i,i<n->P b off i)
theorem SlV.imp{w w':Z}{v:X}{n:Nat}{P P':Nat->Nat->Nat->Prop}(h:SlV w v n P)(hs:w.heap.size<=w'.heap.size)(hP:∀b off i,b<w.heap.size->i<n->P b off i->P' b off i):SlV w' v n P':=by
 obtain⟨ao,cap,h1,h2,h3⟩:=h;refine⟨ao,cap,h1,h2,fun hn=>?_⟩;obtain⟨b,off,e,hb,hi⟩:=h3 hn;exact⟨b,off,e,Nat.lt_of_lt_of_le hb hs,fun i hin=>hP b off i hb hin (hi i hin)⟩
def EX(w:Z)(b o:Nat)(v:Vr):Prop:=
 w.cell? (U b o Y)=W (.string v.name)/\w.cell? ⟨b,o+1,Y⟩=W (.int .i64 v.lo)/\w.cell? ⟨b,o+2,Y⟩=W (.int .i64 v.hi)/\w.cell? ⟨b,o+3,Y⟩=W (.int .i64 v.ini)
theorem EX.below{B b o:Nat}{v:Vr}{w w':Z}(h:EX w b o v)(hb:V B w w')(hB:b<B):EX w' b o v:=
 ⟨(hb.cell (p:=(U b _ Y)) hB).trans h.1,(hb.cell (p:=(U b _ Y)) hB).trans h.2.1,(hb.cell (p:=(U b _ Y)) hB).trans h.2.2.1,(hb.cell (p:=(U b _ Y)) hB).trans h.2.2.2⟩
def VarsV(w:Z)(v:X)(l:List Vr):Prop:=SlV w v l.length fun b off i=>EX w b (off+i*4) (l.getD i vr0)
theorem VarsV.below{w w':Z}{v:X}{l:List Vr}(h:VarsV w v l)(hb:V w.heap.size w w'):VarsV w' v l:=SlV.imp h hb.size fun _ _ _ hlt _ hi=>hi.below hb hlt
def GG(w:Z)(b o:Nat)(s:St):Prop:=w.cell? (U b o Y)=W (.int .i64 s.var)/\∃u,w.cell? ⟨b,o+1,Y⟩=W u/\OpsV w u s.val
theorem GG.below{b o:Nat}{s:St}{w w':Z}(h:GG w b o s)(hb:V w.heap.size w w')(hB:b<w.heap.size):GG w' b o s:=by
 obtain⟨h1,u,h2,h3⟩:=h;exact⟨(hb.cell (p:=(U b _ Y)) hB).trans h1,u,(hb.cell (p:=(U b _ Y)) hB).trans h2,h3.below hb⟩
def SetsV(w:Z)(v:X)(l:List St):Prop:=SlV w v l.length fun b off i=>GG w b (off+i*2) (l.getD i st0)
theorem SetsV.below{w w':Z}{v:X}{l:List St}(h:SetsV w v l)(hb:V w.heap.size w w'):SetsV w' v l:=SlV.imp h hb.size fun _ _ _ hlt _ hi=>hi.below hb hlt
def GF(w:Z)(b o:Nat)(r:Ru):Prop:=(∃u,w.cell? (U b o Y)=W u/\OpsV w u r.guard)/\∃u,w.cell? ⟨b,o+1,Y⟩=W u/\SetsV w u r.sets
theorem GF.below{b o:Nat}{r:Ru}{w w':Z}(h:GF w b o r)(hb:V w.heap.size w w')(hB:b<w.heap.size):GF w' b o r:=by
 obtain⟨⟨u,h1,h2⟩,u',h3,h4⟩:=h;exact⟨⟨u,(hb.cell (p:=(U b _ Y)) hB).trans h1,h2.below hb⟩,u',(hb.cell (p:=(U b _ Y)) hB).trans h3,h4.below hb⟩
def RulesV(w:Z)(v:X)(l:List Ru):Prop:=SlV w v l.length fun b off i=>GF w b (off+i*2) (l.getD i ru0)
theorem RulesV.below{w w':Z}{v:X}{l:List Ru}(h:RulesV w v l)(hb:V w.heap.size w w'):RulesV w' v l:=SlV.imp h hb.size fun _ _ _ hlt _ hi=>hi.below hb hlt
def A1(w:Z)(va vr:X)(m:Mo):Prop:=VarsV w va m.vars/\RulesV w vr m.rules
theorem A1.below{w w':Z}{va vr:X}{m:Mo}(h:A1 w va vr m)(hb:V w.heap.size w w'):A1 w' va vr m:=⟨h.1.below hb,h.2.below hb⟩
theorem SlV.shape{w:Z}{v:X}{n:Nat}{P:Nat->Nat->Nat->Prop}(h:SlV w v n P):∃ao cap,v=.slice ao n cap:=by
 obtain⟨ao,cap,h1,_⟩:=h;exact⟨ao,cap,h1⟩
theorem SlV.at{w:Z}{ao:Option Addr}{cap n n':Nat}{P:Nat->Nat->Nat->Prop}(h:SlV w (.slice ao n' cap) n P){i:Nat}(hi:i<n):∃b off,ao=W (U b off Y)/\b<w.heap.size/\P b off i:=by
 obtain⟨ao',cap',h1,_,h3⟩:=h;injection h1 with e1 e2 e3;subst e1;obtain⟨b,off,e,hb,hh⟩:=h3 (by omega);exact⟨b,off,e,hb,hh i hi⟩
theorem OpsV.shape{w:Z}{v:X}{l:am}(h:OpsV w v l):∃ao cap,v=.slice ao l.length cap:=by
 obtain⟨ao,cap,h1,_⟩:=h;exact⟨ao,cap,h1⟩
