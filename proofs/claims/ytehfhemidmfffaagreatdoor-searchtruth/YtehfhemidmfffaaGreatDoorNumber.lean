import Derived.Test.YtehfhemidmfffaaGreatDoorGrown3
namespace Go.Proofs.YtehfhemidmfffaaGreatDoor
open Go.ChangeShapes Go.WideShapes Go.ChangeAt Go.RowKit Go.Deep
open Terms
set_option maxHeartbeats 6400000
set_option maxRecDepth 20000
theorem TP(rawv:Value)(rs:am)(vars:Int)(w:World)(hv1:1<=vars)(hv2:vars<=100)(hR:Raws w w.heap.size rawv rs) :
  Calls Tryz.prog 25 #[rawv,.int .i64 vars] w fun e w'=>∃v t,e=.returned v/\NumT vars 2 t/\t.length<=7/\w'.ownsRow (w.heap.size+1) 100 2 v t.length (flat t)/\Below w.heap.size w w'/\Hid (t=BM rs vars 2 0):=by
 have hb0:=(Below.refl w.heap.size w).alloc (Nat.le_refl _) (.cells #[rawv,.int .i64 0,.int .i64 vars,.int .i64 0,.int .i64 0,.slice none 0 0] 104);have htr:=DP w.heap.size rawv rs vars 0 0 hv1 hv2 2 0 [] _ (by omega) (by decide) (by decide) (hR.below hb0) (Lf w rawv vars 0 0);obtain⟨ra,rn,rc,hra⟩:∃a n c,rawv=.slice a n c:=by obtain⟨⟨a,c,h,_⟩,_,_⟩:=hR;exact⟨_,_,_,h⟩
 subst hra;clear hR;go_enter Tryz.func25,Tryz.ntmps25;go_wp2_with (go_at_call 49;refine htr.mono ?_;rintro e w1 ⟨t,rfl,ht,_,hg1,hb1,HTt⟩;obtain⟨outv,hh,ho⟩:=hg1;obtain⟨_,_,_,c5,_,hlt⟩:=D5 hh)
 go_ret;exact⟨_,t,rfl,ht,by have:=ht.len.2;have e:2^(2+1)=8:=rfl;omega,by simpa using ho,hb0.trans hb1,HTt⟩
