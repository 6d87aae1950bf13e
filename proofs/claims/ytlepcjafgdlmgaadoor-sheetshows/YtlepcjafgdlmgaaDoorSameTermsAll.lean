import Derived.Test.YtlepcjafgdlmgaaDoorSameOps
namespace Go.Proofs.YtlepcjafgdlmgaaDoor
open Go.ChangeShapes Go.WideShapes Go.ChangeAt Go.RowKit Go.Deep
open Terms
set_option maxHeartbeats 6400000
set_option maxRecDepth 20000
theorem sameTerms_all (va vb:Value) (ts:List (List (Int × Int))) (w:World) (hl:ts.length <= 140737488355328) (hl2:∀ i,i < ts.length->(ts.getD i []).length <= 140737488355328) (hA:TermsV w va ts) (hB:TermsV w vb ts) :
  Calls Tryd.prog 20 #[va,vb] w fun e w'=>e=.returned (.bool true)/\∃ n,w'=w.drewN n:=by
 obtain ⟨ao,ca,rfl,ha⟩:=hA;obtain ⟨bo,cb,rfl,hb⟩:=hB;obtain ⟨n,hn⟩:∃ n,ts.length=n:=⟨_,rfl⟩
 rw [hn] at hl ⊢;have HA:=(show Hid _ from ha)
 have HB:=(show Hid _ from hb)
 have HN:Hid (ts.length=n):=hn;have HS:=(show Hid _ from hl2)
 clear ha hb hn hl2;have hnot:∀ (x:Bool) (w:World),(Op.unary .not (.bool x)).run Tryd.prog w=.ok (.bool (!x)) w:=fun _ _=>rfl
 go_enter Tryd.func20,Tryd.ntmps20
 go_wp2
 go_loopw [5] (fun i wr=>∃ k:Nat,k <= n/\i=.int .i64 k/\Hid (∃ q,wr=w.drewN q)) (fun i _=>n - (intOf i).toNat)
 case atStart=>exact ⟨0,Nat.zero_le _,rfl,0,rfl⟩
 case round=>
  obtain ⟨k,hk,rfl,HW⟩:=hrel
  by_cases hlt:k < n
  ·have hne:ts≠[]:=by intro h;subst h;have:=HN.out;simp at this;omega
   have hbw:Below w.heap.size w wr:=by obtain ⟨q,hq⟩:=HW.out;rw [hq];exact below_drewN (Below.refl _ _) q
   obtain ⟨b,off,rfl,hbl,hca⟩:=HA.out hne;obtain ⟨b',off',rfl,hbl',hcb⟩:=HB.out hne;obtain ⟨u,c1,o1⟩:=hca k (by rw [HN.out];exact hlt)
   obtain ⟨u',c2,o2⟩:=hcb k (by rw [HN.out];exact hlt)
   have d1:=(hbw.cell (p:=⟨b,off+k,none⟩) hbl).trans c1;have d2:=(hbw.cell (p:=⟨b',off' + k,none⟩) hbl').trans c2;have h60:=HS.out k (by rw [HN.out];exact hlt)
   have hso:=fun q=>sameOps_true u u' _ (wr.drewN q) (by omega) ((o1.below hbw).below (below_drewN (Below.refl _ _) q)) ((o2.below hbw).below (below_drewN (Below.refl _ _) q))
   obtain ⟨u1,u2,u3,hu⟩:∃ a b c,u=.slice a b c:=by obtain ⟨a,c,rfl,_⟩:=o1;exact ⟨_,_,_,rfl⟩
   obtain ⟨u1',u2',u3',hu'⟩:∃ a b c,u'=.slice a b c:=by obtain ⟨a,c,rfl,_⟩:=o2;exact ⟨_,_,_,rfl⟩
   subst hu hu';clear hca hcb hne o1 o2 h60 c1 c2 hbw
   go_wp2_with fail
   go_quiet ((go_at_call 21;exact Calls.quiet_of (hso _)))
   go_wp2_with fail
   go_roundw
   case rel=>exact ⟨k+1,by omega,by go_num,by obtain ⟨q,hq⟩:=HW.out;exact ⟨_,by rw [hq,World.drewN_drewN]⟩⟩
   case measure=>simp [intOf];omega
  ·go_wp2_with fail
   go_ret
   exact ⟨rfl,HW.out⟩
