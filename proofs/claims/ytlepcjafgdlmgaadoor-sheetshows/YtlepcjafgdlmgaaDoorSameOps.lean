import Derived.Test.YtlepcjafgdlmgaaDoorMem
namespace Go.Proofs.YtlepcjafgdlmgaaDoor
open Go.ChangeShapes Go.WideShapes Go.ChangeAt Go.RowKit Go.Deep
open Terms
set_option maxHeartbeats 6400000
set_option maxRecDepth 20000
theorem sameOps_true (va vb:Value) (l:List (Int × Int)) (w:World) (hl:l.length <= 140737488355328) (hA:OpsV w va l) (hB:OpsV w vb l) :
  Calls Tryd.prog 21 #[va,vb] w fun e w'=>e=.returned (.bool true)/\∃ n,w'=w.drewN n:=by
 obtain ⟨ao,ca,rfl,_,ha⟩:=hA;obtain ⟨bo,cb,rfl,_,hb⟩:=hB;obtain ⟨n,hn⟩:∃ n,l.length=n:=⟨_,rfl⟩
 rw [hn] at hl ⊢;have HA:Hid (l≠[]->∃ b off,ao=some ⟨b,off,none⟩/\b < w.heap.size/\OpsAt w b off l):=ha
 have HB:Hid (l≠[]->∃ b off,bo=some ⟨b,off,none⟩/\b < w.heap.size/\OpsAt w b off l):=hb
 have HN:Hid (l.length=n):=hn;clear ha hb hn
 go_enter Tryd.func21,Tryd.ntmps21
 go_wp2
 go_loopw [5] (fun i wr=>∃ k:Nat,k <= n/\i=.int .i64 k/\∃ q,wr=w.drewN q) (fun i _=>n - (intOf i).toNat)
 case atStart=>exact ⟨0,Nat.zero_le _,rfl,0,rfl⟩
 case round=>
  obtain ⟨k,hk,rfl,q,rfl⟩:=hrel
  by_cases hlt:k < n
  ·have hne:l≠[]:=by intro h;subst h;have:=HN.out;simp at this;omega
   obtain ⟨b,off,rfl,_,hca⟩:=HA.out hne;obtain ⟨b',off',rfl,_,hcb⟩:=HB.out hne;obtain ⟨c1,d1⟩:=hca k (by rw [HN.out];exact hlt)
   obtain ⟨c2,d2⟩:=hcb k (by rw [HN.out];exact hlt)
   generalize (l.getD k (0,0)).1=x at c1 c2;generalize (l.getD k (0,0)).2=y at d1 d2;clear hca hcb hne
   go_wp2_with fail
   go_quiet (fail)
   go_wp2_with fail
   go_roundw
   case rel=>exact ⟨k+1,by omega,by go_num,_,rfl⟩
   case measure=>simp [intOf];omega
  ·go_wp2_with fail
   go_ret
   exact ⟨rfl,q,rfl⟩
