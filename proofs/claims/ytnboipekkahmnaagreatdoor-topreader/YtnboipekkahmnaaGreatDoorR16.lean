import Derived.Test.YtnboipekkahmnaaGreatDoorR15
set_option maxHeartbeats 8000000
set_option maxRecDepth 100000
namespace Go.Proofs.YtnboipekkahmnaaGreatDoor
open Obj renaming cells→o_
open World renaming cell?_of_block→b_,ownsRow.lt→l_
open Go.RowKit.Below renaming refl→r_
open Nat renaming le_refl→n_
open Tryz renaming prog→p_
open Value renaming string→v_,int→i_
open Go.Joins renaming below_alloc1→a_
section
open Go.RowKit Go.Joins Go.Shelf
attribute [local go_sem ↓] Go.wp_at_zero Go.wp_at_succ
theorem zEC (pb nb qb ob lb:Nat) (name:ByteArray) (qx tries:Int) (dead:ByteArray) (now long:Int) {B wb:Nat} {S:Nat->Prop} {P:Rws} {since:Sn} {chs:List Chg} {rds:Rws} (w:World) (h:QV w B wb S P since chs rds) (hn:bK name.data.toList=true) (hd:dead.size<=1000) (ht:tries<=9) (h0:0<=now) (h1:now<=1000000) (h2:0<=long) (h3:long<=1000000)
  (c0:w.cell? ⟨pb,0,none⟩=some (.pointer (some ⟨wb,0,none⟩))) (c1:w.cell? ⟨nb,0,none⟩=some (.string name)) (c2:w.cell? ⟨qb,0,none⟩=some (.int .i64 qx)) (c3:w.cell? ⟨qb,1,none⟩=some (.int .i64 tries)) (c4:w.cell? ⟨qb,2,none⟩=some (.string dead)) (c5:w.cell? ⟨ob,0,none⟩=some (.int .i64 now)) (c6:w.cell? ⟨lb,0,none⟩=some (.int .i64 long)):
  Calls p_ 117 #[.pointer (some ⟨pb,0,none⟩),.pointer (some ⟨nb,0,none⟩),.pointer (some ⟨qb,0,none⟩),.pointer (some ⟨ob,0,none⟩),.pointer (some ⟨lb,0,none⟩)] w fun e w'=>e=.returned (.tuple #[mV (eO P name tries dead now (now+long) 1000001 chs rds (aZ name)).1,errV (eO P name tries dead now (now+long) 1000001 chs rds (aZ name)).1.2.2.2.2])/\ActQ w w' B wb S P since (eO P name tries dead now (now+long) 1000001 chs rds (aZ name)).2.1 (eO P name tries dead now (now+long) 1000001 chs rds (aZ name)).2.2:=by
 have HX:=hide (BoxQ.start h #[i_ .i64 0,i_ .i64 0,i_ .i64 0,v_ ⟨#[]⟩] 99);have HLO:=hide h.pv.lo;have hbA:=a_ w (o_ #[.int .i64 0,.int .i64 0,.int .i64 0,.string ⟨#[]⟩] 99);replace c0:=aA hbA c0;replace c1:=aA hbA c1;replace c2:=aA hbA c2;replace c3:=aA hbA c3;replace c4:=aA hbA c4;replace c5:=aA hbA c5;replace c6:=aA hbA c6;have r0:(w.alloc (o_ #[.int .i64 0,.int .i64 0,.int .i64 0,.string ⟨#[]⟩] 99)).cell? ⟨w.heap.size,0,none⟩=some (i_ .i64 0):=by simp
 have r1:(w.alloc (o_ #[.int .i64 0,.int .i64 0,.int .i64 0,.string ⟨#[]⟩] 99)).cell? ⟨w.heap.size,1,none⟩=some (i_ .i64 0):=by simp
 have r2:(w.alloc (o_ #[.int .i64 0,.int .i64 0,.int .i64 0,.string ⟨#[]⟩] 99)).cell? ⟨w.heap.size,2,none⟩=some (i_ .i64 0):=by simp
 have r3:(w.alloc (o_ #[.int .i64 0,.int .i64 0,.int .i64 0,.string ⟨#[]⟩] 99)).cell? ⟨w.heap.size,3,none⟩=some (v_ ⟨#[]⟩):=by simp
 have hw1:IntKind.i64.wrap (now+long)=now+long:=by rw[IntKind.wrap_i64];omega
 have HT:=hide (zHu name qx tries dead now (now+long) _ HX.out.qv hn hd ht);clear h hbA hn;generalize eO P name tries dead now (now+long) 1000001 chs rds (aZ name)=r at *;obtain⟨⟨mk,mt,mu,md,em⟩,chs1,rds1⟩:=r;dsimp only at HT ⊢;go_enter Tryz.func117,Tryz.ntmps117;go_wp2_with (first
  | (go_at_call 118;refine HT.out.mono ?_;rintro e w1 ⟨rfl,ha⟩;obtain⟨S1,hx1,eb⟩:=HX.out.act ha;have fz:=hx1.fz;replace r0:=(b_ eb).trans r0;replace r1:=(b_ eb).trans r1;replace r2:=(b_ eb).trans r2;replace r3:=(b_ eb).trans r3;have HX1:=hide hx1;clear ha hx1 eb c0 c1 c2 c3 c4 c5 c6)
  | fail)
 exact bodyPost_ret (v:=.tuple #[mV (mk,mt,mu,md,em),errV em]) (by simp[results,Tryz.results117,go_sem,r0,r1,r2,r3]) rfl ⟨rfl,((((HX1.out.set HLO.out 0 _).set HLO.out 1 _).set HLO.out 2 _).set HLO.out 3 _).done⟩
theorem oW {n:Int} (h:fC n=true):0<=n/\n<=1000000:=by unfold fC at h;rw[Bool.and_eq_true,decide_eq_true_eq,decide_eq_true_eq] at h;exact h
def zLK (s b:Nat):Prop:=s<=b/\b<s+5
theorem zCy (name:ByteArray) (now long:Int) {B wb:Nat} {S:Nat->Prop} {P:Rws} {since:Sn} {chs:List Chg} {rds:Rws} (w:World) (h:QV w B wb S P since chs rds) (hn:name.size<=1000):
  Calls p_ 50 #[.pointer (some ⟨wb,0,none⟩),.string name,.int .i64 now,.int .i64 long] w fun e w'=>e=.returned (.tuple #[mV (dK P chs rds name now long).1,errV (dK P chs rds name now long).1.2.2.2.2])/\ActQ w w' B wb S P since (dK P chs rds name now long).2.1 (dK P chs rds name now long).2.2:=by
 have n1:=bM 114;have hmf:∀ (fn:Fn) (first cap:Array Value) (w:World),(Instr.makeFunc fn first cap).run p_ w=.ok (.func fn first cap) w:=fun _ _ _ _=>rfl;have HLO:=hide h.pv.lo;have HFO:=hide (fun h=>xJ (P:=P) (chs:=chs) (rds:=rds) (name:=name) h);have HFN:Hid ((aN P chs rds name).2.2.2=0->bK name.data.toList=true):=hide (fun he=>by unfold aN at he;split at he;assumption;cases he);have z1:(w.alloc (o_ #[.pointer (some ⟨wb,0,none⟩)] 59)).heap.size=w.heap.size+1:=by simp
 have z2:((w.alloc (o_ #[.pointer (some ⟨wb,0,none⟩)] 59)).alloc (o_ #[.string name] 9)).heap.size=w.heap.size+1+1:=by simp
 have z3:(((w.alloc (o_ #[.pointer (some ⟨wb,0,none⟩)] 59)).alloc (o_ #[.string name] 9)).alloc (o_ #[.int .i64 now] 3)).heap.size=w.heap.size+1+1+1:=by simp
 have z4:((((w.alloc (o_ #[.pointer (some ⟨wb,0,none⟩)] 59)).alloc (o_ #[.string name] 9)).alloc (o_ #[.int .i64 now] 3)).alloc (o_ #[.int .i64 long] 3)).heap.size=w.heap.size+1+1+1+1:=by simp
 have z5:(((((w.alloc (o_ #[.pointer (some ⟨wb,0,none⟩)] 59)).alloc (o_ #[.string name] 9)).alloc (o_ #[.int .i64 now] 3)).alloc (o_ #[.int .i64 long] 3)).alloc (o_ #[.int .i64 0,.int .i64 0,.int .i64 0,.string ⟨#[]⟩] 99)).heap.size=w.heap.size+1+1+1+1+1:=by simp
 have HOx:=hide (((((OwnQ.start h).box #[Value.pointer (some ⟨wb,0,none⟩)] 59).box #[v_ name] 9).box #[i_ .i64 now] 3).box #[i_ .i64 long] 3 |>.box #[i_ .i64 0,i_ .i64 0,i_ .i64 0,v_ ⟨#[]⟩] 99);rw[z1,z2,z3,z4] at HOx;have HO:=hide (HOx.out.less (O':=zLK w.heap.size) (fun b hb=>by unfold zLK at hb;show b=w.heap.size+1+1+1+1∨b=w.heap.size+1+1+1∨b=w.heap.size+1+1∨b=w.heap.size+1∨b=w.heap.size∨False;omega));have hb1:=a_ w (o_ #[.pointer (some ⟨wb,0,none⟩)] 59);have hb2:=a_ (w.alloc (o_ #[.pointer (some ⟨wb,0,none⟩)] 59)) (o_ #[.string name] 9);have hb3:=a_ ((w.alloc (o_ #[.pointer (some ⟨wb,0,none⟩)] 59)).alloc (o_ #[.string name] 9)) (o_ #[.int .i64 now] 3);have hb4:=a_ (((w.alloc (o_ #[.pointer (some ⟨wb,0,none⟩)] 59)).alloc (o_ #[.string name] 9)).alloc (o_ #[.int .i64 now] 3)) (o_ #[.int .i64 long] 3);have hb5:=a_ ((((w.alloc (o_ #[.pointer (some ⟨wb,0,none⟩)] 59)).alloc (o_ #[.string name] 9)).alloc (o_ #[.int .i64 now] 3)).alloc (o_ #[.int .i64 long] 3)) (o_ #[.int .i64 0,.int .i64 0,.int .i64 0,.string ⟨#[]⟩] 99);have c0:(((((w.alloc (o_ #[.pointer (some ⟨wb,0,none⟩)] 59)).alloc (o_ #[.string name] 9)).alloc (o_ #[.int .i64 now] 3)).alloc (o_ #[.int .i64 long] 3)).alloc (o_ #[.int .i64 0,.int .i64 0,.int .i64 0,.string ⟨#[]⟩] 99)).cell? ⟨w.heap.size,0,none⟩=some (.pointer (some ⟨wb,0,none⟩)):=(aA hb5 (aA hb4 (aA hb3 (aA hb2 (aC w _ _ 0)))));have c1:(((((w.alloc (o_ #[.pointer (some ⟨wb,0,none⟩)] 59)).alloc (o_ #[.string name] 9)).alloc (o_ #[.int .i64 now] 3)).alloc (o_ #[.int .i64 long] 3)).alloc (o_ #[.int .i64 0,.int .i64 0,.int .i64 0,.string ⟨#[]⟩] 99)).cell? ⟨w.heap.size+1,0,none⟩=some (.string name):=(aA hb5 (aA hb4 (aA hb3 (by rw[<-z1];exact aC _ _ _ 0))));have c2:(((((w.alloc (o_ #[.pointer (some ⟨wb,0,none⟩)] 59)).alloc (o_ #[.string name] 9)).alloc (o_ #[.int .i64 now] 3)).alloc (o_ #[.int .i64 long] 3)).alloc (o_ #[.int .i64 0,.int .i64 0,.int .i64 0,.string ⟨#[]⟩] 99)).cell? ⟨w.heap.size+1+1,0,none⟩=some (.int .i64 now):=(aA hb5 (aA hb4 (by rw[<-z2];exact aC _ _ _ 0)));have c3:(((((w.alloc (o_ #[.pointer (some ⟨wb,0,none⟩)] 59)).alloc (o_ #[.string name] 9)).alloc (o_ #[.int .i64 now] 3)).alloc (o_ #[.int .i64 long] 3)).alloc (o_ #[.int .i64 0,.int .i64 0,.int .i64 0,.string ⟨#[]⟩] 99)).cell? ⟨w.heap.size+1+1+1,0,none⟩=some (.int .i64 long):=(aA hb5 (by rw[<-z3];exact aC _ _ _ 0));have r0:(((((w.alloc (o_ #[.pointer (some ⟨wb,0,none⟩)] 59)).alloc (o_ #[.string name] 9)).alloc (o_ #[.int .i64 now] 3)).alloc (o_ #[.int .i64 long] 3)).alloc (o_ #[.int .i64 0,.int .i64 0,.int .i64 0,.string ⟨#[]⟩] 99)).cell? ⟨w.heap.size+1+1+1+1,0,none⟩=some (.int .i64 0):=(by rw[<-z4];exact aC _ _ _ 0);have r1:(((((w.alloc (o_ #[.pointer (some ⟨wb,0,none⟩)] 59)).alloc (o_ #[.string name] 9)).alloc (o_ #[.int .i64 now] 3)).alloc (o_ #[.int .i64 long] 3)).alloc (o_ #[.int .i64 0,.int .i64 0,.int .i64 0,.string ⟨#[]⟩] 99)).cell? ⟨w.heap.size+1+1+1+1,1,none⟩=some (.int .i64 0):=(by rw[<-z4];exact aC _ _ _ 1);have r2:(((((w.alloc (o_ #[.pointer (some ⟨wb,0,none⟩)] 59)).alloc (o_ #[.string name] 9)).alloc (o_ #[.int .i64 now] 3)).alloc (o_ #[.int .i64 long] 3)).alloc (o_ #[.int .i64 0,.int .i64 0,.int .i64 0,.string ⟨#[]⟩] 99)).cell? ⟨w.heap.size+1+1+1+1,2,none⟩=some (.int .i64 0):=(by rw[<-z4];exact aC _ _ _ 2);have r3:(((((w.alloc (o_ #[.pointer (some ⟨wb,0,none⟩)] 59)).alloc (o_ #[.string name] 9)).alloc (o_ #[.int .i64 now] 3)).alloc (o_ #[.int .i64 long] 3)).alloc (o_ #[.int .i64 0,.int .i64 0,.int .i64 0,.string ⟨#[]⟩] 99)).cell? ⟨w.heap.size+1+1+1+1,3,none⟩=some (.string ⟨#[]⟩):=(by rw[<-z4];exact aC _ _ _ 3);have HF:=hide (kK name _ HO.out.qv hn);clear h HOx hb1 hb2 hb3 hb4 hb5 z1 z2 z3 z4 z5;unfold dK;generalize aN P chs rds name=q at *;generalize bC chs rds name=rds1 at *;obtain⟨qx,qy,qd,er⟩:=q;dsimp only at HF HFO HFN ⊢;by_cases h1:er=0
 ·subst h1;rw[if_pos rfl];obtain⟨hx0,hx1,hd6,hy0,hy9⟩:=HFO.out rfl;have hnm:=HFN.out rfl;have HE1:=hide bX;clear HFO HFN;by_cases ht:fC now=true/\fC long=true
  ·rw[if_pos ht];obtain⟨ht1,ht2⟩:=ht;obtain⟨t0,t1⟩:=oW ht1;obtain⟨t2,t3⟩:=oW ht2;have HT1:=hide ht1;have HT2:=hide ht2;have HNM:=hide hnm;clear ht1 ht2 hnm;have HWH:=hide (fun (W0:World) (S1:Nat->Prop) (hQ:QV W0 B wb S1 P since chs rds1) (qb:Nat) (e0:W0.cell? ⟨w.heap.size,0,none⟩=some (.pointer (some ⟨wb,0,none⟩))) (e1:W0.cell? ⟨w.heap.size+1,0,none⟩=some (.string name)) (e2:W0.cell? ⟨qb,0,none⟩=some (.int .i64 qx)) (e3:W0.cell? ⟨qb,1,none⟩=some (.int .i64 qy)) (e4:W0.cell? ⟨qb,2,none⟩=some (.string qd)) (e5:W0.cell? ⟨w.heap.size+1+1,0,none⟩=some (.int .i64 now)) (e6:W0.cell? ⟨w.heap.size+1+1+1,0,none⟩=some (.int .i64 long))=>zEU W0 hQ (fun W hb=>zEC w.heap.size (w.heap.size+1) qb (w.heap.size+1+1) (w.heap.size+1+1+1) name qx qy qd now long W (hQ.on hb) HNM.out (by omega) hy9 t0 t1 t2 t3 (aA hb e0) (aA hb e1) (aA hb e2) (aA hb e3) (aA hb e4) (aA hb e5) (aA hb e6)));generalize eO P name qy qd now (now+long) 1000001 chs rds1 (aZ name)=r at *;obtain⟨⟨mk,mt,mu,md,em⟩,chs2,rds2⟩:=r;dsimp only at HWH ⊢;by_cases hz:em=0
   ·subst hz;rw[if_pos rfl];simp only[if_true] at HWH;go_enter Tryz.func50,Tryz.ntmps50;go_wp2_with (first
     | (go_at_call 83;refine HF.out.mono ?_;rintro e w1 ⟨rfl,ha⟩;obtain⟨S1,ho1,kp⟩:=HO.out.act ha;have hbQ:=a_ w1 (o_ #[.int .i64 qx,.int .i64 qy,.string qd] 145);have HO1:=hide (ho1.on hbQ);replace c0:=aA hbQ ((b_ (kp (w.heap.size) ⟨by omega,by omega⟩)).trans c0);replace c1:=aA hbQ ((b_ (kp (w.heap.size+1) ⟨by omega,by omega⟩)).trans c1);replace c2:=aA hbQ ((b_ (kp (w.heap.size+1+1) ⟨by omega,by omega⟩)).trans c2);replace c3:=aA hbQ ((b_ (kp (w.heap.size+1+1+1) ⟨by omega,by omega⟩)).trans c3);replace r0:=aA hbQ ((b_ (kp (w.heap.size+1+1+1+1) ⟨by omega,by omega⟩)).trans r0);replace r1:=aA hbQ ((b_ (kp (w.heap.size+1+1+1+1) ⟨by omega,by omega⟩)).trans r1);replace r2:=aA hbQ ((b_ (kp (w.heap.size+1+1+1+1) ⟨by omega,by omega⟩)).trans r2);replace r3:=aA hbQ ((b_ (kp (w.heap.size+1+1+1+1) ⟨by omega,by omega⟩)).trans r3);have fz:=(HO1.out.ow (w.heap.size+1+1+1+1) ⟨by omega,by omega⟩).2.2.2;clear ha ho1 kp hbQ;rw[HE1.out])
     | (go_at_call 112;refine(fI _ _).mono ?_;rintro e w2 ⟨rfl,rfl⟩;first|rw[HT1.out]|rw[HT2.out])
     | (go_at_call 116;refine(HWH.out _ _ HO1.out.qv w1.heap.size c0 c1 (aC w1 _ _ 0) (aC w1 _ _ 1) (aC w1 _ _ 2) c2 c3).mono ?_;rintro e w3 ⟨rfl,ha⟩;obtain⟨S3,ho3,kp3⟩:=HO1.out.act ha;replace r0:=(b_ (kp3 (w.heap.size+1+1+1+1) ⟨by omega,by omega⟩)).trans r0;replace r1:=(b_ (kp3 (w.heap.size+1+1+1+1) ⟨by omega,by omega⟩)).trans r1;replace r2:=(b_ (kp3 (w.heap.size+1+1+1+1) ⟨by omega,by omega⟩)).trans r2;replace r3:=(b_ (kp3 (w.heap.size+1+1+1+1) ⟨by omega,by omega⟩)).trans r3;have HO3:=hide ho3;clear fz;have fz:=(HO3.out.ow (w.heap.size+1+1+1+1) ⟨by omega,by omega⟩).2.2.2;clear ha ho3 kp3 c0 c1 c2 c3)
     | fail)
    exact bodyPost_ret (v:=.tuple #[mV (mk,mt,mu,md,0),errV 0]) (by simp[errV,results,Tryz.results50,go_sem,r0,r1,r2,r3]) rfl ⟨rfl,((((HO3.out.set HLO.out (b:=w.heap.size+1+1+1+1) ⟨by omega,by omega⟩ 0 _).set HLO.out (b:=w.heap.size+1+1+1+1) ⟨by omega,by omega⟩ 1 _).set HLO.out (b:=w.heap.size+1+1+1+1) ⟨by omega,by omega⟩ 2 _).set HLO.out (b:=w.heap.size+1+1+1+1) ⟨by omega,by omega⟩ 3 _).done⟩
   ·rw[if_neg hz];simp only[if_neg hz] at HWH;clear hz;go_enter Tryz.func50,Tryz.ntmps50;go_wp2_with (first
     | (go_at_call 83;refine HF.out.mono ?_;rintro e w1 ⟨rfl,ha⟩;obtain⟨S1,ho1,kp⟩:=HO.out.act ha;have hbQ:=a_ w1 (o_ #[.int .i64 qx,.int .i64 qy,.string qd] 145);have HO1:=hide (ho1.on hbQ);replace c0:=aA hbQ ((b_ (kp (w.heap.size) ⟨by omega,by omega⟩)).trans c0);replace c1:=aA hbQ ((b_ (kp (w.heap.size+1) ⟨by omega,by omega⟩)).trans c1);replace c2:=aA hbQ ((b_ (kp (w.heap.size+1+1) ⟨by omega,by omega⟩)).trans c2);replace c3:=aA hbQ ((b_ (kp (w.heap.size+1+1+1) ⟨by omega,by omega⟩)).trans c3);replace r0:=aA hbQ ((b_ (kp (w.heap.size+1+1+1+1) ⟨by omega,by omega⟩)).trans r0);replace r1:=aA hbQ ((b_ (kp (w.heap.size+1+1+1+1) ⟨by omega,by omega⟩)).trans r1);replace r2:=aA hbQ ((b_ (kp (w.heap.size+1+1+1+1) ⟨by omega,by omega⟩)).trans r2);replace r3:=aA hbQ ((b_ (kp (w.heap.size+1+1+1+1) ⟨by omega,by omega⟩)).trans r3);have fz:=(HO1.out.ow (w.heap.size+1+1+1+1) ⟨by omega,by omega⟩).2.2.2;clear ha ho1 kp hbQ;rw[HE1.out])
     | (go_at_call 112;refine(fI _ _).mono ?_;rintro e w2 ⟨rfl,rfl⟩;first|rw[HT1.out]|rw[HT2.out])
     | (go_at_call 116;refine(HWH.out _ _ HO1.out.qv w1.heap.size c0 c1 (aC w1 _ _ 0) (aC w1 _ _ 1) (aC w1 _ _ 2) c2 c3).mono ?_;rintro e w3 ⟨rfl,ha⟩;obtain⟨S3,ho3,kp3⟩:=HO1.out.act ha;replace r0:=(b_ (kp3 (w.heap.size+1+1+1+1) ⟨by omega,by omega⟩)).trans r0;replace r1:=(b_ (kp3 (w.heap.size+1+1+1+1) ⟨by omega,by omega⟩)).trans r1;replace r2:=(b_ (kp3 (w.heap.size+1+1+1+1) ⟨by omega,by omega⟩)).trans r2;replace r3:=(b_ (kp3 (w.heap.size+1+1+1+1) ⟨by omega,by omega⟩)).trans r3;have HO3:=hide ho3;clear fz;have fz:=(HO3.out.ow (w.heap.size+1+1+1+1) ⟨by omega,by omega⟩).2.2.2;clear ha ho3 kp3 c0 c1 c2 c3)
     | fail)
    exact bodyPost_ret (v:=.tuple #[mV (noM em),errV em]) (by simp[results,Tryz.results50,go_sem,r0,r1,r2,r3]) rfl ⟨rfl,((((HO3.out.set HLO.out (b:=w.heap.size+1+1+1+1) ⟨by omega,by omega⟩ 0 _).set HLO.out (b:=w.heap.size+1+1+1+1) ⟨by omega,by omega⟩ 1 _).set HLO.out (b:=w.heap.size+1+1+1+1) ⟨by omega,by omega⟩ 2 _).set HLO.out (b:=w.heap.size+1+1+1+1) ⟨by omega,by omega⟩ 3 _).done⟩
  ·rw[if_neg ht]
   cases ht1:fC now with
   | false=>
    have HT1:=hide ht1;have HT2:=hide ht1;clear ht ht1;go_enter Tryz.func50,Tryz.ntmps50;go_wp2_with (first
     | (go_at_call 83;refine HF.out.mono ?_;rintro e w1 ⟨rfl,ha⟩;obtain⟨S1,ho1,kp⟩:=HO.out.act ha;have hbQ:=a_ w1 (o_ #[.int .i64 qx,.int .i64 qy,.string qd] 145);have HO1:=hide (ho1.on hbQ);replace c0:=aA hbQ ((b_ (kp (w.heap.size) ⟨by omega,by omega⟩)).trans c0);replace c1:=aA hbQ ((b_ (kp (w.heap.size+1) ⟨by omega,by omega⟩)).trans c1);replace c2:=aA hbQ ((b_ (kp (w.heap.size+1+1) ⟨by omega,by omega⟩)).trans c2);replace c3:=aA hbQ ((b_ (kp (w.heap.size+1+1+1) ⟨by omega,by omega⟩)).trans c3);replace r0:=aA hbQ ((b_ (kp (w.heap.size+1+1+1+1) ⟨by omega,by omega⟩)).trans r0);replace r1:=aA hbQ ((b_ (kp (w.heap.size+1+1+1+1) ⟨by omega,by omega⟩)).trans r1);replace r2:=aA hbQ ((b_ (kp (w.heap.size+1+1+1+1) ⟨by omega,by omega⟩)).trans r2);replace r3:=aA hbQ ((b_ (kp (w.heap.size+1+1+1+1) ⟨by omega,by omega⟩)).trans r3);have fz:=(HO1.out.ow (w.heap.size+1+1+1+1) ⟨by omega,by omega⟩).2.2.2;clear ha ho1 kp hbQ;rw[HE1.out])
     | (go_at_call 112;refine(fI _ _).mono ?_;rintro e w2 ⟨rfl,rfl⟩;first|rw[HT1.out]|rw[HT2.out])
     | fail)
    exact bodyPost_ret (v:=.tuple #[mV (noM 1),errV 1]) (by simp[errV,results,Tryz.results50,go_sem,r0,r1,r2,r3]) rfl ⟨rfl,((((HO1.out.set HLO.out (b:=w.heap.size+1+1+1+1) ⟨by omega,by omega⟩ 0 _).set HLO.out (b:=w.heap.size+1+1+1+1) ⟨by omega,by omega⟩ 1 _).set HLO.out (b:=w.heap.size+1+1+1+1) ⟨by omega,by omega⟩ 2 _).set HLO.out (b:=w.heap.size+1+1+1+1) ⟨by omega,by omega⟩ 3 _).done⟩
   | true=>
    have ht2:fC long=false:=by
     cases e:fC long with
     | false=>rfl
     | true=>exact absurd ⟨ht1,e⟩ ht
    have HT1:=hide ht1;have HT2:=hide ht2;clear ht ht1 ht2;go_enter Tryz.func50,Tryz.ntmps50;go_wp2_with (first
     | (go_at_call 83;refine HF.out.mono ?_;rintro e w1 ⟨rfl,ha⟩;obtain⟨S1,ho1,kp⟩:=HO.out.act ha;have hbQ:=a_ w1 (o_ #[.int .i64 qx,.int .i64 qy,.string qd] 145);have HO1:=hide (ho1.on hbQ);replace c0:=aA hbQ ((b_ (kp (w.heap.size) ⟨by omega,by omega⟩)).trans c0);replace c1:=aA hbQ ((b_ (kp (w.heap.size+1) ⟨by omega,by omega⟩)).trans c1);replace c2:=aA hbQ ((b_ (kp (w.heap.size+1+1) ⟨by omega,by omega⟩)).trans c2);replace c3:=aA hbQ ((b_ (kp (w.heap.size+1+1+1) ⟨by omega,by omega⟩)).trans c3);replace r0:=aA hbQ ((b_ (kp (w.heap.size+1+1+1+1) ⟨by omega,by omega⟩)).trans r0);replace r1:=aA hbQ ((b_ (kp (w.heap.size+1+1+1+1) ⟨by omega,by omega⟩)).trans r1);replace r2:=aA hbQ ((b_ (kp (w.heap.size+1+1+1+1) ⟨by omega,by omega⟩)).trans r2);replace r3:=aA hbQ ((b_ (kp (w.heap.size+1+1+1+1) ⟨by omega,by omega⟩)).trans r3);have fz:=(HO1.out.ow (w.heap.size+1+1+1+1) ⟨by omega,by omega⟩).2.2.2;clear ha ho1 kp hbQ;rw[HE1.out])
     | (go_at_call 112;refine(fI _ _).mono ?_;rintro e w2 ⟨rfl,rfl⟩;first|rw[HT1.out]|rw[HT2.out])
     | fail)
    exact bodyPost_ret (v:=.tuple #[mV (noM 1),errV 1]) (by simp[errV,results,Tryz.results50,go_sem,r0,r1,r2,r3]) rfl ⟨rfl,((((HO1.out.set HLO.out (b:=w.heap.size+1+1+1+1) ⟨by omega,by omega⟩ 0 _).set HLO.out (b:=w.heap.size+1+1+1+1) ⟨by omega,by omega⟩ 1 _).set HLO.out (b:=w.heap.size+1+1+1+1) ⟨by omega,by omega⟩ 2 _).set HLO.out (b:=w.heap.size+1+1+1+1) ⟨by omega,by omega⟩ 3 _).done⟩
 ·rw[if_neg h1];have HE1:=hide (bJ h1);clear h1 HFO HFN;go_enter Tryz.func50,Tryz.ntmps50;go_wp2_with (first
   | (go_at_call 83;refine HF.out.mono ?_;rintro e w1 ⟨rfl,ha⟩;obtain⟨S1,ho1,kp⟩:=HO.out.act ha;have hbQ:=a_ w1 (o_ #[.int .i64 qx,.int .i64 qy,.string qd] 145);have HO1:=hide (ho1.on hbQ);replace c0:=aA hbQ ((b_ (kp (w.heap.size) ⟨by omega,by omega⟩)).trans c0);replace c1:=aA hbQ ((b_ (kp (w.heap.size+1) ⟨by omega,by omega⟩)).trans c1);replace c2:=aA hbQ ((b_ (kp (w.heap.size+1+1) ⟨by omega,by omega⟩)).trans c2);replace c3:=aA hbQ ((b_ (kp (w.heap.size+1+1+1) ⟨by omega,by omega⟩)).trans c3);replace r0:=aA hbQ ((b_ (kp (w.heap.size+1+1+1+1) ⟨by omega,by omega⟩)).trans r0);replace r1:=aA hbQ ((b_ (kp (w.heap.size+1+1+1+1) ⟨by omega,by omega⟩)).trans r1);replace r2:=aA hbQ ((b_ (kp (w.heap.size+1+1+1+1) ⟨by omega,by omega⟩)).trans r2);replace r3:=aA hbQ ((b_ (kp (w.heap.size+1+1+1+1) ⟨by omega,by omega⟩)).trans r3);have fz:=(HO1.out.ow (w.heap.size+1+1+1+1) ⟨by omega,by omega⟩).2.2.2;clear ha ho1 kp hbQ;rw[HE1.out])
   | fail)
  exact bodyPost_ret (v:=.tuple #[mV (noM er),errV er]) (by simp[results,Tryz.results50,go_sem,r0,r1,r2,r3,HE1.out]) rfl ⟨rfl,((((HO1.out.set HLO.out (b:=w.heap.size+1+1+1+1) ⟨by omega,by omega⟩ 0 _).set HLO.out (b:=w.heap.size+1+1+1+1) ⟨by omega,by omega⟩ 1 _).set HLO.out (b:=w.heap.size+1+1+1+1) ⟨by omega,by omega⟩ 2 _).set HLO.out (b:=w.heap.size+1+1+1+1) ⟨by omega,by omega⟩ 3 _).done⟩
end
section
open Go.RowKit Go.Joins Go.Shelf Go.WideShapes
attribute [local go_sem ↓] Go.wp_at_zero Go.wp_at_succ
def qM (m:Msg):List Value:=[.int .i64 m.1,.int .i64 m.2.1,.int .i64 m.2.2.1,.string m.2.2.2.1]
theorem zHG (m:Msg):∀ u∈qM m,u.oneCell'=true:=by
 intro u hu;simp only[qM,List.mem_cons,List.not_mem_nil,or_false] at hu;rcases hu with rfl|rfl|rfl|rfl<;>rfl
def ownM (w:World) (B:Nat) (v:Value) (l:List Msg):Prop:=w.ownsRow B 99 4 v l.length (l.flatMap qM)
theorem zJL:(Tryz.prog.info? 99).map (fun i=>(i.zero,i.size,i.bytes))=some (some (.agg #[.int .i64 0,.int .i64 0,.int .i64 0,.string ⟨#[]⟩]),4,40):=by kernel_rfl
theorem zIS {w:World} {B:Nat} {v:Value} {l:List Msg} {m:Msg} (h:w.ownsRow B 99 4 v (l.length+1) (l.flatMap qM++qM m)):ownM w B v (l++[m]):=by
 unfold ownM;rw[List.flatMap_append,List.length_append];simpa using h
def zNf (w w':World) (v:Value) (B wb:Nat) (S:Nat->Prop) (P:Rws) (since:Sn) (chs:List Chg) (rds:Rws) (l:List Msg):Prop:=
 ∃ S',ownM w' w.heap.size v l/\QV w' B wb S' P since chs rds/\aG w w' B S S'/\∀ k,v.ownBlock=some k->¬S' k
def rX (w w':World) (e:Ending) (B wb:Nat) (S:Nat->Prop) (P:Rws) (since:Sn) (chs:List Chg) (r:Nat×List Msg×Rws):Prop:=
 (r.1=0->∃ v,e=.returned (.tuple #[v,.nilIface])/\zNf w w' v B wb S P since chs r.2.2 r.2.1)/\(r.1≠0->e=.returned (.tuple #[.slice none 0 0,errV r.1])/\ActQ w w' B wb S P since chs r.2.2)
theorem rX.bad {w w':World} {B wb:Nat} {S:Nat->Prop} {P:Rws} {since:Sn} {chs:List Chg} {f:Nat} {l:List Msg} {rds:Rws} {ev:Value} (hf:f≠0) (he:ev=errV f) (ha:ActQ w w' B wb S P since chs rds):rX w w' (.returned (.tuple #[.slice none 0 0,ev])) B wb S P since chs (f,l,rds):=
 ⟨fun h=>absurd h hf,fun _=>⟨by rw[he],ha⟩⟩
theorem zG6 {l:Rws} {k:Nat} (hk:k<l.length) (h:eN (l.take k)=0):eN (l.take (k+1))=(mOf l[k].2 (numK l[k].1)).2.2.2.2:=by
 induction l generalizing k with
 | nil=>cases hk
 | cons r l ih=>
  cases k with
  | zero=>
   show(if (mOf r.2 (numK r.1)).2.2.2.2=0 then 0 else (mOf r.2 (numK r.1)).2.2.2.2)=_;split
   ·rename_i e;exact e.symm
   ·rfl
  | succ k=>
   have h':(if (mOf r.2 (numK r.1)).2.2.2.2=0 then eN (l.take k) else (mOf r.2 (numK r.1)).2.2.2.2)=0:=h;show(if (mOf r.2 (numK r.1)).2.2.2.2=0 then eN (l.take (k+1)) else (mOf r.2 (numK r.1)).2.2.2.2)=_;split at h'
   ·rename_i e;rw[if_pos e];exact ih (by simpa using hk) h'
   ·rename_i e;exact absurd h' e
theorem zEF {l:Rws} {k:Nat} (hk:k<l.length) (h:eN (l.take k)=0) (hb:(mOf l[k].2 (numK l[k].1)).2.2.2.2≠0):eN l=(mOf l[k].2 (numK l[k].1)).2.2.2.2:=by
 induction l generalizing k with
 | nil=>cases hk
 | cons r l ih=>
  cases k with
  | zero=>show(if (mOf r.2 (numK r.1)).2.2.2.2=0 then eN l else (mOf r.2 (numK r.1)).2.2.2.2)=_;rw[if_neg (by simpa using hb)];rfl
  | succ k=>
   have h':(if (mOf r.2 (numK r.1)).2.2.2.2=0 then eN (l.take k) else (mOf r.2 (numK r.1)).2.2.2.2)=0:=h;show(if (mOf r.2 (numK r.1)).2.2.2.2=0 then eN l else (mOf r.2 (numK r.1)).2.2.2.2)=_;split at h'
   ·rename_i e;rw[if_pos e];exact ih (by simpa using hk) h' (by simpa using hb)
   ·rename_i e;exact absurd h' e
theorem zF1 {l:Rws} {k:Nat} (hk:k<l.length):jQ (l.take (k+1))=jQ (l.take k)++[mOf l[k].2 (numK l[k].1)]:=by
 unfold jQ;rw[List.take_succ_eq_append_getElem hk,List.map_append];rfl
theorem rX.good {w w':World} {B wb:Nat} {S S':Nat->Prop} {P:Rws} {since:Sn} {chs:List Chg} {l:Rws} {rds:Rws} {v:Value} (hf:eN l=0) (ho:ownM w' w.heap.size v (jQ l)) (hq:QV w' B wb S' P since chs rds) (hs:aG w w' B S S') (hn:∀ k,v.ownBlock=some k->¬S' k):rX w w' (.returned (.tuple #[v,.nilIface])) B wb S P since chs (if eN l=0 then (0,jQ l,rds) else (eN l,[],rds)):=by
 rw[if_pos hf];exact⟨fun _=>⟨v,rfl,S',ho,hq,hs,hn⟩,fun h=>absurd rfl h⟩
theorem rX.worse {w w':World} {B wb:Nat} {S:Nat->Prop} {P:Rws} {since:Sn} {chs:List Chg} {f:Nat} {l:Rws} {rds:Rws} {ev:Value} (hl:eN l=f) (hf:f≠0) (he:ev=errV f) (ha:ActQ w w' B wb S P since chs rds):rX w w' (.returned (.tuple #[.slice none 0 0,ev])) B wb S P since chs (if eN l=0 then (0,jQ l,rds) else (eN l,[],rds)):=by
 rw[if_neg (by rw[hl];exact hf),hl];exact .bad hf he ha
theorem zCk (name:ByteArray) {B wb:Nat} {S:Nat->Prop} {P:Rws} {since:Sn} {chs:List Chg} {rds:Rws} (w:World) (h:QV w B wb S P since chs rds) (hn:name.size<=1000):
  Calls p_ 89 #[.pointer (some ⟨wb,0,none⟩),.string name] w fun e w'=>rX w w' e B wb S P since chs (cY P chs rds name):=by
 have n1:=bM 114;obtain⟨i0,hi0,hz0,hs0,hb0⟩:=info_parts zJL;have HLO:=hide h.pv.lo;have HF:=hide (kK name w h hn);have HQ:=hide h;have HFN:Hid ((aN P chs rds name).2.2.2=0->bK name.data.toList=true):=hide (fun he=>by unfold aN at he;split at he;assumption;cases he);unfold cY;generalize aN P chs rds name=q at *;generalize bC chs rds name=rds1 at *;obtain⟨qx,qy,qd,er⟩:=q;dsimp only at HF HFN ⊢;by_cases h1:er=0
 ·subst h1;rw[if_pos rfl];have hnm:=HFN.out rfl;have HE1:=hide bX;have HLF:Hid (∀ r∈(aF P chs (aZ name,toB name)).take 53,∃ n,n<=999999/\r.1=msgB name n/\r.2.size<=40):=hide (fun r hr=>by
   have hm:=List.mem_of_mem_take hr;obtain⟨a1,a2⟩:=tB HQ.out.ok (aZ name,toB name) r hm;obtain⟨n,hn',e⟩:=zJz hnm a1 (zA9 HQ.out.pv.ok.rise hm);exact⟨n,hn',e,a2⟩)
  have hl53:((aF P chs (aZ name,toB name)).take 53).length<=53:=by rw[List.length_take];omega
  clear HFN h;by_cases hsf:dL (aF P chs (aZ name,toB name)) rds1 (aZ name,toB name) 53=0
  ·rw[if_pos hsf];have HSC:=hide (fun (S1:Nat->Prop) (W:World) (hW:QV W B wb S1 P since chs rds1)=>zDp (aZ name,toB name) 53 W hW (by omega) hsf);rw[show((53:Int).toNat)=53 from rfl] at HSC;clear hsf hnm;generalize eP (aF P chs (aZ name,toB name)) rds1 (aZ name,toB name) 53=rds2 at *;generalize (aF P chs (aZ name,toB name)).take 53=l at *;generalize hr:(if eN l=0 then (0,jQ l,rds2) else (eN l,[],rds2))=r;have HR:=hide hr;clear hr;go_enter Tryz.func89,Tryz.ntmps89;go_wp2_with (first
    | (go_at_call 83;refine HF.out.mono ?_;rintro e w1 ⟨rfl,ha⟩;obtain⟨S1,hq1,hs1⟩:=ha;have hbQ:=a_ w1 (o_ #[.int .i64 qx,.int .i64 qy,.string qd] 145);have HQ1:=hide (hq1.on hbQ);have HS1:=hide (hs1.trans (.on hq1.pv.lo hbQ));clear hq1 hs1 hbQ;rw[HE1.out])
    | (go_at_call 157;refine(pM name _ (by omega)).mono ?_;rintro e w2 ⟨rfl,hb2⟩;have HQ2:=hide (HQ1.out.on hb2);have HS2:=hide (HS1.out.trans (.on HQ1.out.pv.lo hb2));clear hb2)
    | (go_at_call 42;refine(HSC.out _ _ HQ2.out).mono ?_;rintro e w3 ⟨v,rfl,ha⟩;obtain⟨ao,cap,S3,rfl,hc1,hc2,hh,hq3,hs3,hn3⟩:=ha;have HQ3:=hide hq3;have HS3:=hide (HS2.out.trans hs3);have HH:=hide hh;have hsz3:=(HS2.out.trans hs3).bel.size;clear hq3 hs3 hn3 hh)
    | fail)
   go_loopw [10,36] (fun v i wr=>∃ k:Nat,k<=l.length/\i=.int .i64 k/\ownM wr w3.heap.size v (jQ (l.take k))/\Below w3.heap.size w3 wr/\eN (l.take k)=0) (fun _ i _=>l.length-(intOf i).toNat)
   case atStart=>exact⟨0,Nat.zero_le _,rfl,World.ownsRow_nil _ _ _ _,r_ _ _,rfl⟩
   case round=>
    obtain⟨k,hk,rfl,hown,hB,hM⟩:=hrel;by_cases hlt:k<l.length
    ·rcases HH.out with e|⟨b,off,rfl,hsp⟩
     ·rw[e] at hlt;cases hlt
     obtain⟨c0,c1⟩:=gW hB hsp k hlt;have lk:(k:Int)<(l.length:Int):=by omega
     obtain⟨n,hn9,ek,hv40⟩:=HLF.out l[k] (List.getElem_mem hlt);have hnk:numK l[k].1=n:=by rw[ek];exact zDT name hn9
     have HP:Hid (∀ W:World,(∀ W',Below W.heap.size W W'->Laid W')->Calls p_ 158 #[.agg #[.string l[k].1,.string l[k].2]] W fun e w'=>e=.returned (.tuple #[mV (mOf l[k].2 (numK l[k].1)),errV (mOf l[k].2 (numK l[k].1)).2.2.2.2])/\Below W.heap.size W w'):=hide (by rw[hnk,ek];exact fun W hL=>yN name n l[k].2 W (by omega) hn9 (by omega) hL);have HMT:=hide (zG6 hlt hM);have HMF:=hide (zEF hlt hM);have HML:=hide (zF1 hlt);have HOWN0:=hide hown;have HB:=hide hB;have hlen:(jQ (l.take k)).length<=53:=by unfold jQ;rw[List.length_map,List.length_take];omega
     clear hnk ek hM hown hB hv40 HLF hsp;generalize mOf l[k].2 (numK l[k].1)=m at *;generalize jQ (l.take k)=out at *;generalize l[k].1=rk at *;generalize l[k].2=rv at *;obtain⟨mk,mt,mu,md,em⟩:=m;dsimp only at HP HMT HMF HML;have HLD:=hide (fun (W W':World) (h1:Below w3.heap.size w3 W) (h2:Below W.heap.size W W')=>HQ3.out.la W' ((h1.trans (h2.mono h1.size)).mono HQ3.out.pv.lo));by_cases hem:em=0
     ·subst hem;have HEM:=hide bX;go_wp2_with (first
       | (go_at_call 158;have hbR:=a_ wr (o_ #[.string rk,.string rv] 165);have HBR:=hide (HB.out.trans (hbR.mono HB.out.size));refine(HP.out _ (fun W' hW'=>HLD.out _ _ HBR.out hW')).mono ?_;rintro e w5 ⟨rfl,hb5⟩;have HB5:=hide (HBR.out.trans (hb5.mono HBR.out.size));have hbM:=a_ w5 (o_ #[.int .i64 mk,.int .i64 mt,.int .i64 mu,.string md] 99);have HOWN:=hide (bQ (bQ (bQ HOWN0.out hbR) hb5) hbM);have hb6:=HB5.out.trans (hbM.mono HB5.out.size);clear hbR hb5 hbM;rw[HEM.out])
       | (at_builtin;refine oS rfl _ _ 156 rfl w3.heap.size 99 i0 _ 4 40 Tryz.underlying156 hi0 hz0 hs0 hb0 rfl (by omega) (w5.alloc (o_ #[.int .i64 mk,.int .i64 mt,.int .i64 mu,.string md] 99)) (qM (mk,mt,mu,md,0)) rfl (zHG _) _ out.length (out.flatMap qM) HOWN.out rfl (by rw[show(w5.alloc (o_ #[.int .i64 mk,.int .i64 mt,.int .i64 mu,.string md] 99)).heap.size=w5.heap.size+1 by simp];rfl) (by omega) (by omega) hb6.size ?_;intro v1 w7 ho1 hb7;have HB7:Hid (Below w3.heap.size w3 w7):=(by first|exact hb7 w3 hb6|exact hb7 w3 (hb6.trans (below_draws _ _ _)));have HO7:Hid (ownM w7 w3.heap.size v1 (out++[(mk,mt,mu,md,0)])):=zIS ho1;clear ho1 hb7)
       | fail)
      exact⟨⟨k+1,by omega,by go_num,by rw[HML.out];exact HO7.out,HB7.out,HMT.out⟩,by simp[intOf];omega⟩
     ·have HEM:=hide (bJ hem);have HNZ:=hide hem;clear hem;go_wp2_with (first
       | (go_at_call 158;have hbR:=a_ wr (o_ #[.string rk,.string rv] 165);have HBR:=hide (HB.out.trans (hbR.mono HB.out.size));refine(HP.out _ (fun W' hW'=>HLD.out _ _ HBR.out hW')).mono ?_;rintro e w5 ⟨rfl,hb5⟩;have HB5:=hide (HBR.out.trans (hb5.mono HBR.out.size));have hbM:=a_ w5 (o_ #[.int .i64 mk,.int .i64 mt,.int .i64 mu,.string md] 99);have hb6:=HB5.out.trans (hbM.mono HB5.out.size);clear hbR hb5 hbM;rw[HEM.out])
       | fail)
      go_ret2;refine HR.out▸?_;exact .worse (HMF.out HNZ.out) HNZ.out HEM.out.symm ⟨_,HQ3.out.on hb6,HS3.out.trans (.on HQ3.out.pv.lo hb6)⟩
    ·have ek:k=l.length:=by omega
     subst ek;have hlt':¬(l.length:Int)<(l.length:Int):=by omega
     rw[List.take_length] at hown hM;have HM:=hide hM;have HOWN:=hide hown;clear hM hown;go_wp2;go_ret2;refine HR.out▸?_;exact .good HM.out (ownsRow_le HOWN.out hsz3) (HQ3.out.on hB) (HS3.out.trans (.on HQ3.out.pv.lo hB)) (fun k e hk=>by have h1:=(l_ HOWN.out k e).1;have h2:=HQ3.out.pv.lt hk;omega)
  ·rw[if_neg hsf];have HSC:=hide (fun (S1:Nat->Prop) (W:World) (hW:QV W B wb S1 P since chs rds1)=>zBd (aZ name,toB name) 53 W hW (by omega) hsf);generalize eP (aF P chs (aZ name,toB name)) rds1 (aZ name,toB name) 53=rds2 at *;generalize dL (aF P chs (aZ name,toB name)) rds1 (aZ name,toB name) 53=f at *;have HE2:=hide (bJ hsf);have HSF:=hide hsf;clear hsf hnm;go_enter Tryz.func89,Tryz.ntmps89;go_wp2_with (first
    | (go_at_call 83;refine HF.out.mono ?_;rintro e w1 ⟨rfl,ha⟩;obtain⟨S1,hq1,hs1⟩:=ha;have hbQ:=a_ w1 (o_ #[.int .i64 qx,.int .i64 qy,.string qd] 145);have HQ1:=hide (hq1.on hbQ);have HS1:=hide (hs1.trans (.on hq1.pv.lo hbQ));clear hq1 hs1 hbQ;rw[HE1.out])
    | (go_at_call 157;refine(pM name _ (by omega)).mono ?_;rintro e w2 ⟨rfl,hb2⟩;have HQ2:=hide (HQ1.out.on hb2);have HS2:=hide (HS1.out.trans (.on HQ1.out.pv.lo hb2));clear hb2)
    | (go_at_call 42;refine(HSC.out _ _ HQ2.out).mono ?_;rintro e w3 ⟨rfl,ha⟩;have HA:=hide (ActQ.after HS2.out ha);clear ha;rw[HE2.out])
    | fail)
   go_ret2;exact .bad HSF.out HE2.out.symm HA.out
 ·rw[if_neg h1];have HE1:=hide (bJ h1);have HER:=hide h1;clear h1 HFN;go_enter Tryz.func89,Tryz.ntmps89;go_wp2_with (first
   | (go_at_call 83;refine HF.out.mono ?_;rintro e w1 ⟨rfl,ha⟩;have hbQ:=a_ w1 (o_ #[.int .i64 qx,.int .i64 qy,.string qd] 145);have HA:=hide (ha.post hbQ);clear ha hbQ;rw[HE1.out])
   | fail)
  go_ret2;exact .bad HER.out HE1.out.symm HA.out
end
section
open Go.RowKit Go.Joins
structure ActL where
 kind:ByteArray
 a:Int
 b:Int
 c:Int
 k:Int
 s:ByteArray
 t:ByteArray
 ca:Option Addr
 cc:Nat
 chs:List Chg
 sa:Option Addr
 sc:Nat
 sps:List (ByteArray×ByteArray)
structure vI (w:World) (blk off:Nat) (x:ActL):Prop where
 kind:w.cell? ⟨blk,off,none⟩=some (.string x.kind)
 a:w.cell? ⟨blk,off+1,none⟩=some (.int .i64 x.a)
 b:w.cell? ⟨blk,off+2,none⟩=some (.int .i64 x.b)
 c:w.cell? ⟨blk,off+3,none⟩=some (.int .i64 x.c)
 k:w.cell? ⟨blk,off+4,none⟩=some (.int .u64 x.k)
 s:w.cell? ⟨blk,off+5,none⟩=some (.string x.s)
 t:w.cell? ⟨blk,off+6,none⟩=some (.string x.t)
 cl:w.cell? ⟨blk,off+7,none⟩=some (.slice x.ca x.chs.length x.cc)
 sl:w.cell? ⟨blk,off+8,none⟩=some (.slice x.sa x.sps.length x.sc)
 hc:bW w x.ca x.chs
 hs:bY w x.sa x.sps
 ns:x.sps.length<=maxLen
 ai:-9223372036854775808<=x.a/\x.a<=9223372036854775807
theorem vI.on {w w':World} {b off:Nat} {x:ActL} (hb:Below w.heap.size w w') (h:vI w b off x):vI w' b off x:=
 ⟨aA hb h.kind,aA hb h.a,aA hb h.b,aA hb h.c,aA hb h.k,aA hb h.s,aA hb h.t,aA hb h.cl,aA hb h.sl,eA hb h.hc,lX hb h.hs,h.ns,h.ai⟩
def zAf (w:World) (b off:Nat) (l:List ActL):Prop:=∀ i (h:i<l.length),vI w b (off+i*9) l[i]
theorem zHM {w w':World} {b off:Nat} {l:List ActL} (hb:Below w.heap.size w w') (h:zAf w b off l):zAf w' b off l:=fun i hi=>(h i hi).on hb
def iM (w:World) (ao:Option Addr) (l:List ActL):Prop:=l=[]∨∃ b off,ao=some ⟨b,off,none⟩/\zAf w b off l
theorem zHR {w w':World} {ao:Option Addr} {l:List ActL} (hb:Below w.heap.size w w') (h:iM w ao l):iM w' ao l:=by
 rcases h with h|⟨b,off,h,k⟩
 ·exact .inl h
 ·exact .inr ⟨b,off,h,zHM hb k⟩
def fE (x:ActL):Bool:=decide (x.s.size<=120)&&decide (x.t.size<=100)&&iR x.chs 20&&iA x.sps
def gT (l:List ActL) (n:Nat):Bool:=decide (l.length<=n)&&l.all fE
theorem zEn {l:List ActL} {k:Nat} (hk:k<l.length) (h:(l.take k).all fE=true) (h2:fE l[k]=true):(l.take (k+1)).all fE=true:=by
 rw[List.take_succ_eq_append_getElem hk,List.all_append,h];simp[h2]
theorem oZ {l:List ActL} {k n:Nat} (hk:k<l.length) (h:fE l[k]=false):gT l n=false:=by
 unfold gT;have:l.all fE=false:=by
  rw[List.all_eq_false];exact⟨l[k],List.getElem_mem hk,by simp[h]⟩
 rw[this,Bool.and_false]
theorem zAz (l:List ActL) (n b off cap:Nat) (w:World) (hl:zAf w b off l) (hm:n<=1000):
  Calls p_ 14 #[.slice (some ⟨b,off,none⟩) l.length cap,.int .i64 n] w fun e w'=>e=.returned (.bool (gT l n))/\w'=w:=by
 by_cases h50:l.length<=n
 ·have hg:decide ((n:Int)<(l.length:Int))=false:=by simp;omega
  have hg2:decide (n<l.length)=false:=by simp;omega
  go_enter Tryz.func14,Tryz.ntmps14;go_wp2
  go_loopw [5] (fun i wr=>∃ k:Nat,k<=l.length/\i=.int .i64 k/\(l.take k).all fE=true/\wr=w) (fun i _=>l.length-(intOf i).toNat)
  case atStart=>exact⟨0,Nat.zero_le _,rfl,by simp,rfl⟩
  case round=>
   obtain⟨k,hk,rfl,hall,rfl⟩:=hrel;have HA:=hide hall;clear hall;by_cases hlt:k<l.length
   ·have hx:=hl k hlt;have c5:=hx.s;have c6:=hx.t;have c7:=hx.cl;have c8:=hx.sl;have H7:=hide hx.hc;have H8:=hide hx.hs;have hns:=hx.ns;clear hx;by_cases h5:l[k].s.size<=120
    ·by_cases h6:l[k].t.size<=100
     ·have h5':¬(120:Int)<(l[k].s.size:Int):=by omega
      have h6':¬(100:Int)<(l[k].t.size:Int):=by omega
      cases h7:iR l[k].chs 20 with
      | false=>
       have H:=hide h7;clear h7;go_wp2_with (first
        | (go_at_call 58;refine(sV _ 20 _ _ _ H7.out (by omega)).mono ?_;rintro e w2 ⟨rfl,hw2⟩;have hw3:=hw2.symm;subst hw3;clear hw2;rw[H.out]))
       go_ret;exact⟨bB (oZ hlt (by simp[fE,H.out])).symm,rfl⟩
      | true=>
       have H:=hide h7;clear h7
       cases h8:iA l[k].sps with
       | false=>
        have H':=hide h8;clear h8;go_wp2_with (first
         | (go_at_call 58;refine(sV _ 20 _ _ _ H7.out (by omega)).mono ?_;rintro e w2 ⟨rfl,hw2⟩;have hw3:=hw2.symm;subst hw3;clear hw2;rw[H.out])
         | (go_at_call 41;refine(vD _ _ _ _ H8.out hns).mono ?_;rintro e w2 ⟨rfl,hw2⟩;have hw3:=hw2.symm;subst hw3;clear hw2;rw[H'.out]))
        go_ret;exact⟨bB (oZ hlt (by simp[fE,H'.out])).symm,rfl⟩
       | true=>
        have H':=hide h8;clear h8;go_wp2_with (first
         | (go_at_call 58;refine(sV _ 20 _ _ _ H7.out (by omega)).mono ?_;rintro e w2 ⟨rfl,hw2⟩;have hw3:=hw2.symm;subst hw3;clear hw2;rw[H.out])
         | (go_at_call 41;refine(vD _ _ _ _ H8.out hns).mono ?_;rintro e w2 ⟨rfl,hw2⟩;have hw3:=hw2.symm;subst hw3;clear hw2;rw[H'.out]))
        go_roundw
        case rel=>exact⟨k+1,by omega,by go_num,zEn hlt HA.out (by simp[fE,H.out,H'.out,h5,h6]),by first|rfl|trivial⟩
        case measure=>simp[intOf];omega
     ·have h5':¬(120:Int)<(l[k].s.size:Int):=by omega
      have h6':(100:Int)<(l[k].t.size:Int):=by omega
      go_wp2;go_ret;exact⟨bB (oZ hlt (by simp[fE,h6])).symm,rfl⟩
    ·have h5':(120:Int)<(l[k].s.size:Int):=by omega
     go_wp2;go_ret;exact⟨bB (oZ hlt (by simp[fE,h5])).symm,rfl⟩
   ·go_wp2;go_ret;refine⟨bB ?_,rfl⟩;have e:l.take k=l:=List.take_of_length_le (by omega);have:=HA.out;rw[e] at this;simp[gT,this,h50]
 ·have hg:decide ((n:Int)<(l.length:Int))=true:=by simp;omega
  go_enter Tryz.func14,Tryz.ntmps14;go_wp2;go_ret;exact⟨bB (by simp[gT,h50]),rfl⟩
theorem zB4 (ao:Option Addr) (n cap:Nat) (w:World):
  Calls p_ 14 #[.slice ao 0 cap,.int .i64 n] w fun e w'=>e=.returned (.bool true)/\w'=w:=by
 have hg:decide ((n:Int)<0)=false:=by simp
 go_enter Tryz.func14,Tryz.ntmps14;go_wp2;refine wp_loop_rounds 1 ?_;rw[rounds_succ];go_wp2;go_ret;exact⟨rfl,rfl⟩
theorem zCZ (l:List ActL) (n cap:Nat) (ao:Option Addr) (w:World) (hl:iM w ao l) (hm:n<=1000):
  Calls p_ 14 #[.slice ao l.length cap,.int .i64 n] w fun e w'=>e=.returned (.bool (gT l n))/\w'=w:=by
 rcases hl with rfl|⟨b,off,rfl,h⟩
 ·exact zB4 _ _ _ _
 ·exact zAz l n b off cap w h hm
theorem zEf (c:Chg):aD c<=3:=by unfold aD;(repeat' split)<;>first|decide|(dsimp only;omega)
theorem lZ (l:List Chg) (c:Chg):cH l c<=3:=by
 have:=zEf c;unfold cH;split
 ·split<;>decide
 ·exact this
theorem xG (l:Rws) (s:ByteArray×ByteArray):cZ l s<=2:=by unfold cZ;(repeat' split)<;>first|decide|(dsimp only;omega)
theorem zAH (chs:List Chg) (rds P:Rws) (key:ByteArray):(getP chs rds P key).2.2<=3:=by
 unfold getP;split
 ·split
  ·exact Nat.zero_le _
  ·split
   ·exact Nat.zero_le _
   ·exact Nat.le_trans (xG _ _) (by decide)
 ·exact n_ _
theorem zKE (x y:Int) (d:ByteArray):(mO x y d).2<=3:=by unfold mO;(repeat' split)<;>first|decide|(dsimp only;omega)
theorem zLw (x y:Int) (d:ByteArray):(nD x y d).2<=3:=by unfold nD;split<;>(dsimp only;omega)
theorem xT (chs:List Chg) (name:ByteArray) (x y:Int) (d:ByteArray):rA chs name x y d<=3:=by
 unfold rA;split
 ·exact lZ _ _
 ·exact zKE _ _ _
theorem xE (chs:List Chg) (name:ByteArray) (k x y:Int) (d:ByteArray):mK chs name k x y d<=3:=by
 unfold mK;split
 ·exact lZ _ _
 ·exact zLw _ _ _
theorem zMY (s:ByteArray):(qOf s).2.2.2<=4/\0<=(qOf s).1/\(qOf s).1<=999999:=by
 rcases vE s with⟨n,t,d,e,h,_⟩|⟨e,_⟩
 ·rw[e];have:=h.1;exact⟨by first|decide|(dsimp only;omega),by show(0:Int)<=(n:Int);omega,by show(n:Int)<=999999;omega⟩
 ·rw[e];exact⟨by first|decide|(dsimp only;omega),by first|decide|(dsimp only;omega),by first|decide|(dsimp only;omega)⟩
theorem lS (P:Rws) (chs:List Chg) (rds:Rws) (name:ByteArray):(aN P chs rds name).2.2.2<=5/\0<=(aN P chs rds name).1/\(aN P chs rds name).1<=999999:=by
 unfold aN;split
 ·split
  ·split
   ·have:=zMY (getP chs rds P (queB name)).1;exact⟨by omega,this.2⟩
   ·exact⟨by first|decide|(dsimp only;omega),by first|decide|(dsimp only;omega),by first|decide|(dsimp only;omega)⟩
  ·exact⟨Nat.le_trans (zAH chs rds P (queB name)) (by decide),by first|decide|(dsimp only;omega),by first|decide|(dsimp only;omega)⟩
 ·exact⟨by first|decide|(dsimp only;omega),by first|decide|(dsimp only;omega),by first|decide|(dsimp only;omega)⟩
theorem zHe (P:Rws) (chs:List Chg) (rds:Rws) (name:ByteArray) (tries:Int) (dead:ByteArray):(fD P chs rds name tries dead).1<=20:=by
 unfold fD;split
 ·split
  ·show 3<=20;decide
  ·split
   ·exact Nat.le_trans (xT ..) (by decide)
   ·split
    ·exact Nat.le_trans (xT ..) (by decide)
    ·exact Nat.le_trans (lS ..).1 (by decide)
 ·have:=(lS P chs rds name).1;show qK (aN P chs rds name).2.2.2<=20;unfold qK;split
  ·decide
  ·split
   ·decide
   ·omega
theorem zE4 (chs:List Chg) (name:ByteArray) (x y:Int) (d body:ByteArray) (u:Int) (h0:0<=x) (h1:x<=999999):(addQ chs name x y d body u).2.1<=8/\0<=(addQ chs name x y d body u).1/\(addQ chs name x y d body u).1<=999999:=by
 unfold addQ;split
 ·exact⟨by first|decide|(dsimp only;omega),by first|decide|(dsimp only;omega),by first|decide|(dsimp only;omega)⟩
 ·split
  ·exact⟨Nat.le_trans (xT ..) (by decide),h0,h1⟩
  ·exact⟨Nat.le_trans (xE ..) (by decide),by first|decide|(dsimp only;omega),by first|decide|(dsimp only;omega)⟩
theorem zLe (P:Rws) (chs:List Chg) (rds:Rws) (name body:ByteArray) (u:Int):(fN P chs rds name body u).2.1<=20/\0<=(fN P chs rds name body u).1/\(fN P chs rds name body u).1<=999999:=by
 have hf:=lS P chs rds name;have ha:=zE4 chs name (aN P chs rds name).1 (aN P chs rds name).2.1 (aN P chs rds name).2.2.1 body u hf.2.1 hf.2.2;unfold fN;split
 ·split
  ·split
   ·exact⟨by show 0<=20;decide,ha.2⟩
   ·exact⟨Nat.le_trans ha.1 (by decide),by first|decide|(dsimp only;omega),by first|decide|(dsimp only;omega)⟩
  ·exact⟨by show 1<=20;decide,by first|decide|(dsimp only;omega),by first|decide|(dsimp only;omega)⟩
 ·exact⟨Nat.le_trans hf.1 (by decide),by first|decide|(dsimp only;omega),by first|decide|(dsimp only;omega)⟩
theorem zAa (s:ByteArray) (k:Int):(mOf s k).2.2.2.2<=4/\(0<=(mOf s k).2.1/\(mOf s k).2.1<=9)/\(0<=(mOf s k).2.2.1/\(mOf s k).2.2.1<=2000000):=by
 rcases oB s k with⟨t,u,d,e,h,_⟩|⟨e,_⟩
 ·rw[e];have h1:=h.1;have h2:=h.2.1;exact⟨by show 0<=4;decide,⟨by show(0:Int)<=(t:Int);omega,by show(t:Int)<=9;omega⟩,by show(0:Int)<=(u:Int);omega,by show(u:Int)<=2000000;omega⟩
 ·rw[e];exact⟨by first|decide|(dsimp only;omega),⟨by first|decide|(dsimp only;omega),by first|decide|(dsimp only;omega)⟩,by first|decide|(dsimp only;omega),by first|decide|(dsimp only;omega)⟩
theorem zCK (P:Rws) (chs:List Chg) (rds:Rws) (name:ByteArray) (n tries:Int):(dQ P chs rds name n tries).1.2.2.2.2<=20:=by
 unfold dQ;split
 ·split
  ·show 1<=20;decide
  ·have:=zAH chs (bC chs rds name) P (msgB name (cP n));show(yH _ n tries).2.2.2.2<=20;generalize getP chs (bC chs rds name) P (msgB name (cP n))=t at *;have hm:=zAa t.1 n;unfold yH
   repeat' split
   all_goals first|(show 11<=20;decide)|(show(mOf t.1 n).2.2.2.2<=20;omega)|(show t.2.2<=20;omega)
 ·exact Nat.le_trans (lS ..).1 (by decide)
theorem zMr (P:Rws) (chs:List Chg) (rds:Rws) (name:ByteArray) (n tries:Int):(ackQ P chs rds name n tries).1<=20:=by
 unfold ackQ;split
 ·exact Nat.le_trans (lZ ..) (by decide)
 ·exact zCK ..
theorem zLi (P:Rws) (chs:List Chg) (rds:Rws) (name:ByteArray) (n tries u:Int):(iZ P chs rds name n tries u).1<=20:=by
 unfold iZ;split
 ·split
  ·exact Nat.le_trans (xE ..) (by decide)
  ·show 1<=20;decide
 ·exact zCK ..
def gU (m:Msg):Prop:=(-1000000<=m.1/\m.1<=1000000)/\(0<=m.2.1/\m.2.1<=20)/\(0<=m.2.2.1/\m.2.2.1<=2000000)/\m.2.2.2.2<=20/\m.2.2.2.1.size<=28
theorem gU.no {f:Nat} (h:f<=20):gU (noM f):=⟨⟨by simp,by simp⟩,⟨by simp,by simp⟩,⟨by simp,by simp⟩,h,by show(0:Nat)<=28;decide⟩
theorem zX:∀ (l:List UInt8) (acc n:Nat),Lib.decFrom acc l=some n->n<(acc+1)*10 ^ l.length
 | [],acc,n,h=>by
  simp only[Lib.decFrom,Option.some.injEq] at h;subst h;simp
 | b::r,acc,n,h=>by
  simp only[Lib.decFrom] at h
  cases hd:Lib.digitVal b with
  | none=>rw[hd] at h;cases h
  | some d=>
   rw[hd] at h;have h1:=zX r (acc*10+d) n h;have hd9:d<=9:=by
    unfold Lib.digitVal at hd;split at hd
    ·cases hd;omega
    ·cases hd
   rw[List.length_cons,Nat.pow_succ];have h2:(acc*10+d+1)<=(acc+1)*10:=by omega
   have h3:=Nat.mul_le_mul_right (10 ^ r.length) h2;have e:(acc+1)*(10 ^ r.length*10)=(acc+1)*10*10 ^ r.length:=by rw[Nat.mul_assoc,Nat.mul_comm 10]
   omega
theorem uI {l:List UInt8} {n:Nat} (h:Lib.decNat l=some n) (hl:l.length<=6):n<1000000:=by
 unfold Lib.decNat at h;split at h
 ·cases h
 ·have h1:=zX l 0 n h;have h2:10 ^ l.length<=10 ^ 6:=Nat.pow_le_pow_right (by decide) hl;have:(10:Nat) ^ 6=1000000:=rfl;omega
theorem zMm (k:ByteArray):-1000000<=numK k/\numK k<=1000000:=by
 unfold numK;have hl:(k.data.toList.drop (k.size-6)).length<=6:=by
  have:k.data.toList.length=k.size:=by rw[Array.length_toList];rfl
  rw[List.length_drop];omega
 generalize k.data.toList.drop (k.size-6)=l at *
 cases l with
 | nil=>decide
 | cons b r=>
  simp only[List.length_cons] at hl;simp only[Lib.atoi];split
  ·cases h:Lib.decNat r with
   | none=>simp
   | some n=>have:=uI h (by omega);simp;omega
  ·split
   ·cases h:Lib.decNat r with
    | none=>simp
    | some n=>have:=uI h (by omega);simp;omega
   ·cases h:Lib.decNat (b::r) with
    | none=>simp
    | some n=>have:=uI h (by simpa using hl);simp;omega
theorem zKb (s:ByteArray) (k:Int):(mOf s k).2.2.2.1.size<=28:=by
 rcases oB s k with⟨t,u,d,e,h,_⟩|⟨e,_⟩
 ·rw[e];exact h.2.2
 ·rw[e];show(0:Nat)<=28;decide
theorem zIF (s k:ByteArray):gU (mOf s (numK k)):=by
 have h1:=zAa s (numK k);have h2:=zMm k;refine⟨?_,⟨h1.2.1.1,by omega⟩,h1.2.2,by omega,zKb _ _⟩;rcases zE9 s (numK k) with e|e
 ·rw[e];exact h2
 ·rw[e];exact⟨by decide,by decide⟩
theorem zJb (L rds:Rws) (s:ByteArray×ByteArray):kT L rds s<=12:=by
 unfold kT;split
 ·split<;>decide
 ·exact Nat.le_trans (xG ..) (by decide)
theorem zJZ (P:Rws) (chs:List Chg) (rds:Rws) (key dead body:ByteArray):(iH P chs rds key dead body).1<=20:=by
 unfold iH;split
 ·split
  ·show 0<=20;decide
  ·have hf:=lS P (bG chs ⟨key,⟨#[]⟩,true⟩) rds dead;split
   ·exact Nat.le_trans (zE4 _ _ _ _ _ _ _ hf.2.1 hf.2.2).1 (by decide)
   ·exact Nat.le_trans hf.1 (by decide)
 ·exact Nat.le_trans (lZ ..) (by decide)
theorem zDM (P:Rws) (name:ByteArray) (tries:Int) (dead:ByteArray) (now u:Int) (hu0:0<=u) (hu1:u<=2000000):∀ (k:Nat) (chs:List Chg) (rds:Rws) (at_:ByteArray),gU (eO P name tries dead now u k chs rds at_).1
 | 0,chs,rds,at_=>gU.no (by decide)
 | k+1,chs,rds,at_=>by
  have ih:=zDM P name tries dead now u hu0 hu1 k;unfold eO;dsimp only;split
  ·have hm:=zIF (eE (aF P chs (at_,toB name)) rds (at_,toB name)).2 (eE (aF P chs (at_,toB name)) rds (at_,toB name)).1;have hm9:=zAa (eE (aF P chs (at_,toB name)) rds (at_,toB name)).2 (numK (eE (aF P chs (at_,toB name)) rds (at_,toB name)).1);split
   ·split
    ·exact ih _ _ _
    ·split
     ·have:=xE chs name (mOf (eE (aF P chs (at_,toB name)) rds (at_,toB name)).2 (numK (eE (aF P chs (at_,toB name)) rds (at_,toB name)).1)).1 ((mOf (eE (aF P chs (at_,toB name)) rds (at_,toB name)).2 (numK (eE (aF P chs (at_,toB name)) rds (at_,toB name)).1)).2.1+1) u (mOf (eE (aF P chs (at_,toB name)) rds (at_,toB name)).2 (numK (eE (aF P chs (at_,toB name)) rds (at_,toB name)).1)).2.2.2.1;refine⟨hm.1,⟨?_,?_⟩,⟨hu0,hu1⟩,?_,hm.2.2.2.2⟩
      ·show 0<=_+1;have:=hm.2.1;omega
      ·show _+1<=20;have:=hm9.2.1;omega
      ·exact Nat.le_trans this (by decide)
     ·split
      ·exact ih _ _ _
      ·exact gU.no (zJZ ..)
   ·exact gU.no hm.2.2.2.1
  ·exact gU.no (Nat.le_trans (zJb ..) (by decide))
theorem zE0 (P:Rws) (chs:List Chg) (rds:Rws) (name:ByteArray) (now long:Int):gU (dK P chs rds name now long).1:=by
 unfold dK;split
 ·split
  ·rename_i ht;have h1:=oW ht.1;have h2:=oW ht.2;have h3:=zDM P name (aN P chs rds name).2.1 (aN P chs rds name).2.2.1 now (now+long) (by omega) (by omega) 1000001 chs (bC chs rds name) (aZ name);split
   ·exact h3
   ·exact gU.no h3.2.2.2.1
  ·exact gU.no (by decide)
 ·exact gU.no (Nat.le_trans (lS ..).1 (by decide))
theorem xY (L rds:Rws) (s:ByteArray×ByteArray) (m:Int):dL L rds s m<=20:=by
 unfold dL;split
 ·decide
 ·exact Nat.le_trans (xG ..) (by decide)
theorem zDP:∀ (l:Rws),eN l<=20
 | []=>by unfold eN;decide
 | r::l=>by
  unfold eN;split
  ·exact zDP l
  ·have:=(zAa r.2 (numK r.1)).1;omega
theorem zCQ (P:Rws) (chs:List Chg) (rds:Rws) (name:ByteArray):(cY P chs rds name).1<=20/\(∀ m∈(cY P chs rds name).2.1,gU m)/\(cY P chs rds name).2.1.length<=1000:=by
 unfold cY;split
 ·split
  ·split
   ·refine⟨by show 0<=20;decide,fun m hm=>?_,by show(jQ _).length<=1000;unfold jQ;rw[List.length_map,List.length_take];omega⟩;obtain⟨r,_,rfl⟩:=List.mem_map.1 hm;exact zIF r.2 r.1
   ·exact⟨zDP _,(fun m hm=>by cases hm),Nat.zero_le _⟩
  ·exact⟨by dsimp only;exact xY ..,(fun m hm=>by cases hm),Nat.zero_le _⟩
 ·exact⟨Nat.le_trans (lS ..).1 (by decide),(fun m hm=>by cases hm),Nat.zero_le _⟩
def decZ (n:Int):ByteArray:=if n<0 then ⟨#[45]⟩++decB (-n).toNat else decB n.toNat
def eI (f:Nat):ByteArray:=⟨#[33]⟩++decB f
def msgT (m:Msg):ByteArray:=decZ m.1++⟨#[44]⟩++decZ m.2.1++⟨#[44]⟩++decZ m.2.2.1++⟨#[44]⟩++m.2.2.2.1
theorem lH {n:Nat} (h:n<=9999999):(decB n).size<=7:=by rw[Lib.size_eq,eM];exact eQ n h
theorem jY {n:Int} (h0:-9999999<=n) (h1:n<=9999999):(decZ n).size<=8:=by
 unfold decZ;split
 ·rw[ByteArray.size_append];have:=lH (n:=(-n).toNat) (by omega);show 1+_<=8;omega
 ·have:=lH (n:=n.toNat) (by omega);omega
theorem lA {f:Nat} (h:f<=20):(eI f).size<=8:=by
 unfold eI;rw[ByteArray.size_append];have:=lH (n:=f) (by omega);show 1+_<=8;omega
theorem uP {m:Msg} (h:gU m):(msgT m).size<=60:=by
 obtain⟨⟨a0,a1⟩,⟨b0,b1⟩,⟨c0,c1⟩,_,d⟩:=h;unfold msgT;simp only[ByteArray.size_append];have h1:=jY (n:=m.1) (by omega) (by omega);have h2:=jY (n:=m.2.1) (by omega) (by omega);have h3:=jY (n:=m.2.2.1) (by omega) (by omega);have e:(⟨#[44]⟩:ByteArray).size=1:=rfl;omega
def mG (l:List Msg):ByteArray:=l.foldl (fun t m=>t++msgT m++⟨#[59]⟩) ⟨#[]⟩
def iI (l:Rws):ByteArray:=l.foldl (fun t r=>t++r.1++⟨#[61]⟩++r.2++⟨#[59]⟩) ⟨#[]⟩
def lK (x:ActL):ByteArray×ByteArray:=match x.sps with
 | []=>(⟨#[]⟩,⟨#[]⟩)
 | s::_=>s
def isK (x:ActL) (l:List UInt8):Bool:=x.kind.toList==l
abbrev zMK:List UInt8:=[99,114,101,97,116,101]
abbrev zNb:List UInt8:=[115,101,110,100]
abbrev zLF:List UInt8:=[114,101,99,101,105,118,101]
abbrev kAck:List UInt8:=[97,99,107]
abbrev zNj:List UInt8:=[119,97,105,116]
abbrev kPut:List UInt8:=[112,117,116]
abbrev zMi:List UInt8:=[100,101,108,101,116,101]
abbrev kGet:List UInt8:=[103,101,116]
abbrev zHz:List UInt8:=[109,101,115,115,97,103,101,115]
theorem yC:∀ {l:List Msg},(∀ m∈l,gU m)->(mG l).size<=61*l.length:=by
 have aux:∀ (l:List Msg) (t:ByteArray),(∀ m∈l,gU m)->(l.foldl (fun t m=>t++msgT m++⟨#[59]⟩) t).size<=t.size+61*l.length:=by
  intro l
  induction l with
  | nil=>intro t _;simp
  | cons m l ih=>
   intro t h;rw[List.foldl_cons];have h1:=ih (t++msgT m++⟨#[59]⟩) fun x hx=>h x (List.mem_cons_of_mem _ hx);have h2:=uP (h m (List.mem_cons_self ..));simp only[ByteArray.size_append] at h1;have e:(⟨#[59]⟩:ByteArray).size=1:=rfl;rw[List.length_cons];omega
 intro l h;have:=aux l ⟨#[]⟩ h;have e:(⟨#[]⟩:ByteArray).size=0:=rfl;unfold mG;omega
theorem oN:∀ {l:Rws},(∀ r∈l,r.1.size<=60/\r.2.size<=40)->(iI l).size<=102*l.length:=by
 have aux:∀ (l:Rws) (t:ByteArray),(∀ r∈l,r.1.size<=60/\r.2.size<=40)->(l.foldl (fun t r=>t++r.1++⟨#[61]⟩++r.2++⟨#[59]⟩) t).size<=t.size+102*l.length:=by
  intro l
  induction l with
  | nil=>intro t _;simp
  | cons m l ih=>
   intro t h;rw[List.foldl_cons];have h1:=ih (t++m.1++⟨#[61]⟩++m.2++⟨#[59]⟩) fun x hx=>h x (List.mem_cons_of_mem _ hx);have h2:=h m (List.mem_cons_self ..);simp only[ByteArray.size_append] at h1;have e:(⟨#[59]⟩:ByteArray).size=1:=rfl;have e2:(⟨#[61]⟩:ByteArray).size=1:=rfl;rw[List.length_cons];omega
 intro l h;have:=aux l ⟨#[]⟩ h;have e:(⟨#[]⟩:ByteArray).size=0:=rfl;unfold iI;omega
def fY (P:Rws) (chs:List Chg) (rds:Rws) (x:ActL):ByteArray×List Chg×Rws:=
 if isK x zMK=true then (eI (fD P chs rds x.s x.a x.t).1,(fD P chs rds x.s x.a x.t).2)
 else if isK x zNb=true then (decZ (fN P chs rds x.s x.t x.a).1++eI (fN P chs rds x.s x.t x.a).2.1,(fN P chs rds x.s x.t x.a).2.2)
 else if isK x zLF=true then (msgT (dK P chs rds x.s x.a x.b).1++eI (dK P chs rds x.s x.a x.b).1.2.2.2.2,(dK P chs rds x.s x.a x.b).2)
 else if isK x kAck=true then (eI (ackQ P chs rds x.s x.a x.b).1,(ackQ P chs rds x.s x.a x.b).2)
 else if isK x zNj=true then (eI (iZ P chs rds x.s x.a x.b x.c).1,(iZ P chs rds x.s x.a x.b x.c).2)
 else if isK x kPut=true then (eI (cH chs ⟨x.s,x.t,false⟩),bG chs ⟨x.s,x.t,false⟩,rds)
 else if isK x zMi=true then (eI (cH chs ⟨x.s,⟨#[]⟩,true⟩),bG chs ⟨x.s,⟨#[]⟩,true⟩,rds)
 else if isK x kGet=true then ((if (getP chs rds P x.s).2.1=true then ⟨#[43]⟩++(getP chs rds P x.s).1 else (getP chs rds P x.s).1)++eI (getP chs rds P x.s).2.2,chs,getL chs rds x.s)
 else if isK x zHz=true then ((if (cY P chs rds x.s).1=0 then mG (cY P chs rds x.s).2.1 else ⟨#[]⟩)++eI (cY P chs rds x.s).1,chs,(cY P chs rds x.s).2.2)
 else ((if dL (aF P chs (lK x)) rds (lK x) x.a=0 then iI ((aF P chs (lK x)).take x.a.toNat) else ⟨#[]⟩)++eI (dL (aF P chs (lK x)) rds (lK x) x.a),chs,eP (aF P chs (lK x)) rds (lK x) x.a)
theorem zJT (n:Int):bits .and .i64 n 3=n % 4:=by
 have h3:(BitVec.ofInt 64 3).toNat=2 ^ 2-1:=by decide
 have key:(BitVec.ofInt 64 n &&& BitVec.ofInt 64 3).toNat=(n % ((2 ^ 64:Nat):Int)).toNat % 2 ^ 2:=by
  rw[BitVec.toNat_and,BitVec.toNat_ofInt,h3,Nat.and_two_pow_sub_one_eq_mod]
 show IntKind.i64.wrap ((BitVec.ofInt 64 n &&& BitVec.ofInt 64 3).toNat:Nat)=n % 4;rw[key,IntKind.wrap_i64];omega
def sesX (x:ActL):Nat:=(x.c % 4).toNat
theorem zFf (x:ActL):sesX x<4:=by unfold sesX;omega
theorem zL3 (x:ActL):bits .and .i64 x.c 3=(sesX x:Int):=by rw[zJT];unfold sesX;omega
abbrev kQ:List UInt8:=[98,101,103,105,110]
abbrev kZ:List UInt8:=[99,111,109,109,105,116]
abbrev rO:List UInt8:=[97,98,111,114,116]
abbrev rP:List UInt8:=[118,97,99,117,117,109]
abbrev zCp:List UInt8:=[115,97,118,101]
structure jR where
 at_:Nat
 reads:Bool
 acts:List ActL
 said:List ByteArray
def noD:jR:=⟨0,false,[],[]⟩
structure PSt where
 e:ESt
 cur:Nat->jR
 out:List jR
def setP (f:Nat->jR) (i:Nat) (d:jR):Nat->jR:=fun j=>if j=i then d else f j
theorem kN (f:Nat->jR) (i:Nat) (d:jR):setP f i d i=d:=if_pos rfl
theorem iY {f:Nat->jR} {i j:Nat} (d:jR) (h:j≠i):setP f i d j=f j:=if_neg h
def actE (s:ESt) (i:Nat) (v:VwL) (x:ActL):ESt:=jU s i v (fY v.P v.chs v.rds x).2.1 (fY v.P v.chs v.rds x).2.2
def plyP (p:PSt) (x:ActL):PSt:=
 let i:=sesX x
 if isK x kQ=true then (match p.e.ses i with
  | none=>⟨dX p.e i,setP p.cur i noD,p.out⟩
  | some _=>p)
 else if isK x kZ=true then (match p.e.ses i with
  | none=>p
  | some v=>if (comE p.e i).1.2=0 then ⟨(comE p.e i).2,setP p.cur i { p.cur i with at_:=(comE p.e i).1.1,reads:=v.chs.isEmpty },p.out++[{ p.cur i with at_:=(comE p.e i).1.1,reads:=v.chs.isEmpty }]⟩
   else ⟨(comE p.e i).2,p.cur,p.out⟩)
 else if isK x rO=true then ⟨(dS p.e i).2,p.cur,p.out⟩
 else if isK x rP=true then ⟨vacE p.e,p.cur,p.out⟩
 else if isK x zCp=true then ⟨chkE p.e,p.cur,p.out⟩
 else match p.e.ses i with
  | none=>p
  | some v=>⟨actE p.e i v x,setP p.cur i { p.cur i with acts:=(p.cur i).acts++[x],said:=(p.cur i).said++[(fY v.P v.chs v.rds x).1] },p.out⟩
def hO (s:ESt) (l:List ActL):PSt:=l.foldl plyP ⟨s,fun _=>noD,[]⟩
theorem zGw {s:ESt} {l:List ActL} {k:Nat} (hk:k<l.length):hO s (l.take (k+1))=plyP (hO s (l.take k)) l[k]:=by
 unfold hO;rw[List.take_succ_eq_append_getElem hk,List.foldl_append];rfl
end
end Go.Proofs.YtnboipekkahmnaaGreatDoor
