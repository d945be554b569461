import Derived.Test.YtnboipekkahmnaaGreatDoorT14
set_option maxHeartbeats 8000000
set_option maxRecDepth 100000
namespace Go.Proofs.YtnboipekkahmnaaGreatDoor
section
open Go.RowKit Go.Joins Go.Shelf
attribute [local go_sem ↓] Go.wp_at_zero Go.wp_at_succ
theorem zA9 {P:Rws} {chs:List Chg} {s r:ByteArray×ByteArray} (hp:bV P) (h:r∈aF P chs s):hasS s.1 s.2 r.1=true:=by
 unfold aF at h;rw[zFl chs hp s] at h;exact(List.mem_filter.1 h).2
structure mY (W:World) (b0 b1 b2:Nat) (qx tries:Int) (dead at_ to_:ByteArray):Prop where
 q0:W.cell? ⟨b0,0,none⟩=some (.int .i64 qx)
 q1:W.cell? ⟨b0,1,none⟩=some (.int .i64 tries)
 q2:W.cell? ⟨b0,2,none⟩=some (.string dead)
 r0:W.cell? ⟨b1,0,none⟩=some (.int .i64 0)
 r1:W.cell? ⟨b1,1,none⟩=some (.int .i64 0)
 r2:W.cell? ⟨b1,2,none⟩=some (.int .i64 0)
 r3:W.cell? ⟨b1,3,none⟩=some (.string ⟨#[]⟩)
 s0:W.cell? ⟨b2,0,none⟩=some (.string at_)
 s1:W.cell? ⟨b2,1,none⟩=some (.string to_)
theorem mY.keep {W W':World} {b0 b1 b2:Nat} {qx tries:Int} {dead at_ to_:ByteArray} (h:mY W b0 b1 b2 qx tries dead at_ to_) (hk:∀ b,(b=b0∨b=b1∨b=b2)->W'.heap[b]?=W.heap[b]?):mY W' b0 b1 b2 qx tries dead at_ to_:=
 have k0:W'.heap[b0]?=W.heap[b0]?:=hk b0 (.inl rfl);have k1:W'.heap[b1]?=W.heap[b1]?:=hk b1 (.inr (.inl rfl));have k2:W'.heap[b2]?=W.heap[b2]?:=hk b2 (.inr (.inr rfl))
 ⟨(World.cell?_of_block k0).trans h.q0,(World.cell?_of_block k0).trans h.q1,(World.cell?_of_block k0).trans h.q2,(World.cell?_of_block k1).trans h.r0,(World.cell?_of_block k1).trans h.r1,(World.cell?_of_block k1).trans h.r2,(World.cell?_of_block k1).trans h.r3,(World.cell?_of_block k2).trans h.s0,(World.cell?_of_block k2).trans h.s1⟩
theorem mY.on {W W':World} {b0 b1 b2:Nat} {qx tries:Int} {dead at_ to_:ByteArray} (h:mY W b0 b1 b2 qx tries dead at_ to_) (hb:Below W.heap.size W W'):mY W' b0 b1 b2 qx tries dead at_ to_:=
 ⟨aA hb h.q0,aA hb h.q1,aA hb h.q2,aA hb h.r0,aA hb h.r1,aA hb h.r2,aA hb h.r3,aA hb h.s0,aA hb h.s1⟩
theorem mY.next {W:World} {b0 b1 b2:Nat} {qx tries:Int} {dead at_ to_:ByteArray} (h:mY W b0 b1 b2 qx tries dead at_ to_) (h0:b0≠b2) (h1:b1≠b2) (v:ByteArray):mY (W.setCell ⟨b2,0,none⟩ (.string v)) b0 b1 b2 qx tries dead v to_:=by
 have far:∀ (b j:Nat),b≠b2->(W.setCell ⟨b2,0,none⟩ (.string v)).cell? ⟨b,j,none⟩=W.cell? ⟨b,j,none⟩:=fun b j hb=>World.cell?_setCell_other _ _ _ _ (fun e=>hb (congrArg Addr.block e).symm);exact⟨(far _ _ h0).trans h.q0,(far _ _ h0).trans h.q1,(far _ _ h0).trans h.q2,(far _ _ h1).trans h.r0,(far _ _ h1).trans h.r1,(far _ _ h1).trans h.r2,(far _ _ h1).trans h.r3,World.cell?_setCell_same _ _ _ h.s0,(World.cell?_setCell_other _ _ _ _ (fun e=>by cases e)).trans h.s1⟩
def zNe (b0 b1 b2:Nat) (b:Nat):Prop:=b=b0∨b=b1∨b=b2
def zLG (w W:World) (B wb b0 b1 b2:Nat) (S:Nat->Prop) (P:Rws) (since:Sn) (name:ByteArray) (qx tries:Int) (dead:ByteArray) (now until_:Int) (R:Msg×List Chg×Rws) (k:Nat):Prop:=
 ∃ S' chs rds at_,OwnQ w W B wb (zNe b0 b1 b2) S S' P since chs rds/\AtQ name k at_/\eO P name tries dead now until_ k chs rds at_=R/\mY W b0 b1 b2 qx tries dead at_ (toB name)
theorem zHu (name:ByteArray) (qx tries:Int) (dead:ByteArray) (now until_:Int) {B wb:Nat} {S:Nat->Prop} {P:Rws} {since:Sn} {chs:List Chg} {rds:Rws} (w:World) (h:QV w B wb S P since chs rds) (hn:bK name.data.toList=true) (hd:dead.size<=1000) (ht:tries<=9):
  Calls Tryz.prog 118 #[.pointer (some ⟨wb,0,none⟩),.string name,.agg #[.int .i64 qx,.int .i64 tries,.string dead],.int .i64 now,.int .i64 until_] w fun e w'=>e=.returned (.tuple #[mV (eO P name tries dead now until_ 1000001 chs rds (aZ name)).1,errV (eO P name tries dead now until_ 1000001 chs rds (aZ name)).1.2.2.2.2])/\ActQ w w' B wb S P since (eO P name tries dead now until_ 1000001 chs rds (aZ name)).2.1 (eO P name tries dead now until_ 1000001 chs rds (aZ name)).2.2:=by
 have n1:=bM 114;have hns:=zBk hn;have HLO:=hide h.pv.lo;have HN:=hide hn;have HOa:=hide ((OwnQ.start h).box #[Value.int .i64 qx,Value.int .i64 tries,Value.string dead] 145);have HOb:=hide (HOa.out.box #[Value.int .i64 0,Value.int .i64 0,Value.int .i64 0,Value.string ⟨#[]⟩] 99);have hb2:=below_alloc1 (w.alloc (Obj.cells #[.int .i64 qx,.int .i64 tries,.string dead] 145)) (Obj.cells #[.int .i64 0,.int .i64 0,.int .i64 0,.string ⟨#[]⟩] 99);have q0:=aA hb2 (aC w #[Value.int .i64 qx,Value.int .i64 tries,Value.string dead] 145 0);have q1:=aA hb2 (aC w #[Value.int .i64 qx,Value.int .i64 tries,Value.string dead] 145 1);have q2:=aA hb2 (aC w #[Value.int .i64 qx,Value.int .i64 tries,Value.string dead] 145 2);have r0:((w.alloc (Obj.cells #[.int .i64 qx,.int .i64 tries,.string dead] 145)).alloc (Obj.cells #[.int .i64 0,.int .i64 0,.int .i64 0,.string ⟨#[]⟩] 99)).cell? ⟨w.heap.size+1,0,none⟩=some (.int .i64 0):=by simp
 have r1:((w.alloc (Obj.cells #[.int .i64 qx,.int .i64 tries,.string dead] 145)).alloc (Obj.cells #[.int .i64 0,.int .i64 0,.int .i64 0,.string ⟨#[]⟩] 99)).cell? ⟨w.heap.size+1,1,none⟩=some (.int .i64 0):=by simp
 have r2:((w.alloc (Obj.cells #[.int .i64 qx,.int .i64 tries,.string dead] 145)).alloc (Obj.cells #[.int .i64 0,.int .i64 0,.int .i64 0,.string ⟨#[]⟩] 99)).cell? ⟨w.heap.size+1,2,none⟩=some (.int .i64 0):=by simp
 have r3:((w.alloc (Obj.cells #[.int .i64 qx,.int .i64 tries,.string dead] 145)).alloc (Obj.cells #[.int .i64 0,.int .i64 0,.int .i64 0,.string ⟨#[]⟩] 99)).cell? ⟨w.heap.size+1,3,none⟩=some (.string ⟨#[]⟩):=by simp
 have hz:(w.alloc (Obj.cells #[.int .i64 qx,.int .i64 tries,.string dead] 145)).heap.size=w.heap.size+1:=by simp
 rw[hz] at HOb;clear h hn HOa hb2 hz;generalize hR0:eO P name tries dead now until_ 1000001 chs rds (aZ name)=R;have HR0:=hide hR0;clear hR0;go_enter Tryz.func118,Tryz.ntmps118;go_wp2_with (first
  | (go_at_call 157;refine(pM name _ (by omega)).mono ?_;rintro e w1 ⟨rfl,hb1⟩;have HNE:Hid (w.heap.size≠w1.heap.size/\w.heap.size+1≠w1.heap.size):=hide (by have:=hb1.size;simp at this;omega);have HO1:=hide ((HOb.out.on hb1).box #[Value.string (aZ name),Value.string (toB name)] 80);have hb3:=below_alloc1 w1 (Obj.cells #[.string (aZ name),.string (toB name)] 80);have HC:=hide (mY.mk (aA hb3 (aA hb1 q0)) (aA hb3 (aA hb1 q1)) (aA hb3 (aA hb1 q2)) (aA hb3 (aA hb1 r0)) (aA hb3 (aA hb1 r1)) (aA hb3 (aA hb1 r2)) (aA hb3 (aA hb1 r3)) (aC w1 #[Value.string (aZ name),Value.string (toB name)] 80 0) (aC w1 #[Value.string (aZ name),Value.string (toB name)] 80 1));clear q0 q1 q2 r0 r1 r2 r3 HOb hb1 hb3)
  | fail)
 have HI:Hid (zLG w (w1.alloc (Obj.cells #[.string (aZ name),.string (toB name)] 80)) B wb w.heap.size (w.heap.size+1) w1.heap.size S P since name qx tries dead now until_ R 1000001):=hide ⟨S,chs,rds,aZ name,HO1.out.less (fun b hb=>by rcases hb with rfl|rfl|rfl;exact .inr (.inr (.inl rfl));exact .inr (.inl rfl);exact .inl rfl),.inl ⟨rfl,Nat.le_refl _⟩,HR0.out,HC.out⟩;clear HR0 HO1 HC;generalize (w1.alloc (Obj.cells #[.string (aZ name),.string (toB name)] 80))=W0 at *;generalize w1.heap.size=b2 at *
 go_loopg [] 1000001 (fun k wr=>zLG w wr B wb w.heap.size (w.heap.size+1) b2 S P since name qx tries dead now until_ R k)
 case atStart=>exact HI.out
 case round=>
  clear HI;obtain⟨S',chs,rds,at_,ho,hat,hR,hC⟩:=hrel;obtain⟨k,rfl⟩:∃ k,gk=k+1:=⟨gk-1,by have:=hat.pos;omega⟩;have HF:=hide (zGg (at_,toB name) wr ho.qv);have HK:Hid (kT (aF P chs (at_,toB name)) rds (at_,toB name)=0->∃ n,n<=999999/\(eE (aF P chs (at_,toB name)) rds (at_,toB name)).1=msgB name n/\AtQ name k (cX (eE (aF P chs (at_,toB name)) rds (at_,toB name)).1)/\(eE (aF P chs (at_,toB name)) rds (at_,toB name)).2.size<=40):=hide (fun hf=>by
   have hm:=zKK hf;obtain⟨h1,h2⟩:=tB ho.qv.ok (at_,toB name) _ hm;obtain⟨n,hn,e,ha⟩:=hat.next HN.out h1 (zA9 ho.qv.pv.ok.rise hm);exact⟨n,hn,e,ha,h2⟩)
  rw[eO] at hR;dsimp only at hR HF;generalize rR (aF P chs (at_,toB name)) rds (at_,toB name)=rds1 at *;generalize kT (aF P chs (at_,toB name)) rds (at_,toB name)=f at *;generalize eE (aF P chs (at_,toB name)) rds (at_,toB name)=r at *;obtain⟨rk,rv⟩:=r;have HO:=hide ho;have HC:=hide hC;clear ho hat;have c:=hC;obtain⟨q0,q1,q2,r0,r1,r2,r3,s0,s1⟩:=hC;by_cases hf:f=0
  ·subst hf;rw[if_pos rfl] at hR;obtain⟨n,hn9,hrk,hat,hrv⟩:=HK.out rfl;dsimp only at hrk hat hrv;have HP:Hid (∀ W:World,(∀ W',Below W.heap.size W W'->Laid W')->Calls Tryz.prog 158 #[.agg #[.string rk,.string rv]] W fun e w'=>e=.returned (.tuple #[mV (mOf rv n),errV (mOf rv n).2.2.2.2])/\Below W.heap.size W w'):=hide (by rw[hrk];exact fun W hL=>yN name n rv W (by omega) hn9 (by omega) hL);have hnk:numK rk=n:=by rw[hrk];exact zDT name hn9
   have hrs:rk.size<=1000:=by rw[hrk,pS];omega
   rw[hnk] at hR;have HMF:Hid ((mOf rv n).2.2.2.2=0->(mOf rv n).1=n/\0<=(mOf rv n).2.1/\(mOf rv n).2.1<=9):=hide (fun he=>by
    rcases oB rv n with⟨t,u,d,e,hm,_⟩|⟨e,_⟩
    ·rw[e];exact⟨rfl,Int.natCast_nonneg _,by have:=hm.1;show(t:Int)<=9;omega⟩
    ·rw[e] at he;cases he)
   have HE1:=hide bX;have HAT:=hide hat;clear hnk hrk hat HK hrv;generalize mOf rv n=m at *;obtain⟨mk,mt,mu,md,em⟩:=m;dsimp only at hR HP HMF;by_cases hem:em=0
   ·subst hem;rw[if_pos rfl] at hR;have HEM:=hide bX;obtain⟨hmk,hmt0,hmt9⟩:=HMF.out rfl;generalize hn':(n:Int)=nn at *;subst hmk;have hmk0:0<=mk:=by omega
    have hmk1:mk<=999999:=by omega
    clear hn';clear HMF;by_cases hu:now<mu
    ·rw[if_pos hu] at hR;have HR:=hide hR;have d1:decide (now<mu)=true:=by simpa using hu
     clear hR hu;go_wp2_with (fail)
     go_at_call 175
     refine HF.out.mono ?_;rintro e w2 ⟨rfl,ha⟩;obtain⟨S2,ho2,kp⟩:=HO.out.act ha;have hbR:=below_alloc1 w2 (Obj.cells #[.string rk,.string rv] 165);have HC1:=hide (HC.out.keep kp);have HC2:=hide (HC1.out.on hbR);clear q0 q1 q2 r0 r1 r2 r3 s0 s1;obtain⟨q0,q1,q2,r0,r1,r2,r3,s0,s1⟩:=HC2.out;have hlt2:=(ho2.ow b2 (.inr (.inr rfl))).2.2.1;have hne:w2.heap.size≠b2:=by omega
     have fz2:=((ho2.on hbR).ow b2 (.inr (.inr rfl))).2.2.2;have hz2:(w2.setCell ⟨b2,0,none⟩ (.string (rk++⟨#[0]⟩))).heap.size=w2.heap.size:=by simp
     have HO3:=hide ((ho2.set HLO.out (b:=b2) (.inr (.inr rfl)) 0 (.string (rk++⟨#[0]⟩))).box #[Value.string rk,Value.string rv] 165);rw[hz2] at HO3;have HC3:=hide ((HC1.out.next HNE.out.1 HNE.out.2 (rk++⟨#[0]⟩)).on (below_alloc1 _ (Obj.cells #[.string rk,.string rv] 165)));have u0:((w2.setCell ⟨b2,0,none⟩ (.string (rk++⟨#[0]⟩))).alloc (Obj.cells #[.string rk,.string rv] 165)).cell? ⟨w2.heap.size,0,none⟩=some (.string rk):=by rw[<-hz2]<;>exact aC _ _ _ 0
     have u1:((w2.setCell ⟨b2,0,none⟩ (.string (rk++⟨#[0]⟩))).alloc (Obj.cells #[.string rk,.string rv] 165)).cell? ⟨w2.heap.size,1,none⟩=some (.string rv):=by rw[<-hz2]<;>exact aC _ _ _ 1
     clear ha ho2 kp hbR hz2;rw[HE1.out];go_wp2_with (fail)
     go_at_call 158
     refine(HP.out _ (fun W' hW'=>HO3.out.qv.la W' (hW'.mono HO3.out.qv.pv.lo))).mono ?_;rintro e w4 ⟨rfl,hb4⟩;have hbM:=below_alloc1 w4 (Obj.cells #[.int .i64 mk,.int .i64 mt,.int .i64 mu,.string md] 99);have HO3b:=hide (HO3.out.on hb4);have HC3b:=hide (HC3.out.on hb4);have HO4:=hide (HO3b.out.box #[Value.int .i64 mk,Value.int .i64 mt,Value.int .i64 mu,Value.string md] 99);have HC4:=hide (HC3b.out.on hbM);clear q0 q1 q2 r0 r1 r2 r3 s0 s1;obtain⟨q0,q1,q2,r0,r1,r2,r3,s0,s1⟩:=HC4.out;replace u0:=aA hbM (aA hb4 u0);replace u1:=aA hbM (aA hb4 u1);have fz1:=(HO4.out.ow (w.heap.size+1) (.inr (.inr (.inr (.inl rfl))))).2.2.2;have fzm:=(HO4.out.ow w4.heap.size (.inl rfl)).2.2.2;clear fz2 hb4 hbM;rw[HEM.out];go_wp2_with (fail)
     go_roundg k
     case measure=>omega
     case rel=>exact⟨S2,chs,rds1,cX rk,HO4.out.less (fun b hb=>.inr (.inr hb)),HAT.out,HR.out,HC4.out⟩
    ·rw[if_neg hu] at hR;have d1:decide (now<mu)=false:=by simpa using hu
     clear hu;by_cases hmt:mt<tries
     ·rw[if_pos hmt] at hR;have d2:decide (mt<tries)=true:=by simpa using hmt
      have hw1:IntKind.i64.wrap (mt+1)=mt+1:=by rw[IntKind.wrap_i64];omega
      have HPM:=hide (fun (S1:Nat->Prop) W (hW:QV W B wb S1 P since chs rds1)=>mI name mk (mt+1) until_ md W hW (by omega) (by omega) (by omega));subst hR;clear hmt;go_wp2_with (fail)
      go_at_call 175
      refine HF.out.mono ?_;rintro e w2 ⟨rfl,ha⟩;obtain⟨S2,ho2,kp⟩:=HO.out.act ha;have hbR:=below_alloc1 w2 (Obj.cells #[.string rk,.string rv] 165);have HC1:=hide (HC.out.keep kp);have HC2:=hide (HC1.out.on hbR);clear q0 q1 q2 r0 r1 r2 r3 s0 s1;obtain⟨q0,q1,q2,r0,r1,r2,r3,s0,s1⟩:=HC2.out;have hlt2:=(ho2.ow b2 (.inr (.inr rfl))).2.2.1;have hne:w2.heap.size≠b2:=by omega
      have fz2:=((ho2.on hbR).ow b2 (.inr (.inr rfl))).2.2.2;have hz2:(w2.setCell ⟨b2,0,none⟩ (.string (rk++⟨#[0]⟩))).heap.size=w2.heap.size:=by simp
      have HO3:=hide ((ho2.set HLO.out (b:=b2) (.inr (.inr rfl)) 0 (.string (rk++⟨#[0]⟩))).box #[Value.string rk,Value.string rv] 165);rw[hz2] at HO3;have HC3:=hide ((HC1.out.next HNE.out.1 HNE.out.2 (rk++⟨#[0]⟩)).on (below_alloc1 _ (Obj.cells #[.string rk,.string rv] 165)));have u0:((w2.setCell ⟨b2,0,none⟩ (.string (rk++⟨#[0]⟩))).alloc (Obj.cells #[.string rk,.string rv] 165)).cell? ⟨w2.heap.size,0,none⟩=some (.string rk):=by rw[<-hz2]<;>exact aC _ _ _ 0
      have u1:((w2.setCell ⟨b2,0,none⟩ (.string (rk++⟨#[0]⟩))).alloc (Obj.cells #[.string rk,.string rv] 165)).cell? ⟨w2.heap.size,1,none⟩=some (.string rv):=by rw[<-hz2]<;>exact aC _ _ _ 1
      clear ha ho2 kp hbR hz2;rw[HE1.out];go_wp2_with (fail)
      go_at_call 158
      refine(HP.out _ (fun W' hW'=>HO3.out.qv.la W' (hW'.mono HO3.out.qv.pv.lo))).mono ?_;rintro e w4 ⟨rfl,hb4⟩;have hbM:=below_alloc1 w4 (Obj.cells #[.int .i64 mk,.int .i64 mt,.int .i64 mu,.string md] 99);have HO3b:=hide (HO3.out.on hb4);have HC3b:=hide (HC3.out.on hb4);have HO4:=hide (HO3b.out.box #[Value.int .i64 mk,Value.int .i64 mt,Value.int .i64 mu,Value.string md] 99);have HC4:=hide (HC3b.out.on hbM);clear q0 q1 q2 r0 r1 r2 r3 s0 s1;obtain⟨q0,q1,q2,r0,r1,r2,r3,s0,s1⟩:=HC4.out;replace u0:=aA hbM (aA hb4 u0);replace u1:=aA hbM (aA hb4 u1);have fz1:=(HO4.out.ow (w.heap.size+1) (.inr (.inr (.inr (.inl rfl))))).2.2.2;have fzm:=(HO4.out.ow w4.heap.size (.inl rfl)).2.2.2;clear fz2 hb4 hbM;rw[HEM.out];go_wp2_with (fail)
      have HO5:=hide (HO3b.out.box #[Value.int .i64 mk,Value.int .i64 (mt+1),Value.int .i64 until_,Value.string md] 99);have HC5:=hide (HC3b.out.on (below_alloc1 w4 (Obj.cells #[.int .i64 mk,.int .i64 (mt+1),.int .i64 until_,.string md] 99)));have v0:=aC w4 #[Value.int .i64 mk,Value.int .i64 (mt+1),Value.int .i64 until_,Value.string md] 99 0;have v1:=aC w4 #[Value.int .i64 mk,Value.int .i64 (mt+1),Value.int .i64 until_,Value.string md] 99 1;have v2:=aC w4 #[Value.int .i64 mk,Value.int .i64 (mt+1),Value.int .i64 until_,Value.string md] 99 2;have v3:=aC w4 #[Value.int .i64 mk,Value.int .i64 (mt+1),Value.int .i64 until_,Value.string md] 99 3;clear q0 q1 q2 r0 r1 r2 r3 s0 s1 u0 u1 fz1 fzm;obtain⟨q0,q1,q2,r0,r1,r2,r3,s0,s1⟩:=HC5.out;have fz1:=(HO5.out.ow (w.heap.size+1) (.inr (.inr (.inr (.inl rfl))))).2.2.2;have hb1:=(HO5.out.ow (w.heap.size+1) (.inr (.inr (.inr (.inl rfl))))).2.2.1;have hbm:=(HO5.out.ow w4.heap.size (.inl rfl)).2.2.1;clear HC4 HO4 HC3b HO3b;generalize (w4.alloc (Obj.cells #[.int .i64 mk,.int .i64 (mt+1),.int .i64 until_,.string md] 99))=W5 at *;generalize w4.heap.size=mb at *;clear q0 q1 q2 s0 s1
      go_region_with (first
       | (go_at_call 148;refine(HPM.out _ _ (HO5.out.qv.on (Below.refl _ _).drew)).mono ?_;rintro e w6 ⟨rfl,ha⟩;obtain⟨S6,ho6,kp6⟩:=(HO5.out.on (Below.refl _ _).drew).act ha;have v0':w6.cell? ⟨mb,0,none⟩=_:=(World.cell?_of_block (kp6 mb (.inl rfl))).trans v0;have v1':w6.cell? ⟨mb,1,none⟩=_:=(World.cell?_of_block (kp6 mb (.inl rfl))).trans v1;have v2':w6.cell? ⟨mb,2,none⟩=_:=(World.cell?_of_block (kp6 mb (.inl rfl))).trans v2;have v3':w6.cell? ⟨mb,3,none⟩=_:=(World.cell?_of_block (kp6 mb (.inl rfl))).trans v3;have r0':w6.cell? ⟨w.heap.size+1,0,none⟩=_:=(World.cell?_of_block (kp6 (w.heap.size+1) (.inr (.inr (.inr (.inl rfl)))))).trans r0;have r1':w6.cell? ⟨w.heap.size+1,1,none⟩=_:=(World.cell?_of_block (kp6 (w.heap.size+1) (.inr (.inr (.inr (.inl rfl)))))).trans r1;have r2':w6.cell? ⟨w.heap.size+1,2,none⟩=_:=(World.cell?_of_block (kp6 (w.heap.size+1) (.inr (.inr (.inr (.inl rfl)))))).trans r2;have r3':w6.cell? ⟨w.heap.size+1,3,none⟩=_:=(World.cell?_of_block (kp6 (w.heap.size+1) (.inr (.inr (.inr (.inl rfl)))))).trans r3;have fz6:=(ho6.ow (w.heap.size+1) (.inr (.inr (.inr (.inl rfl))))).2.2.2;have HO6:=hide ho6;clear ha ho6 kp6)
       | fail)
      all_goals
       go_wp2;exact bodyPost_ret (v:=.tuple #[mV (mk,mt+1,until_,md,mK chs name mk (mt+1) until_ md),errV (mK chs name mk (mt+1) until_ md)]) (by simp[results,Tryz.results118,go_sem,r0',r1',r2',r3']) rfl ⟨rfl,((((HO6.out.set HLO.out (b:=w.heap.size+1) (.inr (.inr (.inr (.inl rfl)))) 0 _).set HLO.out (b:=w.heap.size+1) (.inr (.inr (.inr (.inl rfl)))) 1 _).set HLO.out (b:=w.heap.size+1) (.inr (.inr (.inr (.inl rfl)))) 2 _).set HLO.out (b:=w.heap.size+1) (.inr (.inr (.inr (.inl rfl)))) 3 _).done⟩
     ·rw[if_neg hmt] at hR;have d2:decide (mt<tries)=false:=by simpa using hmt
      have HBU:=hide (fun (S1:Nat->Prop) W (hW:QV W B wb S1 P since chs rds1)=>zJh rk dead md W hW (by unfold maxLen;omega) hd);clear hmt;generalize iH P chs rds1 rk dead md=bq at *;obtain⟨bf,bchs,brds⟩:=bq;dsimp only at hR HBU;by_cases hbf:bf=0
      ·subst hbf;rw[if_pos rfl] at hR;have HR:=hide hR;have HEB:=hide bX;clear hR;go_wp2_with (fail)
       go_at_call 175
       refine HF.out.mono ?_;rintro e w2 ⟨rfl,ha⟩;obtain⟨S2,ho2,kp⟩:=HO.out.act ha;have hbR:=below_alloc1 w2 (Obj.cells #[.string rk,.string rv] 165);have HC1:=hide (HC.out.keep kp);have HC2:=hide (HC1.out.on hbR);clear q0 q1 q2 r0 r1 r2 r3 s0 s1;obtain⟨q0,q1,q2,r0,r1,r2,r3,s0,s1⟩:=HC2.out;have hlt2:=(ho2.ow b2 (.inr (.inr rfl))).2.2.1;have hne:w2.heap.size≠b2:=by omega
       have fz2:=((ho2.on hbR).ow b2 (.inr (.inr rfl))).2.2.2;have hz2:(w2.setCell ⟨b2,0,none⟩ (.string (rk++⟨#[0]⟩))).heap.size=w2.heap.size:=by simp
       have HO3:=hide ((ho2.set HLO.out (b:=b2) (.inr (.inr rfl)) 0 (.string (rk++⟨#[0]⟩))).box #[Value.string rk,Value.string rv] 165);rw[hz2] at HO3;have HC3:=hide ((HC1.out.next HNE.out.1 HNE.out.2 (rk++⟨#[0]⟩)).on (below_alloc1 _ (Obj.cells #[.string rk,.string rv] 165)));have u0:((w2.setCell ⟨b2,0,none⟩ (.string (rk++⟨#[0]⟩))).alloc (Obj.cells #[.string rk,.string rv] 165)).cell? ⟨w2.heap.size,0,none⟩=some (.string rk):=by rw[<-hz2]<;>exact aC _ _ _ 0
       have u1:((w2.setCell ⟨b2,0,none⟩ (.string (rk++⟨#[0]⟩))).alloc (Obj.cells #[.string rk,.string rv] 165)).cell? ⟨w2.heap.size,1,none⟩=some (.string rv):=by rw[<-hz2]<;>exact aC _ _ _ 1
       clear ha ho2 kp hbR hz2;rw[HE1.out];go_wp2_with (fail)
       go_at_call 158
       refine(HP.out _ (fun W' hW'=>HO3.out.qv.la W' (hW'.mono HO3.out.qv.pv.lo))).mono ?_;rintro e w4 ⟨rfl,hb4⟩;have hbM:=below_alloc1 w4 (Obj.cells #[.int .i64 mk,.int .i64 mt,.int .i64 mu,.string md] 99);have HO3b:=hide (HO3.out.on hb4);have HC3b:=hide (HC3.out.on hb4);have HO4:=hide (HO3b.out.box #[Value.int .i64 mk,Value.int .i64 mt,Value.int .i64 mu,Value.string md] 99);have HC4:=hide (HC3b.out.on hbM);clear q0 q1 q2 r0 r1 r2 r3 s0 s1;obtain⟨q0,q1,q2,r0,r1,r2,r3,s0,s1⟩:=HC4.out;replace u0:=aA hbM (aA hb4 u0);replace u1:=aA hbM (aA hb4 u1);have fz1:=(HO4.out.ow (w.heap.size+1) (.inr (.inr (.inr (.inl rfl))))).2.2.2;have fzm:=(HO4.out.ow w4.heap.size (.inl rfl)).2.2.2;clear fz2 hb4 hbM;rw[HEM.out];go_wp2_with (fail)
       go_at_call 176
       refine(HBU.out _ _ HO4.out.qv).mono ?_;rintro e w6 ⟨rfl,ha⟩;obtain⟨S6,ho6,kp6⟩:=HO4.out.act ha;have HO6:=hide ho6;have HC6:=hide (HC4.out.keep fun b hb=>kp6 b (.inr (.inr hb)));clear q0 q1 q2 r0 r1 r2 r3 s0 s1 u0 u1 fz1 fzm;obtain⟨q0,q1,q2,r0,r1,r2,r3,s0,s1⟩:=HC6.out;have fz1:=(HO6.out.ow (w.heap.size+1) (.inr (.inr (.inr (.inl rfl))))).2.2.2;clear ha ho6 kp6;rw[HEB.out];go_wp2_with (fail)
       go_roundg k
       case measure=>omega
       case rel=>exact⟨S6,bchs,brds,cX rk,HO6.out.less (fun b hb=>.inr (.inr hb)),HAT.out,HR.out,HC6.out⟩
      ·rw[if_neg hbf] at hR;subst hR;have HEB:=hide (bJ hbf);clear hbf;go_wp2_with (fail)
       go_at_call 175
       refine HF.out.mono ?_;rintro e w2 ⟨rfl,ha⟩;obtain⟨S2,ho2,kp⟩:=HO.out.act ha;have hbR:=below_alloc1 w2 (Obj.cells #[.string rk,.string rv] 165);have HC1:=hide (HC.out.keep kp);have HC2:=hide (HC1.out.on hbR);clear q0 q1 q2 r0 r1 r2 r3 s0 s1;obtain⟨q0,q1,q2,r0,r1,r2,r3,s0,s1⟩:=HC2.out;have hlt2:=(ho2.ow b2 (.inr (.inr rfl))).2.2.1;have hne:w2.heap.size≠b2:=by omega
       have fz2:=((ho2.on hbR).ow b2 (.inr (.inr rfl))).2.2.2;have hz2:(w2.setCell ⟨b2,0,none⟩ (.string (rk++⟨#[0]⟩))).heap.size=w2.heap.size:=by simp
       have HO3:=hide ((ho2.set HLO.out (b:=b2) (.inr (.inr rfl)) 0 (.string (rk++⟨#[0]⟩))).box #[Value.string rk,Value.string rv] 165);rw[hz2] at HO3;have HC3:=hide ((HC1.out.next HNE.out.1 HNE.out.2 (rk++⟨#[0]⟩)).on (below_alloc1 _ (Obj.cells #[.string rk,.string rv] 165)));have u0:((w2.setCell ⟨b2,0,none⟩ (.string (rk++⟨#[0]⟩))).alloc (Obj.cells #[.string rk,.string rv] 165)).cell? ⟨w2.heap.size,0,none⟩=some (.string rk):=by rw[<-hz2]<;>exact aC _ _ _ 0
       have u1:((w2.setCell ⟨b2,0,none⟩ (.string (rk++⟨#[0]⟩))).alloc (Obj.cells #[.string rk,.string rv] 165)).cell? ⟨w2.heap.size,1,none⟩=some (.string rv):=by rw[<-hz2]<;>exact aC _ _ _ 1
       clear ha ho2 kp hbR hz2;rw[HE1.out];go_wp2_with (fail)
       go_at_call 158
       refine(HP.out _ (fun W' hW'=>HO3.out.qv.la W' (hW'.mono HO3.out.qv.pv.lo))).mono ?_;rintro e w4 ⟨rfl,hb4⟩;have hbM:=below_alloc1 w4 (Obj.cells #[.int .i64 mk,.int .i64 mt,.int .i64 mu,.string md] 99);have HO3b:=hide (HO3.out.on hb4);have HC3b:=hide (HC3.out.on hb4);have HO4:=hide (HO3b.out.box #[Value.int .i64 mk,Value.int .i64 mt,Value.int .i64 mu,Value.string md] 99);have HC4:=hide (HC3b.out.on hbM);clear q0 q1 q2 r0 r1 r2 r3 s0 s1;obtain⟨q0,q1,q2,r0,r1,r2,r3,s0,s1⟩:=HC4.out;replace u0:=aA hbM (aA hb4 u0);replace u1:=aA hbM (aA hb4 u1);have fz1:=(HO4.out.ow (w.heap.size+1) (.inr (.inr (.inr (.inl rfl))))).2.2.2;have fzm:=(HO4.out.ow w4.heap.size (.inl rfl)).2.2.2;clear fz2 hb4 hbM;rw[HEM.out];go_wp2_with (fail)
       go_at_call 176
       refine(HBU.out _ _ HO4.out.qv).mono ?_;rintro e w6 ⟨rfl,ha⟩;obtain⟨S6,ho6,kp6⟩:=HO4.out.act ha;have HO6:=hide ho6;have HC6:=hide (HC4.out.keep fun b hb=>kp6 b (.inr (.inr hb)));clear q0 q1 q2 r0 r1 r2 r3 s0 s1 u0 u1 fz1 fzm;obtain⟨q0,q1,q2,r0,r1,r2,r3,s0,s1⟩:=HC6.out;have fz1:=(HO6.out.ow (w.heap.size+1) (.inr (.inr (.inr (.inl rfl))))).2.2.2;clear ha ho6 kp6;rw[HEB.out];go_wp2_with (fail)
       exact bodyPost_ret (v:=.tuple #[mV (noM bf),errV bf]) (by simp[results,Tryz.results118,go_sem,r0,r1,r2,r3,HEB.out]) rfl ⟨rfl,((((HO6.out.set HLO.out (b:=w.heap.size+1) (.inr (.inr (.inr (.inl rfl)))) 0 _).set HLO.out (b:=w.heap.size+1) (.inr (.inr (.inr (.inl rfl)))) 1 _).set HLO.out (b:=w.heap.size+1) (.inr (.inr (.inr (.inl rfl)))) 2 _).set HLO.out (b:=w.heap.size+1) (.inr (.inr (.inr (.inl rfl)))) 3 _).done⟩
   ·rw[if_neg hem] at hR;subst hR;have HEM:=hide (bJ hem);clear hem HMF;go_wp2_with (fail)
    go_at_call 175
    refine HF.out.mono ?_;rintro e w2 ⟨rfl,ha⟩;obtain⟨S2,ho2,kp⟩:=HO.out.act ha;have hbR:=below_alloc1 w2 (Obj.cells #[.string rk,.string rv] 165);have HC1:=hide (HC.out.keep kp);have HC2:=hide (HC1.out.on hbR);clear q0 q1 q2 r0 r1 r2 r3 s0 s1;obtain⟨q0,q1,q2,r0,r1,r2,r3,s0,s1⟩:=HC2.out;have hlt2:=(ho2.ow b2 (.inr (.inr rfl))).2.2.1;have hne:w2.heap.size≠b2:=by omega
    have fz2:=((ho2.on hbR).ow b2 (.inr (.inr rfl))).2.2.2;have hz2:(w2.setCell ⟨b2,0,none⟩ (.string (rk++⟨#[0]⟩))).heap.size=w2.heap.size:=by simp
    have HO3:=hide ((ho2.set HLO.out (b:=b2) (.inr (.inr rfl)) 0 (.string (rk++⟨#[0]⟩))).box #[Value.string rk,Value.string rv] 165);rw[hz2] at HO3;have HC3:=hide ((HC1.out.next HNE.out.1 HNE.out.2 (rk++⟨#[0]⟩)).on (below_alloc1 _ (Obj.cells #[.string rk,.string rv] 165)));have u0:((w2.setCell ⟨b2,0,none⟩ (.string (rk++⟨#[0]⟩))).alloc (Obj.cells #[.string rk,.string rv] 165)).cell? ⟨w2.heap.size,0,none⟩=some (.string rk):=by rw[<-hz2]<;>exact aC _ _ _ 0
    have u1:((w2.setCell ⟨b2,0,none⟩ (.string (rk++⟨#[0]⟩))).alloc (Obj.cells #[.string rk,.string rv] 165)).cell? ⟨w2.heap.size,1,none⟩=some (.string rv):=by rw[<-hz2]<;>exact aC _ _ _ 1
    clear ha ho2 kp hbR hz2;rw[HE1.out];go_wp2_with (fail)
    go_at_call 158
    refine(HP.out _ (fun W' hW'=>HO3.out.qv.la W' (hW'.mono HO3.out.qv.pv.lo))).mono ?_;rintro e w4 ⟨rfl,hb4⟩;have hbM:=below_alloc1 w4 (Obj.cells #[.int .i64 mk,.int .i64 mt,.int .i64 mu,.string md] 99);have HO3b:=hide (HO3.out.on hb4);have HC3b:=hide (HC3.out.on hb4);have HO4:=hide (HO3b.out.box #[Value.int .i64 mk,Value.int .i64 mt,Value.int .i64 mu,Value.string md] 99);have HC4:=hide (HC3b.out.on hbM);clear q0 q1 q2 r0 r1 r2 r3 s0 s1;obtain⟨q0,q1,q2,r0,r1,r2,r3,s0,s1⟩:=HC4.out;replace u0:=aA hbM (aA hb4 u0);replace u1:=aA hbM (aA hb4 u1);have fz1:=(HO4.out.ow (w.heap.size+1) (.inr (.inr (.inr (.inl rfl))))).2.2.2;have fzm:=(HO4.out.ow w4.heap.size (.inl rfl)).2.2.2;clear fz2 hb4 hbM;rw[HEM.out];go_wp2_with (fail)
    exact bodyPost_ret (v:=.tuple #[mV (noM em),errV em]) (by simp[results,Tryz.results118,go_sem,r0,r1,r2,r3,HEM.out]) rfl ⟨rfl,((((HO4.out.set HLO.out (b:=w.heap.size+1) (.inr (.inr (.inr (.inl rfl)))) 0 _).set HLO.out (b:=w.heap.size+1) (.inr (.inr (.inr (.inl rfl)))) 1 _).set HLO.out (b:=w.heap.size+1) (.inr (.inr (.inr (.inl rfl)))) 2 _).set HLO.out (b:=w.heap.size+1) (.inr (.inr (.inr (.inl rfl)))) 3 _).done⟩
  ·rw[if_neg hf] at hR;subst hR;have HE:=hide (bJ hf);clear hf HK c q0 q1 q2 r0 r1 r2 r3;go_wp2_with (first
    | (go_at_call 175;refine HF.out.mono ?_;rintro e w2 ⟨rfl,ha⟩;obtain⟨S2,ho2,kp⟩:=HO.out.act ha;have hbR:=below_alloc1 w2 (Obj.cells #[.string rk,.string rv] 165);have HO2:=hide (ho2.on hbR);have HC2:=hide ((HC.out.keep kp).on hbR);clear s0 s1;obtain⟨q0,q1,q2,r0,r1,r2,r3,s0,s1⟩:=HC2.out;have fz1:=(HO2.out.ow (w.heap.size+1) (.inr (.inl rfl))).2.2.2;clear ha ho2 kp hbR;rw[HE.out])
    | fail)
   exact bodyPost_ret (v:=.tuple #[mV (noM f),errV f]) (by simp[results,Tryz.results118,go_sem,r0,r1,r2,r3,HE.out]) rfl ⟨rfl,((((HO2.out.set HLO.out (b:=w.heap.size+1) (.inr (.inl rfl)) 0 _).set HLO.out (b:=w.heap.size+1) (.inr (.inl rfl)) 1 _).set HLO.out (b:=w.heap.size+1) (.inr (.inl rfl)) 2 _).set HLO.out (b:=w.heap.size+1) (.inr (.inl rfl)) 3 _).done⟩
theorem zEU {a0 a1 a2 a3 a4:Value} {m:Msg} {chs':List Chg} {rds':Rws} {B wb:Nat} {S:Nat->Prop} {P:Rws} {since:Sn} {chs:List Chg} {rds:Rws} (w:World) (h:QV w B wb S P since chs rds)
  (hc:∀ W,Below w.heap.size w W->Calls Tryz.prog 117 #[a0,a1,a2,a3,a4] W fun e w'=>e=.returned (.tuple #[mV m,errV m.2.2.2.2])/\ActQ W w' B wb S P since chs' rds'):
  Calls Tryz.prog 116 #[.pointer (some ⟨wb,0,none⟩),.func (.func 117) #[] #[a0,a1,a2,a3,a4]] w fun e w'=>e=.returned (.tuple #[mV (if m.2.2.2.2=0 then m else noM m.2.2.2.2),errV m.2.2.2.2])/\ActQ w w' B wb S P since (if m.2.2.2.2=0 then chs' else chs) rds':=by
 have n1:=bM 114;have HQ:=hide h;have HC:=hide hc;have HLO:=hide h.pv.lo;have hbR:=below_alloc1 w (Obj.cells #[.int .i64 0,.int .i64 0,.int .i64 0,.string ⟨#[]⟩] 99);have HX:=hide (BoxQ.start h #[Value.int .i64 0,Value.int .i64 0,Value.int .i64 0,Value.string ⟨#[]⟩] 99);have HBR:=hide hbR;have HMK:=hide (zFs _ HX.out.qv.pv);have r0:(w.alloc (Obj.cells #[.int .i64 0,.int .i64 0,.int .i64 0,.string ⟨#[]⟩] 99)).cell? ⟨w.heap.size,0,none⟩=some (Value.int .i64 0):=by simp
 have r1:(w.alloc (Obj.cells #[.int .i64 0,.int .i64 0,.int .i64 0,.string ⟨#[]⟩] 99)).cell? ⟨w.heap.size,1,none⟩=some (Value.int .i64 0):=by simp
 have r2:(w.alloc (Obj.cells #[.int .i64 0,.int .i64 0,.int .i64 0,.string ⟨#[]⟩] 99)).cell? ⟨w.heap.size,2,none⟩=some (Value.int .i64 0):=by simp
 have r3:(w.alloc (Obj.cells #[.int .i64 0,.int .i64 0,.int .i64 0,.string ⟨#[]⟩] 99)).cell? ⟨w.heap.size,3,none⟩=some (Value.string ⟨#[]⟩):=by simp
 obtain⟨mk,mt,mu,md,em⟩:=m;dsimp only at HC ⊢;clear h hc hbR;by_cases hf:em=0
 ·subst hf;rw[if_pos rfl,if_pos rfl];go_enter Tryz.func116,Tryz.ntmps116;go_wp2_with (first
   | (go_at_call 173;refine HMK.out.mono ?_;rintro e w1 ⟨mv,rfl,ho,hb1⟩;obtain⟨ma1,mc1,hmv,_,_⟩:=qP ho;subst hmv;have HB1:=hide hb1;have HX1:=hide (HX.out.on hb1);replace r0:=aA hb1 r0;replace r1:=aA hb1 r1;replace r2:=aA hb1 r2;replace r3:=aA hb1 r3;clear ho hb1)
   | (go_at_call 117;refine(HC.out _ (aB HBR.out (Nat.le_refl _) HB1.out)).mono ?_;rintro e w2 ⟨rfl,ha⟩;obtain⟨S2,hx2,eb⟩:=HX1.out.act ha;have hbA:=below_alloc1 w2 (Obj.cells #[.int .i64 mk,.int .i64 mt,.int .i64 mu,.string md] 99);have HX2:=hide (hx2.on hbA);have fz:=HX2.out.fz;replace r0:=aA hbA ((World.cell?_of_block eb).trans r0);replace r1:=aA hbA ((World.cell?_of_block eb).trans r1);replace r2:=aA hbA ((World.cell?_of_block eb).trans r2);replace r3:=aA hbA ((World.cell?_of_block eb).trans r3);clear ha hx2 eb hbA;rw[bX])
   | fail)
  exact bodyPost_ret (v:=.tuple #[mV (mk,mt,mu,md,0),errV 0]) (by simp[errV,results,Tryz.results116,go_sem,r0,r1,r2,r3]) rfl ⟨rfl,((((HX2.out.set HLO.out 0 _).set HLO.out 1 _).set HLO.out 2 _).set HLO.out 3 _).done⟩
 ·rw[if_neg hf,if_neg hf];have HE:=hide (bJ hf);clear hf;go_enter Tryz.func116,Tryz.ntmps116;go_wp2_with (first
   | (go_at_call 173;refine HMK.out.mono ?_;rintro e w1 ⟨mv,rfl,ho,hb1⟩;obtain⟨ma1,mc1,hmv,_,_⟩:=qP ho;subst hmv;have HB1:=hide hb1;have HO:=hide ho;have HX1:=hide (HX.out.on hb1);replace r0:=aA hb1 r0;replace r1:=aA hb1 r1;replace r2:=aA hb1 r2;replace r3:=aA hb1 r3;clear ho hb1)
   | (go_at_call 117;refine(HC.out _ (aB HBR.out (Nat.le_refl _) HB1.out)).mono ?_;rintro e w2 ⟨rfl,ha⟩;obtain⟨S2,hq2,hs2⟩:=ha;have HO2:=hide (aI HO.out fun k e=>((HX.out.qv.new hs2 (World.ownsRow.lt HO.out k e).1 (World.ownsRow.lt HO.out k e).2).1));obtain⟨hx2,eb⟩:=HX1.out.go hq2 hs2;have hbA:=below_alloc1 w2 (Obj.cells #[.int .i64 mk,.int .i64 mt,.int .i64 mu,.string md] 99);have HX2:=hide (hx2.on hbA);have HO3:=hide (bQ HO2.out hbA);replace r0:=aA hbA ((World.cell?_of_block eb).trans r0);replace r1:=aA hbA ((World.cell?_of_block eb).trans r1);replace r2:=aA hbA ((World.cell?_of_block eb).trans r2);replace r3:=aA hbA ((World.cell?_of_block eb).trans r3);clear hq2 hs2 hx2 eb hbA;rw[HE.out])
   | (go_at_call 174;refine(zFb _ HX2.out.qv HO3.out HQ.out.pv.ok.cn HQ.out.pv.ok.ck HQ.out.pv.ok.cr HQ.out.ok).mono ?_;rintro e w3 ⟨rfl,ha⟩;obtain⟨S3,hx3,eb⟩:=HX2.out.act ha;have hbA:=below_alloc1 w3 (Obj.cells #[.int .i64 0,.int .i64 0,.int .i64 0,.string ⟨#[]⟩] 99);have HX3:=hide (hx3.on hbA);have fz:=HX3.out.fz;replace r0:=aA hbA ((World.cell?_of_block eb).trans r0);replace r1:=aA hbA ((World.cell?_of_block eb).trans r1);replace r2:=aA hbA ((World.cell?_of_block eb).trans r2);replace r3:=aA hbA ((World.cell?_of_block eb).trans r3);clear ha hx3 eb hbA)
   | fail)
  exact bodyPost_ret (v:=.tuple #[mV (noM em),errV em]) (by simp[results,Tryz.results116,go_sem,r0,r1,r2,r3,HE.out]) rfl ⟨rfl,((((HX3.out.set HLO.out 0 _).set HLO.out 1 _).set HLO.out 2 _).set HLO.out 3 _).done⟩
theorem zEC (pb nb qb ob lb:Nat) (name:ByteArray) (qx tries:Int) (dead:ByteArray) (now long:Int) {B wb:Nat} {S:Nat->Prop} {P:Rws} {since:Sn} {chs:List Chg} {rds:Rws} (w:World) (h:QV w B wb S P since chs rds) (hn:bK name.data.toList=true) (hd:dead.size<=1000) (ht:tries<=9) (h0:0<=now) (h1:now<=1000000) (h2:0<=long) (h3:long<=1000000)
  (c0:w.cell? ⟨pb,0,none⟩=some (.pointer (some ⟨wb,0,none⟩))) (c1:w.cell? ⟨nb,0,none⟩=some (.string name)) (c2:w.cell? ⟨qb,0,none⟩=some (.int .i64 qx)) (c3:w.cell? ⟨qb,1,none⟩=some (.int .i64 tries)) (c4:w.cell? ⟨qb,2,none⟩=some (.string dead)) (c5:w.cell? ⟨ob,0,none⟩=some (.int .i64 now)) (c6:w.cell? ⟨lb,0,none⟩=some (.int .i64 long)):
  Calls Tryz.prog 117 #[.pointer (some ⟨pb,0,none⟩),.pointer (some ⟨nb,0,none⟩),.pointer (some ⟨qb,0,none⟩),.pointer (some ⟨ob,0,none⟩),.pointer (some ⟨lb,0,none⟩)] w fun e w'=>e=.returned (.tuple #[mV (eO P name tries dead now (now+long) 1000001 chs rds (aZ name)).1,errV (eO P name tries dead now (now+long) 1000001 chs rds (aZ name)).1.2.2.2.2])/\ActQ w w' B wb S P since (eO P name tries dead now (now+long) 1000001 chs rds (aZ name)).2.1 (eO P name tries dead now (now+long) 1000001 chs rds (aZ name)).2.2:=by
 have HX:=hide (BoxQ.start h #[Value.int .i64 0,Value.int .i64 0,Value.int .i64 0,Value.string ⟨#[]⟩] 99);have HLO:=hide h.pv.lo;have hbA:=below_alloc1 w (Obj.cells #[.int .i64 0,.int .i64 0,.int .i64 0,.string ⟨#[]⟩] 99);replace c0:=aA hbA c0;replace c1:=aA hbA c1;replace c2:=aA hbA c2;replace c3:=aA hbA c3;replace c4:=aA hbA c4;replace c5:=aA hbA c5;replace c6:=aA hbA c6;have r0:(w.alloc (Obj.cells #[.int .i64 0,.int .i64 0,.int .i64 0,.string ⟨#[]⟩] 99)).cell? ⟨w.heap.size,0,none⟩=some (Value.int .i64 0):=by simp
 have r1:(w.alloc (Obj.cells #[.int .i64 0,.int .i64 0,.int .i64 0,.string ⟨#[]⟩] 99)).cell? ⟨w.heap.size,1,none⟩=some (Value.int .i64 0):=by simp
 have r2:(w.alloc (Obj.cells #[.int .i64 0,.int .i64 0,.int .i64 0,.string ⟨#[]⟩] 99)).cell? ⟨w.heap.size,2,none⟩=some (Value.int .i64 0):=by simp
 have r3:(w.alloc (Obj.cells #[.int .i64 0,.int .i64 0,.int .i64 0,.string ⟨#[]⟩] 99)).cell? ⟨w.heap.size,3,none⟩=some (Value.string ⟨#[]⟩):=by simp
 have hw1:IntKind.i64.wrap (now+long)=now+long:=by rw[IntKind.wrap_i64];omega
 have HT:=hide (zHu name qx tries dead now (now+long) _ HX.out.qv hn hd ht);clear h hbA hn;generalize eO P name tries dead now (now+long) 1000001 chs rds (aZ name)=r at *;obtain⟨⟨mk,mt,mu,md,em⟩,chs1,rds1⟩:=r;dsimp only at HT ⊢;go_enter Tryz.func117,Tryz.ntmps117;go_wp2_with (first
  | (go_at_call 118;refine HT.out.mono ?_;rintro e w1 ⟨rfl,ha⟩;obtain⟨S1,hx1,eb⟩:=HX.out.act ha;have fz:=hx1.fz;replace r0:=(World.cell?_of_block eb).trans r0;replace r1:=(World.cell?_of_block eb).trans r1;replace r2:=(World.cell?_of_block eb).trans r2;replace r3:=(World.cell?_of_block eb).trans r3;have HX1:=hide hx1;clear ha hx1 eb c0 c1 c2 c3 c4 c5 c6)
  | fail)
 exact bodyPost_ret (v:=.tuple #[mV (mk,mt,mu,md,em),errV em]) (by simp[results,Tryz.results117,go_sem,r0,r1,r2,r3]) rfl ⟨rfl,((((HX1.out.set HLO.out 0 _).set HLO.out 1 _).set HLO.out 2 _).set HLO.out 3 _).done⟩
theorem oW {n:Int} (h:fC n=true):0<=n/\n<=1000000:=by unfold fC at h;rw[Bool.and_eq_true,decide_eq_true_eq,decide_eq_true_eq] at h;exact h
def zLK (s b:Nat):Prop:=s<=b/\b<s+5
theorem zCy (name:ByteArray) (now long:Int) {B wb:Nat} {S:Nat->Prop} {P:Rws} {since:Sn} {chs:List Chg} {rds:Rws} (w:World) (h:QV w B wb S P since chs rds) (hn:name.size<=1000):
  Calls Tryz.prog 50 #[.pointer (some ⟨wb,0,none⟩),.string name,.int .i64 now,.int .i64 long] w fun e w'=>e=.returned (.tuple #[mV (dK P chs rds name now long).1,errV (dK P chs rds name now long).1.2.2.2.2])/\ActQ w w' B wb S P since (dK P chs rds name now long).2.1 (dK P chs rds name now long).2.2:=by
 have n1:=bM 114;have hmf:∀ (fn:Fn) (first cap:Array Value) (w:World),(Instr.makeFunc fn first cap).run Tryz.prog w=.ok (.func fn first cap) w:=fun _ _ _ _=>rfl;have HLO:=hide h.pv.lo;have HFO:=hide (fun h=>xJ (P:=P) (chs:=chs) (rds:=rds) (name:=name) h);have HFN:Hid ((aN P chs rds name).2.2.2=0->bK name.data.toList=true):=hide (fun he=>by unfold aN at he;split at he;assumption;cases he);have z1:(w.alloc (Obj.cells #[.pointer (some ⟨wb,0,none⟩)] 59)).heap.size=w.heap.size+1:=by simp
 have z2:((w.alloc (Obj.cells #[.pointer (some ⟨wb,0,none⟩)] 59)).alloc (Obj.cells #[.string name] 9)).heap.size=w.heap.size+1+1:=by simp
 have z3:(((w.alloc (Obj.cells #[.pointer (some ⟨wb,0,none⟩)] 59)).alloc (Obj.cells #[.string name] 9)).alloc (Obj.cells #[.int .i64 now] 3)).heap.size=w.heap.size+1+1+1:=by simp
 have z4:((((w.alloc (Obj.cells #[.pointer (some ⟨wb,0,none⟩)] 59)).alloc (Obj.cells #[.string name] 9)).alloc (Obj.cells #[.int .i64 now] 3)).alloc (Obj.cells #[.int .i64 long] 3)).heap.size=w.heap.size+1+1+1+1:=by simp
 have z5:(((((w.alloc (Obj.cells #[.pointer (some ⟨wb,0,none⟩)] 59)).alloc (Obj.cells #[.string name] 9)).alloc (Obj.cells #[.int .i64 now] 3)).alloc (Obj.cells #[.int .i64 long] 3)).alloc (Obj.cells #[.int .i64 0,.int .i64 0,.int .i64 0,.string ⟨#[]⟩] 99)).heap.size=w.heap.size+1+1+1+1+1:=by simp
 have HOx:=hide (((((OwnQ.start h).box #[Value.pointer (some ⟨wb,0,none⟩)] 59).box #[Value.string name] 9).box #[Value.int .i64 now] 3).box #[Value.int .i64 long] 3 |>.box #[Value.int .i64 0,Value.int .i64 0,Value.int .i64 0,Value.string ⟨#[]⟩] 99);rw[z1,z2,z3,z4] at HOx;have HO:=hide (HOx.out.less (O':=zLK w.heap.size) (fun b hb=>by unfold zLK at hb;show b=w.heap.size+1+1+1+1∨b=w.heap.size+1+1+1∨b=w.heap.size+1+1∨b=w.heap.size+1∨b=w.heap.size∨False;omega));have hb1:=below_alloc1 w (Obj.cells #[.pointer (some ⟨wb,0,none⟩)] 59);have hb2:=below_alloc1 (w.alloc (Obj.cells #[.pointer (some ⟨wb,0,none⟩)] 59)) (Obj.cells #[.string name] 9);have hb3:=below_alloc1 ((w.alloc (Obj.cells #[.pointer (some ⟨wb,0,none⟩)] 59)).alloc (Obj.cells #[.string name] 9)) (Obj.cells #[.int .i64 now] 3);have hb4:=below_alloc1 (((w.alloc (Obj.cells #[.pointer (some ⟨wb,0,none⟩)] 59)).alloc (Obj.cells #[.string name] 9)).alloc (Obj.cells #[.int .i64 now] 3)) (Obj.cells #[.int .i64 long] 3);have hb5:=below_alloc1 ((((w.alloc (Obj.cells #[.pointer (some ⟨wb,0,none⟩)] 59)).alloc (Obj.cells #[.string name] 9)).alloc (Obj.cells #[.int .i64 now] 3)).alloc (Obj.cells #[.int .i64 long] 3)) (Obj.cells #[.int .i64 0,.int .i64 0,.int .i64 0,.string ⟨#[]⟩] 99);have c0:(((((w.alloc (Obj.cells #[.pointer (some ⟨wb,0,none⟩)] 59)).alloc (Obj.cells #[.string name] 9)).alloc (Obj.cells #[.int .i64 now] 3)).alloc (Obj.cells #[.int .i64 long] 3)).alloc (Obj.cells #[.int .i64 0,.int .i64 0,.int .i64 0,.string ⟨#[]⟩] 99)).cell? ⟨w.heap.size,0,none⟩=some (.pointer (some ⟨wb,0,none⟩)):=(aA hb5 (aA hb4 (aA hb3 (aA hb2 (aC w _ _ 0)))));have c1:(((((w.alloc (Obj.cells #[.pointer (some ⟨wb,0,none⟩)] 59)).alloc (Obj.cells #[.string name] 9)).alloc (Obj.cells #[.int .i64 now] 3)).alloc (Obj.cells #[.int .i64 long] 3)).alloc (Obj.cells #[.int .i64 0,.int .i64 0,.int .i64 0,.string ⟨#[]⟩] 99)).cell? ⟨w.heap.size+1,0,none⟩=some (.string name):=(aA hb5 (aA hb4 (aA hb3 (by rw[<-z1];exact aC _ _ _ 0))));have c2:(((((w.alloc (Obj.cells #[.pointer (some ⟨wb,0,none⟩)] 59)).alloc (Obj.cells #[.string name] 9)).alloc (Obj.cells #[.int .i64 now] 3)).alloc (Obj.cells #[.int .i64 long] 3)).alloc (Obj.cells #[.int .i64 0,.int .i64 0,.int .i64 0,.string ⟨#[]⟩] 99)).cell? ⟨w.heap.size+1+1,0,none⟩=some (.int .i64 now):=(aA hb5 (aA hb4 (by rw[<-z2];exact aC _ _ _ 0)));have c3:(((((w.alloc (Obj.cells #[.pointer (some ⟨wb,0,none⟩)] 59)).alloc (Obj.cells #[.string name] 9)).alloc (Obj.cells #[.int .i64 now] 3)).alloc (Obj.cells #[.int .i64 long] 3)).alloc (Obj.cells #[.int .i64 0,.int .i64 0,.int .i64 0,.string ⟨#[]⟩] 99)).cell? ⟨w.heap.size+1+1+1,0,none⟩=some (.int .i64 long):=(aA hb5 (by rw[<-z3];exact aC _ _ _ 0));have r0:(((((w.alloc (Obj.cells #[.pointer (some ⟨wb,0,none⟩)] 59)).alloc (Obj.cells #[.string name] 9)).alloc (Obj.cells #[.int .i64 now] 3)).alloc (Obj.cells #[.int .i64 long] 3)).alloc (Obj.cells #[.int .i64 0,.int .i64 0,.int .i64 0,.string ⟨#[]⟩] 99)).cell? ⟨w.heap.size+1+1+1+1,0,none⟩=some (.int .i64 0):=(by rw[<-z4];exact aC _ _ _ 0);have r1:(((((w.alloc (Obj.cells #[.pointer (some ⟨wb,0,none⟩)] 59)).alloc (Obj.cells #[.string name] 9)).alloc (Obj.cells #[.int .i64 now] 3)).alloc (Obj.cells #[.int .i64 long] 3)).alloc (Obj.cells #[.int .i64 0,.int .i64 0,.int .i64 0,.string ⟨#[]⟩] 99)).cell? ⟨w.heap.size+1+1+1+1,1,none⟩=some (.int .i64 0):=(by rw[<-z4];exact aC _ _ _ 1);have r2:(((((w.alloc (Obj.cells #[.pointer (some ⟨wb,0,none⟩)] 59)).alloc (Obj.cells #[.string name] 9)).alloc (Obj.cells #[.int .i64 now] 3)).alloc (Obj.cells #[.int .i64 long] 3)).alloc (Obj.cells #[.int .i64 0,.int .i64 0,.int .i64 0,.string ⟨#[]⟩] 99)).cell? ⟨w.heap.size+1+1+1+1,2,none⟩=some (.int .i64 0):=(by rw[<-z4];exact aC _ _ _ 2);have r3:(((((w.alloc (Obj.cells #[.pointer (some ⟨wb,0,none⟩)] 59)).alloc (Obj.cells #[.string name] 9)).alloc (Obj.cells #[.int .i64 now] 3)).alloc (Obj.cells #[.int .i64 long] 3)).alloc (Obj.cells #[.int .i64 0,.int .i64 0,.int .i64 0,.string ⟨#[]⟩] 99)).cell? ⟨w.heap.size+1+1+1+1,3,none⟩=some (.string ⟨#[]⟩):=(by rw[<-z4];exact aC _ _ _ 3);have HF:=hide (kK name _ HO.out.qv hn);clear h HOx hb1 hb2 hb3 hb4 hb5 z1 z2 z3 z4 z5;unfold dK;generalize aN P chs rds name=q at *;generalize bC chs rds name=rds1 at *;obtain⟨qx,qy,qd,er⟩:=q;dsimp only at HF HFO HFN ⊢;by_cases h1:er=0
 ·subst h1;rw[if_pos rfl];obtain⟨hx0,hx1,hd6,hy0,hy9⟩:=HFO.out rfl;have hnm:=HFN.out rfl;have HE1:=hide bX;clear HFO HFN;by_cases ht:fC now=true/\fC long=true
  ·rw[if_pos ht];obtain⟨ht1,ht2⟩:=ht;obtain⟨t0,t1⟩:=oW ht1;obtain⟨t2,t3⟩:=oW ht2;have HT1:=hide ht1;have HT2:=hide ht2;have HNM:=hide hnm;clear ht1 ht2 hnm;have HWH:=hide (fun (W0:World) (S1:Nat->Prop) (hQ:QV W0 B wb S1 P since chs rds1) (qb:Nat) (e0:W0.cell? ⟨w.heap.size,0,none⟩=some (.pointer (some ⟨wb,0,none⟩))) (e1:W0.cell? ⟨w.heap.size+1,0,none⟩=some (.string name)) (e2:W0.cell? ⟨qb,0,none⟩=some (.int .i64 qx)) (e3:W0.cell? ⟨qb,1,none⟩=some (.int .i64 qy)) (e4:W0.cell? ⟨qb,2,none⟩=some (.string qd)) (e5:W0.cell? ⟨w.heap.size+1+1,0,none⟩=some (.int .i64 now)) (e6:W0.cell? ⟨w.heap.size+1+1+1,0,none⟩=some (.int .i64 long))=>zEU W0 hQ (fun W hb=>zEC w.heap.size (w.heap.size+1) qb (w.heap.size+1+1) (w.heap.size+1+1+1) name qx qy qd now long W (hQ.on hb) HNM.out (by omega) hy9 t0 t1 t2 t3 (aA hb e0) (aA hb e1) (aA hb e2) (aA hb e3) (aA hb e4) (aA hb e5) (aA hb e6)));generalize eO P name qy qd now (now+long) 1000001 chs rds1 (aZ name)=r at *;obtain⟨⟨mk,mt,mu,md,em⟩,chs2,rds2⟩:=r;dsimp only at HWH ⊢;by_cases hz:em=0
   ·subst hz;rw[if_pos rfl];simp only[if_true] at HWH;go_enter Tryz.func50,Tryz.ntmps50;go_wp2_with (first
     | (go_at_call 83;refine HF.out.mono ?_;rintro e w1 ⟨rfl,ha⟩;obtain⟨S1,ho1,kp⟩:=HO.out.act ha;have hbQ:=below_alloc1 w1 (Obj.cells #[.int .i64 qx,.int .i64 qy,.string qd] 145);have HO1:=hide (ho1.on hbQ);replace c0:=aA hbQ ((World.cell?_of_block (kp (w.heap.size) ⟨by omega,by omega⟩)).trans c0);replace c1:=aA hbQ ((World.cell?_of_block (kp (w.heap.size+1) ⟨by omega,by omega⟩)).trans c1);replace c2:=aA hbQ ((World.cell?_of_block (kp (w.heap.size+1+1) ⟨by omega,by omega⟩)).trans c2);replace c3:=aA hbQ ((World.cell?_of_block (kp (w.heap.size+1+1+1) ⟨by omega,by omega⟩)).trans c3);replace r0:=aA hbQ ((World.cell?_of_block (kp (w.heap.size+1+1+1+1) ⟨by omega,by omega⟩)).trans r0);replace r1:=aA hbQ ((World.cell?_of_block (kp (w.heap.size+1+1+1+1) ⟨by omega,by omega⟩)).trans r1);replace r2:=aA hbQ ((World.cell?_of_block (kp (w.heap.size+1+1+1+1) ⟨by omega,by omega⟩)).trans r2);replace r3:=aA hbQ ((World.cell?_of_block (kp (w.heap.size+1+1+1+1) ⟨by omega,by omega⟩)).trans r3);have fz:=(HO1.out.ow (w.heap.size+1+1+1+1) ⟨by omega,by omega⟩).2.2.2;clear ha ho1 kp hbQ;rw[HE1.out])
     | (go_at_call 112;refine(fI _ _).mono ?_;rintro e w2 ⟨rfl,rfl⟩;first|rw[HT1.out]|rw[HT2.out])
     | (go_at_call 116;refine(HWH.out _ _ HO1.out.qv w1.heap.size c0 c1 (aC w1 _ _ 0) (aC w1 _ _ 1) (aC w1 _ _ 2) c2 c3).mono ?_;rintro e w3 ⟨rfl,ha⟩;obtain⟨S3,ho3,kp3⟩:=HO1.out.act ha;replace r0:=(World.cell?_of_block (kp3 (w.heap.size+1+1+1+1) ⟨by omega,by omega⟩)).trans r0;replace r1:=(World.cell?_of_block (kp3 (w.heap.size+1+1+1+1) ⟨by omega,by omega⟩)).trans r1;replace r2:=(World.cell?_of_block (kp3 (w.heap.size+1+1+1+1) ⟨by omega,by omega⟩)).trans r2;replace r3:=(World.cell?_of_block (kp3 (w.heap.size+1+1+1+1) ⟨by omega,by omega⟩)).trans r3;have HO3:=hide ho3;clear fz;have fz:=(HO3.out.ow (w.heap.size+1+1+1+1) ⟨by omega,by omega⟩).2.2.2;clear ha ho3 kp3 c0 c1 c2 c3)
     | fail)
    exact bodyPost_ret (v:=.tuple #[mV (mk,mt,mu,md,0),errV 0]) (by simp[errV,results,Tryz.results50,go_sem,r0,r1,r2,r3]) rfl ⟨rfl,((((HO3.out.set HLO.out (b:=w.heap.size+1+1+1+1) ⟨by omega,by omega⟩ 0 _).set HLO.out (b:=w.heap.size+1+1+1+1) ⟨by omega,by omega⟩ 1 _).set HLO.out (b:=w.heap.size+1+1+1+1) ⟨by omega,by omega⟩ 2 _).set HLO.out (b:=w.heap.size+1+1+1+1) ⟨by omega,by omega⟩ 3 _).done⟩
   ·rw[if_neg hz];simp only[if_neg hz] at HWH;clear hz;go_enter Tryz.func50,Tryz.ntmps50;go_wp2_with (first
     | (go_at_call 83;refine HF.out.mono ?_;rintro e w1 ⟨rfl,ha⟩;obtain⟨S1,ho1,kp⟩:=HO.out.act ha;have hbQ:=below_alloc1 w1 (Obj.cells #[.int .i64 qx,.int .i64 qy,.string qd] 145);have HO1:=hide (ho1.on hbQ);replace c0:=aA hbQ ((World.cell?_of_block (kp (w.heap.size) ⟨by omega,by omega⟩)).trans c0);replace c1:=aA hbQ ((World.cell?_of_block (kp (w.heap.size+1) ⟨by omega,by omega⟩)).trans c1);replace c2:=aA hbQ ((World.cell?_of_block (kp (w.heap.size+1+1) ⟨by omega,by omega⟩)).trans c2);replace c3:=aA hbQ ((World.cell?_of_block (kp (w.heap.size+1+1+1) ⟨by omega,by omega⟩)).trans c3);replace r0:=aA hbQ ((World.cell?_of_block (kp (w.heap.size+1+1+1+1) ⟨by omega,by omega⟩)).trans r0);replace r1:=aA hbQ ((World.cell?_of_block (kp (w.heap.size+1+1+1+1) ⟨by omega,by omega⟩)).trans r1);replace r2:=aA hbQ ((World.cell?_of_block (kp (w.heap.size+1+1+1+1) ⟨by omega,by omega⟩)).trans r2);replace r3:=aA hbQ ((World.cell?_of_block (kp (w.heap.size+1+1+1+1) ⟨by omega,by omega⟩)).trans r3);have fz:=(HO1.out.ow (w.heap.size+1+1+1+1) ⟨by omega,by omega⟩).2.2.2;clear ha ho1 kp hbQ;rw[HE1.out])
     | (go_at_call 112;refine(fI _ _).mono ?_;rintro e w2 ⟨rfl,rfl⟩;first|rw[HT1.out]|rw[HT2.out])
     | (go_at_call 116;refine(HWH.out _ _ HO1.out.qv w1.heap.size c0 c1 (aC w1 _ _ 0) (aC w1 _ _ 1) (aC w1 _ _ 2) c2 c3).mono ?_;rintro e w3 ⟨rfl,ha⟩;obtain⟨S3,ho3,kp3⟩:=HO1.out.act ha;replace r0:=(World.cell?_of_block (kp3 (w.heap.size+1+1+1+1) ⟨by omega,by omega⟩)).trans r0;replace r1:=(World.cell?_of_block (kp3 (w.heap.size+1+1+1+1) ⟨by omega,by omega⟩)).trans r1;replace r2:=(World.cell?_of_block (kp3 (w.heap.size+1+1+1+1) ⟨by omega,by omega⟩)).trans r2;replace r3:=(World.cell?_of_block (kp3 (w.heap.size+1+1+1+1) ⟨by omega,by omega⟩)).trans r3;have HO3:=hide ho3;clear fz;have fz:=(HO3.out.ow (w.heap.size+1+1+1+1) ⟨by omega,by omega⟩).2.2.2;clear ha ho3 kp3 c0 c1 c2 c3)
     | fail)
    exact bodyPost_ret (v:=.tuple #[mV (noM em),errV em]) (by simp[results,Tryz.results50,go_sem,r0,r1,r2,r3]) rfl ⟨rfl,((((HO3.out.set HLO.out (b:=w.heap.size+1+1+1+1) ⟨by omega,by omega⟩ 0 _).set HLO.out (b:=w.heap.size+1+1+1+1) ⟨by omega,by omega⟩ 1 _).set HLO.out (b:=w.heap.size+1+1+1+1) ⟨by omega,by omega⟩ 2 _).set HLO.out (b:=w.heap.size+1+1+1+1) ⟨by omega,by omega⟩ 3 _).done⟩
  ·rw[if_neg ht]
   cases ht1:fC now with
   | false=>
    have HT1:=hide ht1;have HT2:=hide ht1;clear ht ht1;go_enter Tryz.func50,Tryz.ntmps50;go_wp2_with (first
     | (go_at_call 83;refine HF.out.mono ?_;rintro e w1 ⟨rfl,ha⟩;obtain⟨S1,ho1,kp⟩:=HO.out.act ha;have hbQ:=below_alloc1 w1 (Obj.cells #[.int .i64 qx,.int .i64 qy,.string qd] 145);have HO1:=hide (ho1.on hbQ);replace c0:=aA hbQ ((World.cell?_of_block (kp (w.heap.size) ⟨by omega,by omega⟩)).trans c0);replace c1:=aA hbQ ((World.cell?_of_block (kp (w.heap.size+1) ⟨by omega,by omega⟩)).trans c1);replace c2:=aA hbQ ((World.cell?_of_block (kp (w.heap.size+1+1) ⟨by omega,by omega⟩)).trans c2);replace c3:=aA hbQ ((World.cell?_of_block (kp (w.heap.size+1+1+1) ⟨by omega,by omega⟩)).trans c3);replace r0:=aA hbQ ((World.cell?_of_block (kp (w.heap.size+1+1+1+1) ⟨by omega,by omega⟩)).trans r0);replace r1:=aA hbQ ((World.cell?_of_block (kp (w.heap.size+1+1+1+1) ⟨by omega,by omega⟩)).trans r1);replace r2:=aA hbQ ((World.cell?_of_block (kp (w.heap.size+1+1+1+1) ⟨by omega,by omega⟩)).trans r2);replace r3:=aA hbQ ((World.cell?_of_block (kp (w.heap.size+1+1+1+1) ⟨by omega,by omega⟩)).trans r3);have fz:=(HO1.out.ow (w.heap.size+1+1+1+1) ⟨by omega,by omega⟩).2.2.2;clear ha ho1 kp hbQ;rw[HE1.out])
     | (go_at_call 112;refine(fI _ _).mono ?_;rintro e w2 ⟨rfl,rfl⟩;first|rw[HT1.out]|rw[HT2.out])
     | fail)
    exact bodyPost_ret (v:=.tuple #[mV (noM 1),errV 1]) (by simp[errV,results,Tryz.results50,go_sem,r0,r1,r2,r3]) rfl ⟨rfl,((((HO1.out.set HLO.out (b:=w.heap.size+1+1+1+1) ⟨by omega,by omega⟩ 0 _).set HLO.out (b:=w.heap.size+1+1+1+1) ⟨by omega,by omega⟩ 1 _).set HLO.out (b:=w.heap.size+1+1+1+1) ⟨by omega,by omega⟩ 2 _).set HLO.out (b:=w.heap.size+1+1+1+1) ⟨by omega,by omega⟩ 3 _).done⟩
   | true=>
    have ht2:fC long=false:=by
     cases e:fC long with
     | false=>rfl
     | true=>exact absurd ⟨ht1,e⟩ ht
    have HT1:=hide ht1;have HT2:=hide ht2;clear ht ht1 ht2;go_enter Tryz.func50,Tryz.ntmps50;go_wp2_with (first
     | (go_at_call 83;refine HF.out.mono ?_;rintro e w1 ⟨rfl,ha⟩;obtain⟨S1,ho1,kp⟩:=HO.out.act ha;have hbQ:=below_alloc1 w1 (Obj.cells #[.int .i64 qx,.int .i64 qy,.string qd] 145);have HO1:=hide (ho1.on hbQ);replace c0:=aA hbQ ((World.cell?_of_block (kp (w.heap.size) ⟨by omega,by omega⟩)).trans c0);replace c1:=aA hbQ ((World.cell?_of_block (kp (w.heap.size+1) ⟨by omega,by omega⟩)).trans c1);replace c2:=aA hbQ ((World.cell?_of_block (kp (w.heap.size+1+1) ⟨by omega,by omega⟩)).trans c2);replace c3:=aA hbQ ((World.cell?_of_block (kp (w.heap.size+1+1+1) ⟨by omega,by omega⟩)).trans c3);replace r0:=aA hbQ ((World.cell?_of_block (kp (w.heap.size+1+1+1+1) ⟨by omega,by omega⟩)).trans r0);replace r1:=aA hbQ ((World.cell?_of_block (kp (w.heap.size+1+1+1+1) ⟨by omega,by omega⟩)).trans r1);replace r2:=aA hbQ ((World.cell?_of_block (kp (w.heap.size+1+1+1+1) ⟨by omega,by omega⟩)).trans r2);replace r3:=aA hbQ ((World.cell?_of_block (kp (w.heap.size+1+1+1+1) ⟨by omega,by omega⟩)).trans r3);have fz:=(HO1.out.ow (w.heap.size+1+1+1+1) ⟨by omega,by omega⟩).2.2.2;clear ha ho1 kp hbQ;rw[HE1.out])
     | (go_at_call 112;refine(fI _ _).mono ?_;rintro e w2 ⟨rfl,rfl⟩;first|rw[HT1.out]|rw[HT2.out])
     | fail)
    exact bodyPost_ret (v:=.tuple #[mV (noM 1),errV 1]) (by simp[errV,results,Tryz.results50,go_sem,r0,r1,r2,r3]) rfl ⟨rfl,((((HO1.out.set HLO.out (b:=w.heap.size+1+1+1+1) ⟨by omega,by omega⟩ 0 _).set HLO.out (b:=w.heap.size+1+1+1+1) ⟨by omega,by omega⟩ 1 _).set HLO.out (b:=w.heap.size+1+1+1+1) ⟨by omega,by omega⟩ 2 _).set HLO.out (b:=w.heap.size+1+1+1+1) ⟨by omega,by omega⟩ 3 _).done⟩
 ·rw[if_neg h1];have HE1:=hide (bJ h1);clear h1 HFO HFN;go_enter Tryz.func50,Tryz.ntmps50;go_wp2_with (first
   | (go_at_call 83;refine HF.out.mono ?_;rintro e w1 ⟨rfl,ha⟩;obtain⟨S1,ho1,kp⟩:=HO.out.act ha;have hbQ:=below_alloc1 w1 (Obj.cells #[.int .i64 qx,.int .i64 qy,.string qd] 145);have HO1:=hide (ho1.on hbQ);replace c0:=aA hbQ ((World.cell?_of_block (kp (w.heap.size) ⟨by omega,by omega⟩)).trans c0);replace c1:=aA hbQ ((World.cell?_of_block (kp (w.heap.size+1) ⟨by omega,by omega⟩)).trans c1);replace c2:=aA hbQ ((World.cell?_of_block (kp (w.heap.size+1+1) ⟨by omega,by omega⟩)).trans c2);replace c3:=aA hbQ ((World.cell?_of_block (kp (w.heap.size+1+1+1) ⟨by omega,by omega⟩)).trans c3);replace r0:=aA hbQ ((World.cell?_of_block (kp (w.heap.size+1+1+1+1) ⟨by omega,by omega⟩)).trans r0);replace r1:=aA hbQ ((World.cell?_of_block (kp (w.heap.size+1+1+1+1) ⟨by omega,by omega⟩)).trans r1);replace r2:=aA hbQ ((World.cell?_of_block (kp (w.heap.size+1+1+1+1) ⟨by omega,by omega⟩)).trans r2);replace r3:=aA hbQ ((World.cell?_of_block (kp (w.heap.size+1+1+1+1) ⟨by omega,by omega⟩)).trans r3);have fz:=(HO1.out.ow (w.heap.size+1+1+1+1) ⟨by omega,by omega⟩).2.2.2;clear ha ho1 kp hbQ;rw[HE1.out])
   | fail)
  exact bodyPost_ret (v:=.tuple #[mV (noM er),errV er]) (by simp[results,Tryz.results50,go_sem,r0,r1,r2,r3,HE1.out]) rfl ⟨rfl,((((HO1.out.set HLO.out (b:=w.heap.size+1+1+1+1) ⟨by omega,by omega⟩ 0 _).set HLO.out (b:=w.heap.size+1+1+1+1) ⟨by omega,by omega⟩ 1 _).set HLO.out (b:=w.heap.size+1+1+1+1) ⟨by omega,by omega⟩ 2 _).set HLO.out (b:=w.heap.size+1+1+1+1) ⟨by omega,by omega⟩ 3 _).done⟩
end
section
open Go.RowKit Go.Joins
theorem zJT (n:Int):bits .and .i64 n 3=n % 4:=by
 have h3:(BitVec.ofInt 64 3).toNat=2 ^ 2-1:=by decide
 have key:(BitVec.ofInt 64 n &&& BitVec.ofInt 64 3).toNat=(n % ((2 ^ 64:Nat):Int)).toNat % 2 ^ 2:=by
  rw[BitVec.toNat_and,BitVec.toNat_ofInt,h3,Nat.and_two_pow_sub_one_eq_mod]
 show IntKind.i64.wrap ((BitVec.ofInt 64 n &&& BitVec.ofInt 64 3).toNat:Nat)=n % 4;rw[key,IntKind.wrap_i64];omega
end
section
open Go.RowKit Go.Joins
attribute [local go_sem ↓] Go.wp_at_zero Go.wp_at_succ
structure SHd (w:World) (sb db lb area:Nat) (v:Value):Prop where
 c0:w.cell? ⟨sb,0,none⟩=some (.pointer (some ⟨db,0,none⟩))
 c1:w.cell? ⟨sb,1,none⟩=some (.pointer (some ⟨lb,0,none⟩))
 c2:w.cell? ⟨sb,2,none⟩=some (.int .i64 (area:Int))
 c3:w.cell? ⟨sb,3,none⟩=some v
 soft:∀ j,w.frozen? ⟨sb,j,none⟩=false
structure SK (w:World) (B sb lb db:Nat) (S:Nat->Prop) (v:Value) (x:SSt):Prop where
 hd:SHd w sb db lb x.area v
 lk:LK w B lb db S 50 (x.d.now.length-50) x.first x.used x.d
 own:bO w B v x.rows
 ns:¬S sb
 nl:sb≠lb
 nv:∀ k,v.ownBlock=some k->k≠sb/\k≠lb/\¬S k
 lo:B<=sb
def inS (sb lb:Nat) (v:Value) (S:Nat->Prop) (k:Nat):Prop:=k=sb∨k=lb∨v.ownBlock=some k∨S k
def SA (w:World) (B sb db:Nat) (T:Nat->Prop) (x:SSt):Prop:=∃ lb S v,SK w B sb lb db S v x/\T=inS sb lb v S
def ActS (w w':World) (B sb db:Nat) (T:Nat->Prop) (x:SSt):Prop:=∃ T',SA w' B sb db T' x/\aG w w' B T T'
section
variable {w w':World} {B sb lb db:Nat} {S T:Nat->Prop} {v:Value} {x:SSt}
theorem SHd.kept {area:Nat} (h:SHd w sb db lb area v) (hk:w'.heap[sb]?=w.heap[sb]?):SHd w' sb db lb area v:=
 ⟨(World.cell?_of_block hk).trans h.c0,(World.cell?_of_block hk).trans h.c1,(World.cell?_of_block hk).trans h.c2,(World.cell?_of_block hk).trans h.c3,fun j=>(World.frozen?_of_block hk).trans (h.soft j)⟩
theorem SHd.lt {area:Nat} (h:SHd w sb db lb area v):sb<w.heap.size:=World.block_lt_of_cell? _ _ h.c0
theorem SK.lt (h:SK w B sb lb db S v x) {k:Nat} (hk:inS sb lb v S k):k<w.heap.size:=by
 rcases hk with rfl|rfl|hk|hk
 ·exact h.hd.lt
 ·exact h.lk.hd.lt
 ·exact(World.ownsRow.lt h.own k hk).2
 ·exact h.lk.dk.lt hk
theorem SK.on (h:SK w B sb lb db S v x) (hb:Below w.heap.size w w'):SK w' B sb lb db S v x:=
 ⟨h.hd.kept (hb.block sb h.hd.lt),h.lk.on hb,bQ h.own hb,h.ns,h.nl,h.nv,h.lo⟩
theorem SA.on (h:SA w B sb db T x) (hb:Below w.heap.size w w'):SA w' B sb db T x:=by
 obtain⟨lb,S,v,h1,h2⟩:=h;exact⟨lb,S,v,h1.on hb,h2⟩
theorem SA.blo (h:SA w B sb db T x):B<=w.heap.size:=by
 obtain⟨lb,S,v,h1,h2⟩:=h;exact h1.lk.dk.lo
theorem SA.lt (h:SA w B sb db T x) {k:Nat} (hk:T k):k<w.heap.size:=by
 obtain⟨lb,S,v,h1,rfl⟩:=h;exact h1.lt hk
theorem SA.stay (h:SA w B sb db T x) (hb:Below w.heap.size w w'):ActS w w' B sb db T x:=⟨T,h.on hb,.on h.blo hb⟩
theorem ActS.post {w1:World} (ha:ActS w w1 B sb db T x) (hb:Below w1.heap.size w1 w'):ActS w w' B sb db T x:=by
 obtain⟨T2,h1,h2⟩:=ha;exact⟨T2,h1.on hb,h2.trans (.on h1.blo hb)⟩
theorem qF (w:World) (h:SA w B sb db T x):Calls Tryz.prog 193 #[.pointer (some ⟨sb,0,none⟩)] w fun e w'=>e=.returned (.int .i64 ((x.d.now.length-50-x.used:Nat):Int))/\∃ n,w'=w.drewN n:=by
 obtain⟨lb,S,v,h1,_⟩:=h;have c1:=h1.hd.c1;have hm:=h1.lk.dk.many;have HR:=hide (vB w h1.lk.hd h1.lk.us (by omega));clear h1;generalize x.d.now.length-50-x.used=r at *;go_enter Tryz.func193,Tryz.ntmps193;go_wp2_with (go_at_call 247;refine HR.out.mono ?_;rintro e w1 ⟨rfl,n,rfl⟩)
 go_ret;exact⟨rfl,n,rfl⟩
theorem zF6 {l:List Chg} {k:Nat} (hk:k<l.length):aS (l.take (k+1))=aS (l.take k)++[(l[k].key,l[k].val)]:=by
 unfold aS;rw[List.take_succ_eq_append_getElem hk,List.map_append];rfl
theorem zBm (w:World) (h:SA w B sb db T x) (hl:x.rows.length<=1000):Calls Tryz.prog 76 #[.pointer (some ⟨sb,0,none⟩)] w fun e w'=>∃ v,e=.returned v/\ownP w' w.heap.size v (aS x.rows)/\Below w.heap.size w w':=by
 obtain⟨lb,S,v,h1,_⟩:=h;have c3:=h1.hd.c3;have HO:=hide h1.own;clear h1;generalize x.rows=l at *;obtain⟨i0,hi0,hz0,hs0,hb0⟩:=info_parts zCS;obtain⟨ao,cap,rfl,hh⟩:∃ ao cap,v=.slice ao l.length cap/\bW w ao l:=by
  rcases aX HO.out with⟨e,e2⟩|⟨g,cap,e,_⟩
  ·exact⟨none,0,by rw[e,e2],.inl (List.length_eq_zero_iff.1 e2)⟩
  ·refine⟨some ⟨g,0,none⟩,cap,e,.inr ⟨g,0,rfl,eW l 0 fun j u hj=>?_⟩⟩;have:=World.ownsRow.cells HO.out (g:=g) (by rw[e];rfl) j u hj;rwa [Go.WideShapes.add_plain] at this
 have HD:=hide hh;clear hh HO;go_enter Tryz.func76,Tryz.ntmps76;go_wp2
 go_loopw [3,11] (fun v iv wr=>∃ k:Nat,k<=l.length/\iv=.int .i64 (k:Int)/\ownP wr w.heap.size v (aS (l.take k))/\Below w.heap.size w wr) (fun _ iv _=>l.length-(intOf iv).toNat)
 case atStart=>exact⟨0,Nat.zero_le _,rfl,World.ownsRow_nil _ _ _ _,Below.refl _ _⟩
 case round=>
  obtain⟨k,hk,rfl,ho,hb⟩:=hrel;clear c3;have hrl:(aS (l.take k)).length=k:=by unfold aS;rw[List.length_map,List.length_take];omega
  by_cases hlt:k<l.length
  ·have hlt':(k:Int)<(l.length:Int):=by omega
   have hk0:(0:Int)<=(k:Int):=by omega
   rcases HD.out with e|⟨b,off,e,hch⟩
   ·rw[e] at hlt;simp at hlt
   subst e;obtain⟨x0,x1,x2⟩:=hch k hlt;have hft:=zF6 hlt;clear hch;generalize l[k]=c at *;generalize aS (l.take k)=m at *;replace x0:=aA hb x0;replace x1:=aA hb x1;replace x2:=aA hb x2;have HO:=hide ho;have HBR:=hide hb;have HFT:=hide hft;have hbx:=below_alloc1 wr (Obj.cells #[.string c.key,.string c.val,.bool c.gone] 133);have HBX:=hide (aB HBR.out (Nat.le_refl _) hbx);have HO1:=hide (bQ HO.out hbx);clear ho hb hft hbx;have HRL:=hide hrl;have y0:(wr.alloc (Obj.cells #[.string c.key,.string c.val,.bool c.gone] 133)).cell? ⟨wr.heap.size,0,none⟩=some (.string c.key):=aC _ _ _ 0;have y1:(wr.alloc (Obj.cells #[.string c.key,.string c.val,.bool c.gone] 133)).cell? ⟨wr.heap.size,1,none⟩=some (.string c.val):=aC _ _ _ 1
   go_upto_region 5 with(fail)
   generalize wr.alloc (Obj.cells #[.string c.key,.string c.val,.bool c.gone] 133)=W at *;generalize wr.heap.size=cb at *;go_wp2_with (at_builtin;refine oS rfl _ _ 32 rfl w.heap.size 165 i0 _ 2 32 Tryz.underlying32 hi0 hz0 hs0 hb0 rfl (by omega) W (aV (c.key,c.val)) rfl (zHn _) _ m.length (m.flatMap aV) HO1.out rfl rfl (by omega) (by omega) HBX.out.size ?_;intro v9 w9 ho9 hb9;have HO9:=hide (zIa ho9);have HB9:=hide (hb9 w HBX.out);clear ho9 hb9)
   exact⟨⟨k+1,by omega,by go_num,by rw[HFT.out];exact HO9.out,HB9.out⟩,by simp[intOf];omega⟩
  ·have ek:k=l.length:=by omega
   subst ek;have hlt':¬(l.length:Int)<(l.length:Int):=by omega
   rw[List.take_length] at ho;have HO:=hide ho;have HBR:=hide hb;clear ho hb;go_wp2;go_ret;exact⟨_,rfl,HO.out,HBR.out⟩
end
end
end Go.Proofs.YtnboipekkahmnaaGreatDoor
