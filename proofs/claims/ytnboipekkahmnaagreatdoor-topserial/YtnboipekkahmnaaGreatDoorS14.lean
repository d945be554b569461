import Derived.Test.YtnboipekkahmnaaGreatDoorS13
import Derived.Deep.Upon
set_option maxHeartbeats 8000000
set_option maxRecDepth 100000
namespace Go.Proofs.YtnboipekkahmnaaGreatDoor
open Obj renaming cells→o_
open World renaming cell?_of_block→b_,cell?_setCell_other→t_,cell?_setCell_same→u_,ownsRow.lt→l_
open Go.RowKit.Below renaming heap_setCell→h_,refl→r_
open Nat renaming le_refl→n_
open Tryz renaming prog→p_
open Value renaming string→v_,int→i_
open Go.Joins renaming below_alloc1→a_
section
open Go.RowKit Go.Joins Go.Shelf
attribute [local go_sem ↓] Go.wp_at_zero Go.wp_at_succ
def fC (n:Int):Bool:=decide (0<=n)&&decide (n<=1000000)
theorem fI (n:Int) (w:World):Calls p_ 112 #[.int .i64 n] w fun e w'=>e=.returned (.bool (fC n))/\w'=w:=by
 unfold fC;by_cases h0:0<=n
 ·have d0:decide (0<=n)=true:=by simpa using h0
  rw[d0];by_cases h1:n<=1000000
  ·have d1:decide (n<=1000000)=true:=by simpa using h1
   rw[d1];go_enter Tryz.func112,Tryz.ntmps112;go_wp2;go_ret;exact⟨rfl,rfl⟩
  ·have d1:decide (n<=1000000)=false:=by simpa using h1
   rw[d1];go_enter Tryz.func112,Tryz.ntmps112;go_wp2;go_ret;exact⟨rfl,rfl⟩
 ·have d0:decide (0<=n)=false:=by simpa using h0
  rw[d0];go_enter Tryz.func112,Tryz.ntmps112;go_wp2;go_ret;exact⟨rfl,rfl⟩
def ackQ (P:Rws) (chs:List Chg) (rds:Rws) (name:ByteArray) (n tries:Int):Nat×List Chg×Rws:=
 if (dQ P chs rds name n tries).1.2.2.2.2=0 then (cH chs ⟨msgB name (cP n),⟨#[]⟩,true⟩,bG chs ⟨msgB name (cP n),⟨#[]⟩,true⟩,(dQ P chs rds name n tries).2)
 else ((dQ P chs rds name n tries).1.2.2.2.2,chs,(dQ P chs rds name n tries).2)
theorem zKS (name:ByteArray) (n tries:Int) {B wb:Nat} {S:Nat->Prop} {P:Rws} {since:Sn} {chs:List Chg} {rds:Rws} (w:World) (h:QV w B wb S P since chs rds) (hn:name.size<=1000) (hk0:-9223372036854775808<=n) (hk1:n<=9223372036854775807):
  Calls p_ 51 #[.pointer (some ⟨wb,0,none⟩),.string name,.int .i64 n,.int .i64 tries] w fun e w'=>e=.returned (errV (ackQ P chs rds name n tries).1)/\ActQ w w' B wb S P since (ackQ P chs rds name n tries).2.1 (ackQ P chs rds name n tries).2.2:=by
 have n1:=bM 114;have HH:=hide (zBw name n tries w h hn);have hqs:=tD (name:=name) (cP n) hn;unfold ackQ;clear h;generalize dQ P chs rds name n tries=q at *;obtain⟨⟨mk,mt,mu,md,em⟩,rds1⟩:=q;dsimp only at HH ⊢;by_cases h1:em=0
 ·subst h1;rw[if_pos rfl];go_enter Tryz.func51,Tryz.ntmps51;go_wp2_with (first
   | (go_at_call 119;refine HH.out.mono ?_;rintro e w1 ⟨rfl,ha⟩;obtain⟨S1,hq1,hs1⟩:=ha;have hbA:=a_ w1 (o_ #[.int .i64 mk,.int .i64 mt,.int .i64 mu,.string md] 99);have HQ1:=hide (hq1.on hbA);have HS1:=hide (hs1.trans (.on hq1.pv.lo hbA));clear hq1 hs1 hbA;rw[bX])
   | (go_at_call 120;refine(iE name n _ (by omega) hk0 hk1 HQ1.out.laid.tab).mono ?_;rintro e w2 ⟨rfl,hb2⟩;replace HS1:=hide (HS1.out.trans (.on HQ1.out.pv.lo hb2));replace HQ1:=hide (HQ1.out.on hb2);clear hb2)
   | (go_at_call 86;refine(uA (msgB name (cP n)) _ HQ1.out hqs).mono ?_;rintro e w3 ⟨rfl,ha⟩;have HA:=hide (ActQ.after HS1.out ha);clear ha)
   | fail)
  go_ret;exact⟨rfl,HA.out⟩
 ·rw[if_neg h1];have HE1:=hide (bJ h1);clear h1;go_enter Tryz.func51,Tryz.ntmps51;go_wp2_with (first
   | (go_at_call 119;refine HH.out.mono ?_;rintro e w1 ⟨rfl,ha⟩;obtain⟨S1,hq1,hs1⟩:=ha;have hbA:=a_ w1 (o_ #[.int .i64 mk,.int .i64 mt,.int .i64 mu,.string md] 99);have HQ1:=hide (hq1.on hbA);have HS1:=hide (hs1.trans (.on hq1.pv.lo hbA));clear hq1 hs1 hbA;rw[HE1.out])
   | fail)
  go_ret;exact⟨HE1.out▸rfl,_,HQ1.out,HS1.out⟩
def iZ (P:Rws) (chs:List Chg) (rds:Rws) (name:ByteArray) (n tries until_:Int):Nat×List Chg×Rws:=
 if (dQ P chs rds name n tries).1.2.2.2.2=0 then
  if fC until_=true then (mK chs name (dQ P chs rds name n tries).1.1 (dQ P chs rds name n tries).1.2.1 until_ (dQ P chs rds name n tries).1.2.2.2.1,nA chs name (dQ P chs rds name n tries).1.1 (dQ P chs rds name n tries).1.2.1 until_ (dQ P chs rds name n tries).1.2.2.2.1,(dQ P chs rds name n tries).2)
  else (1,chs,(dQ P chs rds name n tries).2)
 else ((dQ P chs rds name n tries).1.2.2.2.2,chs,(dQ P chs rds name n tries).2)
theorem zE9 (s:ByteArray) (n:Int):(mOf s n).1=n∨(mOf s n).1=0:=by
 rcases oB s n with⟨t,u,d,e,_⟩|⟨e,_⟩
 ·rw[e];exact .inl rfl
 ·rw[e];exact .inr rfl
theorem zH7 (P:Rws) (chs:List Chg) (rds:Rws) (name:ByteArray) (n tries:Int):(dQ P chs rds name n tries).1.1=n∨(dQ P chs rds name n tries).1.1=0:=by
 unfold dQ;split
 ·split
  ·exact .inr rfl
  ·unfold yH;split
   ·split
    ·split
     ·split
      ·exact zE9 _ _
      ·exact .inr rfl
     ·exact .inr rfl
    ·exact .inr rfl
   ·exact .inr rfl
 ·exact .inr rfl
theorem zJo (name:ByteArray) (n tries until_:Int) {B wb:Nat} {S:Nat->Prop} {P:Rws} {since:Sn} {chs:List Chg} {rds:Rws} (w:World) (h:QV w B wb S P since chs rds) (hn:name.size<=1000) (hk0:-9223372036854775808<=n) (hk1:n<=9223372036854775807):
  Calls p_ 81 #[.pointer (some ⟨wb,0,none⟩),.string name,.int .i64 n,.int .i64 tries,.int .i64 until_] w fun e w'=>e=.returned (errV (iZ P chs rds name n tries until_).1)/\ActQ w w' B wb S P since (iZ P chs rds name n tries until_).2.1 (iZ P chs rds name n tries until_).2.2:=by
 have n1:=bM 114;have HH:=hide (zBw name n tries w h hn);have hnum:=zH7 P chs rds name n tries;unfold iZ;clear h;generalize dQ P chs rds name n tries=q at *;obtain⟨⟨mk,mt,mu,md,em⟩,rds1⟩:=q;dsimp only at HH hnum ⊢;have hm0:-9223372036854775808<=mk:=by omega
 have hm1:mk<=9223372036854775807:=by omega
 clear hnum;by_cases h1:em=0
 ·subst h1;rw[if_pos rfl]
  cases htm:fC until_ with
  | true=>
   rw[if_pos rfl];have HTM:=hide htm;clear htm;go_enter Tryz.func81,Tryz.ntmps81;go_wp2_with (first
    | (go_at_call 119;refine HH.out.mono ?_;rintro e w1 ⟨rfl,ha⟩;obtain⟨S1,hq1,hs1⟩:=ha;have HQ1:=hide hq1;have HS1:=hide hs1;clear hq1 hs1;rw[bX])
    | (go_at_call 112;refine(fI until_ _).mono ?_;rintro e w2 ⟨rfl,rfl⟩;rw[HTM.out])
    | (go_at_call 148;have hbA:=a_ w1 (o_ #[.int .i64 mk,.int .i64 mt,.int .i64 until_,.string md] 99);refine(mI name mk mt until_ md _ (HQ1.out.on hbA) hn hm0 hm1).mono ?_;rintro e w3 ⟨rfl,ha⟩;have HA:=hide (ActQ.after (HS1.out.trans (.on HQ1.out.pv.lo hbA)) ha);clear ha hbA)
    | fail)
   go_ret;exact⟨rfl,HA.out⟩
  | false=>
   rw[if_neg (by simp)];have HTM:=hide htm;clear htm;go_enter Tryz.func81,Tryz.ntmps81;go_wp2_with (first
    | (go_at_call 119;refine HH.out.mono ?_;rintro e w1 ⟨rfl,ha⟩;obtain⟨S1,hq1,hs1⟩:=ha;have HQ1:=hide hq1;have HS1:=hide hs1;clear hq1 hs1;rw[bX])
    | (go_at_call 112;refine(fI until_ _).mono ?_;rintro e w2 ⟨rfl,rfl⟩;rw[HTM.out])
    | fail)
   go_ret;exact⟨rfl,_,HQ1.out.on (a_ _ _),HS1.out.trans (.on HQ1.out.pv.lo (a_ _ _))⟩
 ·rw[if_neg h1];have HE1:=hide (bJ h1);clear h1;go_enter Tryz.func81,Tryz.ntmps81;go_wp2_with (first
   | (go_at_call 119;refine HH.out.mono ?_;rintro e w1 ⟨rfl,ha⟩;obtain⟨S1,hq1,hs1⟩:=ha;have HQ1:=hide hq1;have HS1:=hide hs1;clear hq1 hs1;rw[HE1.out])
   | fail)
  go_ret;exact⟨HE1.out▸rfl,_,HQ1.out.on (a_ _ _),HS1.out.trans (.on HQ1.out.pv.lo (a_ _ _))⟩
def addQ (chs:List Chg) (name:ByteArray) (x y:Int) (d body:ByteArray) (until_:Int):Int×Nat×List Chg:=
 if x=999999 then (0,8,chs)
 else if mK chs name x 0 until_ body=0 then (x,rA (nA chs name x 0 until_ body) name (x+1) y d,qL (nA chs name x 0 until_ body) name (x+1) y d)
 else (0,mK chs name x 0 until_ body,nA chs name x 0 until_ body)
theorem QV.new {w w1 w2:World} {B wb:Nat} {S S2:Nat->Prop} {P:Rws} {since:Sn} {chs:List Chg} {rds:Rws} (h:QV w B wb S P since chs rds) (hs:aG w1 w2 B S S2) {k:Nat} (h1:w.heap.size<=k) (h2:k<w1.heap.size):w2.heap[k]?=w1.heap[k]?/\¬S2 k:=
 hs.far k h2 fun e=>by have:=h.pv.lt e;omega
theorem BoxQ.go {w w1 w2:World} {B wb bx:Nat} {S S' S2:Nat->Prop} {P:Rws} {since:Sn} {chs chs':List Chg} {rds rds':Rws} (h:BoxQ w w1 B wb bx S S' P since chs rds) (hq:QV w2 B wb S2 P since chs' rds') (hs:aG w1 w2 B S' S2):BoxQ w w2 B wb bx S S2 P since chs' rds'/\w2.heap[bx]?=w1.heap[bx]?:=by
 obtain⟨e,n⟩:=hs.far bx h.hi h.nb;exact⟨⟨hq,h.st.trans hs,n,h.lo,Nat.lt_of_lt_of_le h.hi hs.bel.size,fun j=>(World.frozen?_of_block (w:=w1) e).trans (h.fz j)⟩,e⟩
theorem zDU (name:ByteArray) (x y:Int) (d body:ByteArray) (until_:Int) {B wb:Nat} {S:Nat->Prop} {P:Rws} {since:Sn} {chs:List Chg} {rds:Rws} (w:World) (h:QV w B wb S P since chs rds) (hn:name.size<=1000) (hd:d.size<=1000) (hx0:0<=x) (hx1:x<=999999):
  Calls p_ 115 #[.pointer (some ⟨wb,0,none⟩),.string name,.agg #[.int .i64 x,.int .i64 y,.string d],.string body,.int .i64 until_] w fun e w'=>e=.returned (.tuple #[.int .i64 (addQ chs name x y d body until_).1,errV (addQ chs name x y d body until_).2.1])/\ActQ w w' B wb S P since (addQ chs name x y d body until_).2.2 rds:=by
 have n1:=bM 114;have HQ:=hide h;have HLO:=hide h.pv.lo;have HX:=hide (BoxQ.start h #[i_ .i64 x,i_ .i64 y,v_ d] 145);have hbM:=a_ (w.alloc (o_ #[.int .i64 x,.int .i64 y,.string d] 145)) (o_ #[.int .i64 x,.int .i64 0,.int .i64 until_,.string body] 99);have HXM:=hide (HX.out.on hbM);have HPM:=hide (fun W (hW:QV W B wb S P since chs rds)=>mI name x 0 until_ body W hW hn (by omega) (by omega));have HPQ:=hide (fun (S1:Nat->Prop) W (hW:QV W B wb S1 P since (nA chs name x 0 until_ body) rds)=>oK name (x+1) y d W hW hn hd);have q0:((w.alloc (o_ #[.int .i64 x,.int .i64 y,.string d] 145)).alloc (o_ #[.int .i64 x,.int .i64 0,.int .i64 until_,.string body] 99)).cell? ⟨w.heap.size,0,none⟩=some (.int .i64 x):=aA hbM (aC w _ _ 0);have q1:((w.alloc (o_ #[.int .i64 x,.int .i64 y,.string d] 145)).alloc (o_ #[.int .i64 x,.int .i64 0,.int .i64 until_,.string body] 99)).cell? ⟨w.heap.size,1,none⟩=some (.int .i64 y):=aA hbM (aC w _ _ 1);have q2:((w.alloc (o_ #[.int .i64 x,.int .i64 y,.string d] 145)).alloc (o_ #[.int .i64 x,.int .i64 0,.int .i64 until_,.string body] 99)).cell? ⟨w.heap.size,2,none⟩=some (.string d):=aA hbM (aC w _ _ 2);have m0:((w.alloc (o_ #[.int .i64 x,.int .i64 y,.string d] 145)).alloc (o_ #[.int .i64 x,.int .i64 0,.int .i64 until_,.string body] 99)).cell? ⟨w.heap.size+1,0,none⟩=some (.int .i64 x):=by simp
 unfold addQ;clear h hbM;by_cases hx:x=999999
 ·rw[if_pos hx];subst hx;go_enter Tryz.func115,Tryz.ntmps115;go_wp2;go_ret2;exact⟨rfl,HX.out.done⟩
 ·rw[if_neg hx];have dx:(x==999999)=false:=by simpa using hx
  have hw1:IntKind.i64.wrap (x+1)=x+1:=by rw[IntKind.wrap_i64];omega
  clear hx;generalize nA chs name x 0 until_ body=chs1 at *;generalize mK chs name x 0 until_ body=f1 at *;generalize qL chs1 name (x+1) y d=chs2 at *;generalize rA chs1 name (x+1) y d=f2 at *;by_cases h1:f1=0
  ·subst h1;rw[if_pos rfl];go_enter Tryz.func115,Tryz.ntmps115;go_wp2_with (first
    | (go_at_call 148;refine(HPM.out _ HXM.out.qv).mono ?_;rintro e w1 ⟨rfl,ha⟩;obtain⟨S1,hq1,hs1⟩:=ha;obtain⟨hx1,eb⟩:=HXM.out.go hq1 hs1;obtain⟨em,nm⟩:=HQ.out.new hs1 (k:=w.heap.size+1) (by omega) (by simp);replace q0:=(b_ eb).trans q0;replace q1:=(b_ eb).trans q1;replace q2:=(b_ eb).trans q2;replace m0:=(b_ em).trans m0;have fz:=hx1.fz;have HX1:=hide hx1;have HNM:=hide nm;clear hx1 eb em nm hq1 hs1;rw[bX])
    | fail)
   have HX2:=hide (HX1.out.set HLO.out 0 (.int .i64 (x+1)));have hz1:=HX1.out.hi;have u0:(w1.setCell ⟨w.heap.size,0,none⟩ (.int .i64 (x+1))).cell? ⟨w.heap.size,0,none⟩=some (.int .i64 (x+1)):=u_ _ _ _ q0;have u1:(w1.setCell ⟨w.heap.size,0,none⟩ (.int .i64 (x+1))).cell? ⟨w.heap.size,1,none⟩=some (.int .i64 y):=(t_ _ _ _ _ (by simp)).trans q1;have u2:(w1.setCell ⟨w.heap.size,0,none⟩ (.int .i64 (x+1))).cell? ⟨w.heap.size,2,none⟩=some (.string d):=(t_ _ _ _ _ (by simp)).trans q2;have v0:(w1.setCell ⟨w.heap.size,0,none⟩ (.int .i64 (x+1))).cell? ⟨w.heap.size+1,0,none⟩=some (.int .i64 x):=(t_ _ _ _ _ (by simp)).trans m0;generalize (w1.setCell ⟨w.heap.size,0,none⟩ (.int .i64 (x+1)))=W at *;clear q0 q1 q2 m0 fz HX1 hz1
   go_region_with (first
    | (go_at_call 111;refine(HPQ.out _ _ (HX2.out.qv.on (r_ _ _).drew)).mono ?_;rintro e w4 ⟨rfl,ha⟩;obtain⟨S4,hq4,hs4⟩:=ha;obtain⟨hx4,_⟩:=(HX2.out.on (r_ _ _).drew).go hq4 hs4;have v4:w4.cell? ⟨w.heap.size+1,0,none⟩=some (.int .i64 x):=(b_ (hs4.far (w.heap.size+1) (World.block_lt_of_cell? _ _ v0) HNM.out).1).trans v0;have HX4:=hide hx4;clear hx4 hq4 hs4)
    | fail)
   all_goals
    go_wp2;go_ret2;exact⟨rfl,HX4.out.done⟩
  ·rw[if_neg h1];have HE1:=hide (bJ h1);clear h1;go_enter Tryz.func115,Tryz.ntmps115;go_wp2_with (first
    | (go_at_call 148;refine(HPM.out _ HXM.out.qv).mono ?_;rintro e w1 ⟨rfl,ha⟩;obtain⟨S1,hx1,eb⟩:=HXM.out.act ha;have HX1:=hide hx1;clear hx1 eb ha;rw[HE1.out])
    | fail)
   go_ret2;exact⟨HE1.out▸rfl,HX1.out.done⟩
end
section
open Go.RowKit Go.Joins Go.Shelf Go.WideShapes
attribute [local go_sem ↓] Go.wp_at_zero Go.wp_at_succ
def atB (ao:Option Addr) (k:Nat):Prop:=∃ off,ao=some ⟨k,off,none⟩
structure RWx (w:World) (rb:Nat) (ra:Option Addr) (rc:Nat) (ca:Option Addr) (cc:Nat) (sa:Option Addr) (sc:Nat) (P:Rws) (since:Sn) (chs:List Chg) (rds:Rws):Prop where
 c0:w.cell? ⟨rb,0,none⟩=some (.slice ra P.length rc)
 c1:w.cell? ⟨rb,1,none⟩=some (.int .i64 since.n)
 c2:w.cell? ⟨rb,2,none⟩=some (.slice ca chs.length cc)
 c3:w.cell? ⟨rb,3,none⟩=some (.slice sa rds.length sc)
 soft:∀ j,w.frozen? ⟨rb,j,none⟩=false
 hP:bY w ra P
 nP:ra=none->rc=0/\P=[]
 hC:bW w ca chs
 hR:bY w sa rds
def inRW (rb:Nat) (ra ca sa:Option Addr) (P:Rws) (chs:List Chg) (rds:Rws) (k:Nat):Prop:=k=rb∨(P≠[]/\atB ra k)∨(chs≠[]/\atB ca k)∨(rds≠[]/\atB sa k)
def RW (w:World) (rb:Nat) (G:Nat->Prop) (P:Rws) (since:Sn) (chs:List Chg) (rds:Rws):Prop:=∃ ra rc ca cc sa sc,RWx w rb ra rc ca cc sa sc P since chs rds/\(G=inRW rb ra ca sa P chs rds)/\(∀ k,atB ra k->P≠[]->k≠rb)/\(∀ k,atB ca k->chs≠[]->k≠rb)/\(∀ k,atB sa k->rds≠[]->k≠rb)
theorem qP {w:World} {B:Nat} {v:Value} {l:List Chg} (h:bO w B v l):∃ ao cap,v=.slice ao l.length cap/\bW w ao l/\∀ k,atB ao k->B<=k:=by
 rcases aX h with⟨rfl,h0⟩|⟨g,cap,rfl,hg,_⟩
 ·have e:l=[]:=List.length_eq_zero_iff.1 h0;subst e;exact⟨none,0,rfl,.inl rfl,fun k e=>by obtain⟨_,e⟩:=e;cases e⟩
 ·refine⟨_,cap,rfl,.inr ⟨g,0,rfl,eW l 0 fun j u hj=>?_⟩,fun k e=>by obtain⟨_,e⟩:=e;cases e;exact hg⟩;have:=World.ownsRow.cells h (g:=g) rfl j u hj;rwa [Go.WideShapes.add_plain] at this
end
section
open Go.RowKit Go.Joins Go.Shelf
attribute [local go_sem ↓] Go.wp_at_zero Go.wp_at_succ
theorem zFb {B2:Nat} {mv:Value} {mk:List Chg} {B wb:Nat} {S:Nat->Prop} {P:Rws} {since:Sn} {chs:List Chg} {rds:Rws} (w:World) (h:QV w B wb S P since chs rds) (hm:bO w B2 mv mk) (hn:mk.length<=12) (hk:∀ c∈mk,c.key.size<=60) (hr:rises mk) (ho:OkQ P mk):
  Calls p_ 174 #[.pointer (some ⟨wb,0,none⟩),mv] w fun e w'=>e=.returned (.tuple #[])/\ActQ w w' B wb S P since mk rds:=
 (zLZ w h.pv hm hn hk hr).mono fun _ _ ⟨he,ha⟩=>⟨he,h.act ho ha⟩
theorem zET {a0 a1 a2 a3 a4:Value} {n:Int} {f:Nat} {chs':List Chg} {rds':Rws} {B wb:Nat} {S:Nat->Prop} {P:Rws} {since:Sn} {chs:List Chg} {rds:Rws} (w:World) (h:QV w B wb S P since chs rds)
  (hc:∀ W,Below w.heap.size w W->Calls p_ 114 #[a0,a1,a2,a3,a4] W fun e w'=>e=.returned (.tuple #[.int .i64 n,errV f])/\ActQ W w' B wb S P since chs' rds'):
  Calls p_ 113 #[.pointer (some ⟨wb,0,none⟩),.func (.func 114) #[] #[a0,a1,a2,a3,a4]] w fun e w'=>e=.returned (.tuple #[.int .i64 (if f=0 then n else 0),errV f])/\ActQ w w' B wb S P since (if f=0 then chs' else chs) rds':=by
 have n1:=bM 114;have HQ:=hide h;have HC:=hide hc;have HMK:=hide (zFs w h.pv);clear h hc;by_cases hf:f=0
 ·subst hf;rw[if_pos rfl,if_pos rfl];go_enter Tryz.func113,Tryz.ntmps113;go_wp2_with (first
   | (go_at_call 173;refine HMK.out.mono ?_;rintro e w1 ⟨mv,rfl,ho,hb1⟩;obtain⟨ma1,mc1,hmv,_,_⟩:=qP ho;subst hmv;have HB1:=hide hb1;clear ho hb1)
   | (go_at_call 114;refine(HC.out _ HB1.out).mono ?_;rintro e w2 ⟨rfl,ha⟩;have HA:=hide (HQ.out.pre HB1.out ha);clear ha;rw[bX])
   | fail)
  go_ret2;exact⟨rfl,HA.out⟩
 ·rw[if_neg hf,if_neg hf];have HE:=hide (bJ hf);clear hf;go_enter Tryz.func113,Tryz.ntmps113;go_wp2_with (first
   | (go_at_call 173;refine HMK.out.mono ?_;rintro e w1 ⟨mv,rfl,ho,hb1⟩;obtain⟨ma1,mc1,hmv,_,_⟩:=qP ho;subst hmv;have HB1:=hide hb1;have HO:=hide ho;clear ho hb1)
   | (go_at_call 114;refine(HC.out _ HB1.out).mono ?_;rintro e w2 ⟨rfl,ha⟩;obtain⟨S2,hq2,hs2⟩:=ha;have HO2:=hide (aI HO.out fun k e=>(HQ.out.new hs2 (l_ HO.out k e).1 (l_ HO.out k e).2).1);have HQ2:=hide hq2;have HS2:=hide hs2;clear hq2 hs2;rw[HE.out])
   | (go_at_call 174;refine(zFb _ HQ2.out HO2.out HQ.out.pv.ok.cn HQ.out.pv.ok.ck HQ.out.pv.ok.cr HQ.out.ok).mono ?_;rintro e w3 ⟨rfl,ha⟩;have HA:=hide (HQ.out.pre HB1.out (ActQ.after HS2.out ha));clear ha)
   | fail)
  go_ret2;exact⟨HE.out▸rfl,HA.out⟩
theorem xJ {P:Rws} {chs:List Chg} {rds:Rws} {name:ByteArray} (h:(aN P chs rds name).2.2.2=0):0<=(aN P chs rds name).1/\(aN P chs rds name).1<=999999/\(aN P chs rds name).2.2.1.size<=6/\0<=(aN P chs rds name).2.1/\(aN P chs rds name).2.1<=9:=by
 unfold aN at h ⊢;split at h
 ·split at h
  ·split at h
   ·rename_i h1 h2 h3;rw[if_pos h1,if_pos h2,if_pos h3];rcases vE (getP chs rds P (queB name)).1 with⟨n,t,d,e,hq,_⟩|⟨e,_⟩
    ·rw[e];have:=hq.1;have:=hq.2.2.1;exact⟨by dsimp only;omega,by dsimp only;omega,zDD hq,by dsimp only;omega,by dsimp only;omega⟩
    ·rw[e] at h;cases h
   ·cases h
  ·rename_i h2;exact absurd h h2
 ·cases h
theorem zEZ (pb nb qb bb ub:Nat) (name:ByteArray) (x y:Int) (d body:ByteArray) (until_:Int) {B wb:Nat} {S:Nat->Prop} {P:Rws} {since:Sn} {chs:List Chg} {rds:Rws} (w:World) (h:QV w B wb S P since chs rds) (hn:name.size<=1000) (hd:d.size<=1000) (hx0:0<=x) (hx1:x<=999999)
  (c0:w.cell? ⟨pb,0,none⟩=some (.pointer (some ⟨wb,0,none⟩))) (c1:w.cell? ⟨nb,0,none⟩=some (.string name)) (c2:w.cell? ⟨qb,0,none⟩=some (.int .i64 x)) (c3:w.cell? ⟨qb,1,none⟩=some (.int .i64 y)) (c4:w.cell? ⟨qb,2,none⟩=some (.string d)) (c5:w.cell? ⟨bb,0,none⟩=some (.string body)) (c6:w.cell? ⟨ub,0,none⟩=some (.int .i64 until_)):
  Calls p_ 114 #[.pointer (some ⟨pb,0,none⟩),.pointer (some ⟨nb,0,none⟩),.pointer (some ⟨qb,0,none⟩),.pointer (some ⟨bb,0,none⟩),.pointer (some ⟨ub,0,none⟩)] w fun e w'=>e=.returned (.tuple #[.int .i64 (addQ chs name x y d body until_).1,errV (addQ chs name x y d body until_).2.1])/\ActQ w w' B wb S P since (addQ chs name x y d body until_).2.2 rds:=by
 have HA:=hide (zDU name x y d body until_ w h hn hd hx0 hx1);clear h;generalize addQ chs name x y d body until_=r at *;go_enter Tryz.func114,Tryz.ntmps114;go_wp2_with (first
  | (go_at_call 115;refine HA.out.mono ?_;rintro e w1 ⟨rfl,ha⟩;have HB:=hide ha;clear ha)
  | fail)
 go_ret2;exact⟨rfl,HB.out⟩
def fN (P:Rws) (chs:List Chg) (rds:Rws) (name body:ByteArray) (until_:Int):Int×Nat×List Chg×Rws:=
 if (aN P chs rds name).2.2.2=0 then
  if fC until_=true then
   if (addQ chs name (aN P chs rds name).1 (aN P chs rds name).2.1 (aN P chs rds name).2.2.1 body until_).2.1=0 then ((addQ chs name (aN P chs rds name).1 (aN P chs rds name).2.1 (aN P chs rds name).2.2.1 body until_).1,0,(addQ chs name (aN P chs rds name).1 (aN P chs rds name).2.1 (aN P chs rds name).2.2.1 body until_).2.2,bC chs rds name)
   else (0,(addQ chs name (aN P chs rds name).1 (aN P chs rds name).2.1 (aN P chs rds name).2.2.1 body until_).2.1,chs,bC chs rds name)
  else (0,1,chs,bC chs rds name)
 else (0,(aN P chs rds name).2.2.2,chs,bC chs rds name)
theorem zIc (name body:ByteArray) (until_:Int) {B wb:Nat} {S:Nat->Prop} {P:Rws} {since:Sn} {chs:List Chg} {rds:Rws} (w:World) (h:QV w B wb S P since chs rds) (hn:name.size<=1000):
  Calls p_ 49 #[.pointer (some ⟨wb,0,none⟩),.string name,.string body,.int .i64 until_] w fun e w'=>e=.returned (.tuple #[.int .i64 (fN P chs rds name body until_).1,errV (fN P chs rds name body until_).2.1])/\ActQ w w' B wb S P since (fN P chs rds name body until_).2.2.1 (fN P chs rds name body until_).2.2.2:=by
 have n1:=bM 114;have hmf:∀ (fn:Fn) (first cap:Array Value) (w:World),(Instr.makeFunc fn first cap).run p_ w=.ok (.func fn first cap) w:=fun _ _ _ _=>rfl;have HFO:=hide (fun h=>xJ (P:=P) (chs:=chs) (rds:=rds) (name:=name) h);have hb1:=a_ w (o_ #[.pointer (some ⟨wb,0,none⟩)] 59);have hb2:=a_ (w.alloc (o_ #[.pointer (some ⟨wb,0,none⟩)] 59)) (o_ #[.string name] 9);have hb3:=a_ ((w.alloc (o_ #[.pointer (some ⟨wb,0,none⟩)] 59)).alloc (o_ #[.string name] 9)) (o_ #[.string body] 9);have hb4:=a_ (((w.alloc (o_ #[.pointer (some ⟨wb,0,none⟩)] 59)).alloc (o_ #[.string name] 9)).alloc (o_ #[.string body] 9)) (o_ #[.int .i64 until_] 3);have hbA:=aB (aB (aB hb1 (n_ _) hb2) (n_ _) hb3) (n_ _) hb4;have hsz:((((w.alloc (o_ #[.pointer (some ⟨wb,0,none⟩)] 59)).alloc (o_ #[.string name] 9)).alloc (o_ #[.string body] 9)).alloc (o_ #[.int .i64 until_] 3)).heap.size=w.heap.size+4:=by simp
 have c0:((((w.alloc (o_ #[.pointer (some ⟨wb,0,none⟩)] 59)).alloc (o_ #[.string name] 9)).alloc (o_ #[.string body] 9)).alloc (o_ #[.int .i64 until_] 3)).cell? ⟨w.heap.size,0,none⟩=some (.pointer (some ⟨wb,0,none⟩)):=aA hb4 (aA hb3 (aA hb2 (aC w _ _ 0)));have c1:((((w.alloc (o_ #[.pointer (some ⟨wb,0,none⟩)] 59)).alloc (o_ #[.string name] 9)).alloc (o_ #[.string body] 9)).alloc (o_ #[.int .i64 until_] 3)).cell? ⟨w.heap.size+1,0,none⟩=some (.string name):=aA hb4 (aA hb3 (by simp));have z2:((w.alloc (o_ #[.pointer (some ⟨wb,0,none⟩)] 59)).alloc (o_ #[.string name] 9)).heap.size=w.heap.size+1+1:=by simp
 have z3:(((w.alloc (o_ #[.pointer (some ⟨wb,0,none⟩)] 59)).alloc (o_ #[.string name] 9)).alloc (o_ #[.string body] 9)).heap.size=w.heap.size+1+1+1:=by simp
 have c5:((((w.alloc (o_ #[.pointer (some ⟨wb,0,none⟩)] 59)).alloc (o_ #[.string name] 9)).alloc (o_ #[.string body] 9)).alloc (o_ #[.int .i64 until_] 3)).cell? ⟨w.heap.size+1+1,0,none⟩=some (.string body):=aA hb4 (by rw[<-z2];exact aC _ _ _ 0);have c6:((((w.alloc (o_ #[.pointer (some ⟨wb,0,none⟩)] 59)).alloc (o_ #[.string name] 9)).alloc (o_ #[.string body] 9)).alloc (o_ #[.int .i64 until_] 3)).cell? ⟨w.heap.size+1+1+1,0,none⟩=some (.int .i64 until_):=by rw[<-z3];exact aC _ _ _ 0
 have HF:=hide (kK name _ (h.on hbA) hn);have HQ:=hide h;have HBA:=hide hbA;unfold fN;clear h hb1 hb2 hb3 hb4 hbA z2 z3;generalize aN P chs rds name=q at *;generalize bC chs rds name=rds1 at *;obtain⟨qx,qy,qd,er⟩:=q;dsimp only at HF HFO ⊢;by_cases h1:er=0
 ·subst h1;rw[if_pos rfl];obtain⟨hx0,hx1,hd6,_,_⟩:=HFO.out rfl;have HE1:=hide bX;clear HFO
  cases htm:fC until_ with
  | false=>
   rw[if_neg (by simp)];have HTM:=hide htm;clear htm;go_enter Tryz.func49,Tryz.ntmps49;go_wp2_with (first
    | (go_at_call 83;refine HF.out.mono ?_;rintro e w1 ⟨rfl,ha⟩;obtain⟨S1,hq1,hs1⟩:=ha;have hbQ:=a_ w1 (o_ #[.int .i64 qx,.int .i64 qy,.string qd] 145);have c0':=(b_ (HQ.out.new hs1 (k:=w.heap.size) (by omega) (by rw[hsz];omega)).1).trans c0;replace c0':=aA hbQ c0';have c1':=(b_ (HQ.out.new hs1 (k:=w.heap.size+1) (by omega) (by rw[hsz];omega)).1).trans c1;replace c1':=aA hbQ c1';have c5':=(b_ (HQ.out.new hs1 (k:=w.heap.size+1+1) (by omega) (by rw[hsz];omega)).1).trans c5;replace c5':=aA hbQ c5';have c6':=(b_ (HQ.out.new hs1 (k:=w.heap.size+1+1+1) (by omega) (by rw[hsz];omega)).1).trans c6;replace c6':=aA hbQ c6';have HQ1:=hide (hq1.on hbQ);have HS1:=hide ((aG.on HQ.out.pv.lo HBA.out).trans (hs1.trans (.on hq1.pv.lo hbQ)));have HA2:Hid (ActQ w (w1.alloc (o_ #[.int .i64 qx,.int .i64 qy,.string qd] 145)) B wb S P since chs rds1):=⟨S1,HQ1.out,HS1.out⟩;clear hq1 hs1 hbQ;rw[HE1.out])
    | (go_at_call 112;refine(fI until_ _).mono ?_;rintro e w2 ⟨rfl,rfl⟩;rw[HTM.out])
    | fail)
   go_ret2;exact⟨rfl,HA2.out⟩
  | true=>
   rw[if_pos rfl];have HTM:=hide htm;clear htm;have HW:=hide (fun (W W0:World) (S1:Nat->Prop) (hQ:QV W0 B wb S1 P since chs rds1) (hb:Below W0.heap.size W0 W) (qb:Nat) (e0:W0.cell? ⟨w.heap.size,0,none⟩=some (.pointer (some ⟨wb,0,none⟩))) (e1:W0.cell? ⟨w.heap.size+1,0,none⟩=some (.string name)) (e2:W0.cell? ⟨qb,0,none⟩=some (.int .i64 qx)) (e3:W0.cell? ⟨qb,1,none⟩=some (.int .i64 qy)) (e4:W0.cell? ⟨qb,2,none⟩=some (.string qd)) (e5:W0.cell? ⟨w.heap.size+1+1,0,none⟩=some (.string body)) (e6:W0.cell? ⟨w.heap.size+1+1+1,0,none⟩=some (.int .i64 until_))=>zEZ w.heap.size (w.heap.size+1) qb (w.heap.size+1+1) (w.heap.size+1+1+1) name qx qy qd body until_ W (hQ.on hb) hn (by omega) hx0 hx1 (aA hb e0) (aA hb e1) (aA hb e2) (aA hb e3) (aA hb e4) (aA hb e5) (aA hb e6));generalize addQ chs name qx qy qd body until_=r at *;have HWH:=hide (fun (W0:World) (S1:Nat->Prop) (hQ:QV W0 B wb S1 P since chs rds1) (qb:Nat) (e0:W0.cell? ⟨w.heap.size,0,none⟩=some (.pointer (some ⟨wb,0,none⟩))) (e1:W0.cell? ⟨w.heap.size+1,0,none⟩=some (.string name)) (e2:W0.cell? ⟨qb,0,none⟩=some (.int .i64 qx)) (e3:W0.cell? ⟨qb,1,none⟩=some (.int .i64 qy)) (e4:W0.cell? ⟨qb,2,none⟩=some (.string qd)) (e5:W0.cell? ⟨w.heap.size+1+1,0,none⟩=some (.string body)) (e6:W0.cell? ⟨w.heap.size+1+1+1,0,none⟩=some (.int .i64 until_))=>zET W0 hQ (fun W hb=>HW.out W W0 S1 hQ hb qb e0 e1 e2 e3 e4 e5 e6));clear HW;by_cases hz:r.2.1=0
   ·rw[if_pos hz];simp only[if_pos hz] at HWH;have HZ:=hide hz;clear hz;go_enter Tryz.func49,Tryz.ntmps49;go_wp2_with (first
     | (go_at_call 83;refine HF.out.mono ?_;rintro e w1 ⟨rfl,ha⟩;obtain⟨S1,hq1,hs1⟩:=ha;have hbQ:=a_ w1 (o_ #[.int .i64 qx,.int .i64 qy,.string qd] 145);have c0':=(b_ (HQ.out.new hs1 (k:=w.heap.size) (by omega) (by rw[hsz];omega)).1).trans c0;replace c0':=aA hbQ c0';have c1':=(b_ (HQ.out.new hs1 (k:=w.heap.size+1) (by omega) (by rw[hsz];omega)).1).trans c1;replace c1':=aA hbQ c1';have c5':=(b_ (HQ.out.new hs1 (k:=w.heap.size+1+1) (by omega) (by rw[hsz];omega)).1).trans c5;replace c5':=aA hbQ c5';have c6':=(b_ (HQ.out.new hs1 (k:=w.heap.size+1+1+1) (by omega) (by rw[hsz];omega)).1).trans c6;replace c6':=aA hbQ c6';have HQ1:=hide (hq1.on hbQ);have HS1:=hide ((aG.on HQ.out.pv.lo HBA.out).trans (hs1.trans (.on hq1.pv.lo hbQ)));have HA2:Hid (ActQ w (w1.alloc (o_ #[.int .i64 qx,.int .i64 qy,.string qd] 145)) B wb S P since chs rds1):=⟨S1,HQ1.out,HS1.out⟩;clear hq1 hs1 hbQ;rw[HE1.out])
     | (go_at_call 112;refine(fI until_ _).mono ?_;rintro e w2 ⟨rfl,rfl⟩;rw[HTM.out])
     | (go_at_call 113;refine(HWH.out _ S1 HQ1.out w1.heap.size c0' c1' (aC w1 _ _ 0) (aC w1 _ _ 1) (aC w1 _ _ 2) c5' c6').mono ?_;rintro e w3 ⟨rfl,ha⟩;have HA3:=hide (ActQ.after HS1.out ha);clear ha)
     | fail)
    go_ret2;exact⟨by rw[HZ.out];rfl,HA3.out⟩
   ·rw[if_neg hz];simp only[if_neg hz] at HWH;clear hz;go_enter Tryz.func49,Tryz.ntmps49;go_wp2_with (first
     | (go_at_call 83;refine HF.out.mono ?_;rintro e w1 ⟨rfl,ha⟩;obtain⟨S1,hq1,hs1⟩:=ha;have hbQ:=a_ w1 (o_ #[.int .i64 qx,.int .i64 qy,.string qd] 145);have c0':=(b_ (HQ.out.new hs1 (k:=w.heap.size) (by omega) (by rw[hsz];omega)).1).trans c0;replace c0':=aA hbQ c0';have c1':=(b_ (HQ.out.new hs1 (k:=w.heap.size+1) (by omega) (by rw[hsz];omega)).1).trans c1;replace c1':=aA hbQ c1';have c5':=(b_ (HQ.out.new hs1 (k:=w.heap.size+1+1) (by omega) (by rw[hsz];omega)).1).trans c5;replace c5':=aA hbQ c5';have c6':=(b_ (HQ.out.new hs1 (k:=w.heap.size+1+1+1) (by omega) (by rw[hsz];omega)).1).trans c6;replace c6':=aA hbQ c6';have HQ1:=hide (hq1.on hbQ);have HS1:=hide ((aG.on HQ.out.pv.lo HBA.out).trans (hs1.trans (.on hq1.pv.lo hbQ)));have HA2:Hid (ActQ w (w1.alloc (o_ #[.int .i64 qx,.int .i64 qy,.string qd] 145)) B wb S P since chs rds1):=⟨S1,HQ1.out,HS1.out⟩;clear hq1 hs1 hbQ;rw[HE1.out])
     | (go_at_call 112;refine(fI until_ _).mono ?_;rintro e w2 ⟨rfl,rfl⟩;rw[HTM.out])
     | (go_at_call 113;refine(HWH.out _ S1 HQ1.out w1.heap.size c0' c1' (aC w1 _ _ 0) (aC w1 _ _ 1) (aC w1 _ _ 2) c5' c6').mono ?_;rintro e w3 ⟨rfl,ha⟩;have HA3:=hide (ActQ.after HS1.out ha);clear ha)
     | fail)
    go_ret2;exact⟨rfl,HA3.out⟩
 ·rw[if_neg h1];have HE1:=hide (bJ h1);clear h1 HFO;go_enter Tryz.func49,Tryz.ntmps49;go_wp2_with (first
   | (go_at_call 83;refine HF.out.mono ?_;rintro e w1 ⟨rfl,ha⟩;obtain⟨S1,hq1,hs1⟩:=ha;have hbQ:=a_ w1 (o_ #[.int .i64 qx,.int .i64 qy,.string qd] 145);have c0':=(b_ (HQ.out.new hs1 (k:=w.heap.size) (by omega) (by rw[hsz];omega)).1).trans c0;replace c0':=aA hbQ c0';have c1':=(b_ (HQ.out.new hs1 (k:=w.heap.size+1) (by omega) (by rw[hsz];omega)).1).trans c1;replace c1':=aA hbQ c1';have c5':=(b_ (HQ.out.new hs1 (k:=w.heap.size+1+1) (by omega) (by rw[hsz];omega)).1).trans c5;replace c5':=aA hbQ c5';have c6':=(b_ (HQ.out.new hs1 (k:=w.heap.size+1+1+1) (by omega) (by rw[hsz];omega)).1).trans c6;replace c6':=aA hbQ c6';have HQ1:=hide (hq1.on hbQ);have HS1:=hide ((aG.on HQ.out.pv.lo HBA.out).trans (hs1.trans (.on hq1.pv.lo hbQ)));have HA2:Hid (ActQ w (w1.alloc (o_ #[.int .i64 qx,.int .i64 qy,.string qd] 145)) B wb S P since chs rds1):=⟨S1,HQ1.out,HS1.out⟩;clear hq1 hs1 hbQ;rw[HE1.out])
   | fail)
  go_ret2;exact⟨HE1.out▸rfl,HA2.out⟩
end
theorem zMU {l:List UInt8} (h:sixL l=true):∃ n,n<=999999/\l=six n:=by
 simp only[sixL,Bool.and_eq_true,decide_eq_true_eq] at h;obtain⟨h6,hd⟩:=h
 match l,h6 with
 | [a,b,c,d,e,f],_=>
  have g:∀ i,i<6->eZ ([a,b,c,d,e,f].getD i 0)=true:=fun i hi=>List.all_eq_true.1 hd i (List.mem_range.2 hi);have g':∀ x:UInt8,eZ x=true->48<=x.toNat/\x.toNat<=57:=fun x hx=>by simpa[eZ] using hx
  have ha:=g' a (g 0 (by omega));have hb:=g' b (g 1 (by omega));have hc:=g' c (g 2 (by omega));have hd:=g' d (g 3 (by omega));have he:=g' e (g 4 (by omega));have hf:=g' f (g 5 (by omega));refine⟨100000*(a.toNat-48)+10000*(b.toNat-48)+1000*(c.toNat-48)+100*(d.toNat-48)+10*(e.toNat-48)+(f.toNat-48),by omega,?_⟩;have one:∀ (x:UInt8) (n i:Nat),48<=x.toNat->n / 10 ^ i % 10=x.toNat-48->x=dgt n i:=fun x n i h48 h=>UInt8.toNat_inj.1 (by rw[iU,h];omega);simp only[six];rw[<-one a _ 5 ha.1 (by omega),<-one b _ 4 hb.1 (by omega),<-one c _ 3 hc.1 (by omega),<-one d _ 2 hd.1 (by omega),<-one e _ 1 he.1 (by omega),<-one f _ 0 hf.1 (by omega)]
theorem zJz {q k:ByteArray} (hq:bK q.data.toList=true) (hk:keyL k.data.toList=true) (hs:hasS (aZ q) (toB q) k=true):∃ n,n<=999999/\k=msgB q n:=by
 rw[zCP,rI] at hs;obtain⟨r,hr⟩:=List.isPrefixOf_iff_prefix.1 hs;have e:k.data.toList=109::47::(q.data.toList++47::r):=by rw[<-hr];simp
 have t:Lib.trimPrefix k.data.toList [109,47]=q.data.toList++47::r:=by rw[e,Lib.trimPrefix];simp[Lib.hasPrefix]
 have m:kW k.data.toList=true:=by
  rw[keyL,Bool.or_eq_true,Bool.or_eq_true] at hk;rcases hk with h|h|h
  ·rw[e,jE] at h;simp[Lib.hasPrefix] at h
  ·rw[e,jE] at h;simp[Lib.hasPrefix] at h
  ·exact h
 rw[kW,t,sM (xC hq),nY,Bool.and_eq_true,Bool.and_eq_true,Bool.and_eq_true] at m;have hx:=m.2.2.2;have d:(q.data.toList++47::r).drop (q.data.toList.length+1)=r:=by rw[List.drop_append];simp
 rw[Int.toNat_natCast,d] at hx;obtain⟨n,hn,rfl⟩:=zMU hx;exact⟨n,hn,kG (by rw[e,mN])⟩
theorem zEM {q:ByteArray} (n:Nat):Lib.lastIndexByte (msgB q n) 47=(q.size:Int)+2:=by
 have hl:=mN q n;have hz:=pS q n;have at_:∀ j:Nat,(msgB q n).data[j]! = (109::47::(q.data.toList++47::six n))[j]?.getD (default:UInt8):=by
  intro j;rw[<-hl,Array.getElem?_toList,Array.getElem!_eq_getD,Array.getD_eq_getD_getElem?]
 have ql:q.data.toList.length=q.size:=by rw[Array.length_toList];rfl
 rcases Lib.lastIndexByte_spec (msgB q n) 47 with⟨_,hno⟩|⟨i,hi,he,hc,hno⟩
 ·exfalso;refine hno (q.size+2) (by omega) ?_;rw[at_,<-ql];simp
 ·rw[he];have:i=q.size+2:=by
   rcases Nat.lt_trichotomy i (q.size+2) with h|h|h
   ·exfalso;refine hno (q.size+2) h (by omega) ?_;rw[at_,<-ql];simp
   ·exact h
   ·exfalso;rw[at_] at hc;obtain⟨j,rfl⟩:∃ j,i=q.data.toList.length+j+3:=⟨i-q.size-3,by omega⟩;have e2:(109::47::(q.data.toList++47::six n))[q.data.toList.length+j+3]?=(six n)[j]?:=by
     rw[List.getElem?_cons_succ,List.getElem?_cons_succ,show q.data.toList.length+j+1=q.data.toList.length+(j+1) by omega,List.getElem?_append_right (by omega)];simp
    rw[e2] at hc;have hj:j<6:=by omega
    have h6:∀ x∈six n,x.toNat≠47:=by
     intro x hx;simp only[six,List.mem_cons,List.not_mem_nil,or_false] at hx;have g:=fun i=>iU n i;rcases hx with rfl|rfl|rfl|rfl|rfl|rfl<;>rw[iU]<;>omega
    have hjl:j<(six n).length:=hj;rw[List.getElem?_eq_getElem hjl] at hc;have hh:((six n)[j]).toNat=47:=by simp only[Option.getD_some] at hc;omega
    exact h6 _ (List.getElem_mem hjl) hh
  omega
theorem zHI {q:ByteArray} (n:Nat):((msgB q n).extract (q.size+3) (q.size+9)).data.toList=six n:=by
 have ql:q.data.toList.length=q.size:=by rw[Array.length_toList];rfl
 rw[ByteArray.data_extract,Array.toList_extract,mN];have:(109::47::(q.data.toList++47::six n)).extract (q.size+3) (q.size+9)=six n:=by
  rw[List.extract_eq_take_drop,<-ql];have d:(109::47::(q.data.toList++47::six n)).drop (q.data.toList.length+3)=six n:=by
   rw[List.drop_succ_cons,List.drop_succ_cons,List.drop_append];simp
  rw[d,show q.data.toList.length+9-(q.data.toList.length+3)=6 by omega];rfl
 exact this
theorem zIV (k:Nat) (l:List UInt8):Lib.decFrom 0 (List.replicate k 48++l)=Lib.decFrom 0 l:=by
 induction k with
 | zero=>rfl
 | succ k ih=>rw[List.replicate_succ,List.cons_append,Lib.decFrom];exact ih
theorem zDN (n:Nat) (hn:n<=999999):Lib.atoi (six n)=some (n:Int):=by
 have h:Lib.decFrom 0 (six n)=some n:=by rw[<-zAT n hn,zIV,zDQ]
 have hb:=zMs n 5;have n1:(dgt n 5==45)=false:=beq_eq_false_iff_ne.2 (rM hb 45 (by decide));have n2:(dgt n 5==43)=false:=beq_eq_false_iff_ne.2 (rM hb 43 (by decide));rw[six] at h;simp only[Lib.atoi,six,n1,n2,Lib.decNat,h];rfl
section
open Go.RowKit Go.Joins
def numK (k:ByteArray):Int:=(Lib.atoi (k.data.toList.drop (k.size-6))).getD 0
theorem zDT (q:ByteArray) {n:Nat} (hn:n<=999999):numK (msgB q n)=n:=by
 have ql:q.data.toList.length=q.size:=by rw[Array.length_toList];rfl
 unfold numK;rw[pS,mN,show q.size+9-6=q.size+3 by omega,<-ql];have d:(109::47::(q.data.toList++47::six n)).drop (q.data.toList.length+3)=six n:=by
  rw[List.drop_succ_cons,List.drop_succ_cons,List.drop_append];simp
 rw[d,zDN n hn];rfl
def kT (L rds:Rws) (s:ByteArray×ByteArray):Nat:=if cZ rds (rdS L s 1)=0 then (match L with|[]=>12|_::_=>0) else cZ rds (rdS L s 1)
def eE (L rds:Rws) (s:ByteArray×ByteArray):ByteArray×ByteArray:=if cZ rds (rdS L s 1)=0 then (match L with|[]=>(⟨#[]⟩,⟨#[]⟩)|r::_=>r) else (⟨#[]⟩,⟨#[]⟩)
def rR (L rds:Rws) (s:ByteArray×ByteArray):Rws:=gX rds (rdS L s 1)
theorem zKK {L rds:Rws} {s:ByteArray×ByteArray} (h:kT L rds s=0):eE L rds s∈L:=by
 unfold kT at h;unfold eE;split at h
 ·rename_i h0;rw[if_pos h0]
  cases L with
  | nil=>cases h
  | cons r L=>exact List.mem_cons_self ..
 ·rename_i h0;exact absurd h h0
def iH (P:Rws) (chs:List Chg) (rds:Rws) (key dead body:ByteArray):Nat×List Chg×Rws:=
 if cH chs ⟨key,⟨#[]⟩,true⟩=0 then
  if nilS dead=true then (0,bG chs ⟨key,⟨#[]⟩,true⟩,rds)
  else if (aN P (bG chs ⟨key,⟨#[]⟩,true⟩) rds dead).2.2.2=0 then
   ((addQ (bG chs ⟨key,⟨#[]⟩,true⟩) dead (aN P (bG chs ⟨key,⟨#[]⟩,true⟩) rds dead).1 (aN P (bG chs ⟨key,⟨#[]⟩,true⟩) rds dead).2.1 (aN P (bG chs ⟨key,⟨#[]⟩,true⟩) rds dead).2.2.1 body 0).2.1,
   (addQ (bG chs ⟨key,⟨#[]⟩,true⟩) dead (aN P (bG chs ⟨key,⟨#[]⟩,true⟩) rds dead).1 (aN P (bG chs ⟨key,⟨#[]⟩,true⟩) rds dead).2.1 (aN P (bG chs ⟨key,⟨#[]⟩,true⟩) rds dead).2.2.1 body 0).2.2,
   bC (bG chs ⟨key,⟨#[]⟩,true⟩) rds dead)
  else ((aN P (bG chs ⟨key,⟨#[]⟩,true⟩) rds dead).2.2.2,bG chs ⟨key,⟨#[]⟩,true⟩,bC (bG chs ⟨key,⟨#[]⟩,true⟩) rds dead)
 else (cH chs ⟨key,⟨#[]⟩,true⟩,bG chs ⟨key,⟨#[]⟩,true⟩,rds)
def eO (P:Rws) (name:ByteArray) (tries:Int) (dead:ByteArray) (now until_:Int):Nat->List Chg->Rws->ByteArray->Msg×List Chg×Rws
 | 0,chs,rds,_=>(noM 0,chs,rds)
 | k+1,chs,rds,at_=>
  let L:=aF P chs (at_,toB name)
  let rds1:=rR L rds (at_,toB name)
  if kT L rds (at_,toB name)=0 then
   let r:=eE L rds (at_,toB name)
   let m:=mOf r.2 (numK r.1)
   if m.2.2.2.2=0 then
    if now<m.2.2.1 then eO P name tries dead now until_ k chs rds1 (cX r.1)
    else if m.2.1<tries then ((m.1,m.2.1+1,until_,m.2.2.2.1,mK chs name m.1 (m.2.1+1) until_ m.2.2.2.1),nA chs name m.1 (m.2.1+1) until_ m.2.2.2.1,rds1)
    else if (iH P chs rds1 r.1 dead m.2.2.2.1).1=0 then eO P name tries dead now until_ k (iH P chs rds1 r.1 dead m.2.2.2.1).2.1 (iH P chs rds1 r.1 dead m.2.2.2.1).2.2 (cX r.1)
    else (noM (iH P chs rds1 r.1 dead m.2.2.2.1).1,(iH P chs rds1 r.1 dead m.2.2.2.1).2.1,(iH P chs rds1 r.1 dead m.2.2.2.1).2.2)
   else (noM m.2.2.2.2,chs,rds1)
  else (noM (kT L rds (at_,toB name)),chs,rds1)
def AtQ (name:ByteArray) (k:Nat) (at_:ByteArray):Prop:=(at_=aZ name/\1000001<=k)∨∃ n,n<=999999/\at_=cX (msgB name n)/\1000000-n<=k
theorem zAK {f t k:ByteArray} (h:hasS f t k=true):leS f k=true:=by unfold hasS at h;rw[Bool.and_eq_true] at h;exact h.1
theorem zDy (a b:ByteArray):leS (cX a) b=ltS a b:=by rw[mA,zLn,mA,Bool.not_not]
theorem AtQ.pos {name at_:ByteArray} {k:Nat} (h:AtQ name k at_):0<k:=by
 rcases h with⟨_,h⟩|⟨n,hn,_,h⟩<;>omega
theorem zKO {name:ByteArray} (hq:bK name.data.toList=true) (n:Nat):hasS (aZ name) (toB name) (msgB name n)=true:=by rw[zKW hq hq,xB]
theorem zID {a b c:ByteArray} (h:leS a b=true) (k:leS b c=true):leS a c=true:=by
 rw[jM] at *;rcases h with h|rfl
 ·rcases k with k|rfl
  ·exact .inl (cL h k)
  ·exact .inl h
 ·exact k
theorem AtQ.span {name at_ key:ByteArray} {k:Nat} (h:AtQ name k at_) (hq:bK name.data.toList=true) (hs:hasS at_ (toB name) key=true):hasS (aZ name) (toB name) key=true:=by
 rcases h with⟨rfl,_⟩|⟨n,hn,rfl,_⟩
 ·exact hs
 ·have h1:=zAK hs;rw[zDy] at h1;have h2:=zAK (zKO hq n);unfold hasS at hs ⊢;rw[Bool.and_eq_true] at hs ⊢;exact⟨zID h2 ((jM _ _).2 (.inl h1)),hs.2⟩
theorem AtQ.next {name at_ key:ByteArray} {k:Nat} (h:AtQ name (k+1) at_) (hq:bK name.data.toList=true) (hk:keyL key.data.toList=true) (hs:hasS at_ (toB name) key=true):∃ n,n<=999999/\key=msgB name n/\AtQ name k (cX key):=by
 obtain⟨n,hn,rfl⟩:=zJz hq hk (h.span hq hs);refine⟨n,hn,rfl,.inr ⟨n,hn,rfl,?_⟩⟩;rcases h with⟨_,h⟩|⟨m,hm,rfl,h⟩
 ·omega
 ·have h1:=zAK hs;rw[zDy,zM1 name hm hn,decide_eq_true_eq] at h1;omega
def dK (P:Rws) (chs:List Chg) (rds:Rws) (name:ByteArray) (now long:Int):Msg×List Chg×Rws:=
 if (aN P chs rds name).2.2.2=0 then
  if fC now=true/\fC long=true then
   if (eO P name (aN P chs rds name).2.1 (aN P chs rds name).2.2.1 now (now+long) 1000001 chs (bC chs rds name) (aZ name)).1.2.2.2.2=0 then eO P name (aN P chs rds name).2.1 (aN P chs rds name).2.2.1 now (now+long) 1000001 chs (bC chs rds name) (aZ name)
   else (noM (eO P name (aN P chs rds name).2.1 (aN P chs rds name).2.2.1 now (now+long) 1000001 chs (bC chs rds name) (aZ name)).1.2.2.2.2,chs,(eO P name (aN P chs rds name).2.1 (aN P chs rds name).2.2.1 now (now+long) 1000001 chs (bC chs rds name) (aZ name)).2.2)
  else (noM 1,chs,bC chs rds name)
 else (noM (aN P chs rds name).2.2.2,chs,bC chs rds name)
def eN:Rws->Nat
 | []=>0
 | r::l=>if (mOf r.2 (numK r.1)).2.2.2.2=0 then eN l else (mOf r.2 (numK r.1)).2.2.2.2
def jQ (l:Rws):List Msg:=l.map fun r=>mOf r.2 (numK r.1)
def cY (P:Rws) (chs:List Chg) (rds:Rws) (name:ByteArray):Nat×List Msg×Rws:=
 if (aN P chs rds name).2.2.2=0 then
  if dL (aF P chs (aZ name,toB name)) (bC chs rds name) (aZ name,toB name) 53=0 then
   if eN ((aF P chs (aZ name,toB name)).take 53)=0 then (0,jQ ((aF P chs (aZ name,toB name)).take 53),eP (aF P chs (aZ name,toB name)) (bC chs rds name) (aZ name,toB name) 53)
   else (eN ((aF P chs (aZ name,toB name)).take 53),[],eP (aF P chs (aZ name,toB name)) (bC chs rds name) (aZ name,toB name) 53)
  else (dL (aF P chs (aZ name,toB name)) (bC chs rds name) (aZ name,toB name) 53,[],eP (aF P chs (aZ name,toB name)) (bC chs rds name) (aZ name,toB name) 53)
 else ((aN P chs rds name).2.2.2,[],bC chs rds name)
end
section
open Go.RowKit Go.Joins Go.Shelf
attribute [local go_sem ↓] Go.wp_at_zero Go.wp_at_succ
section
variable {w w':World} {B wb:Nat} {S S':Nat->Prop} {P:Rws} {since:Sn} {chs:List Chg} {rds rds':Rws}
theorem QV.to (h:QV w B wb S P since chs rds) (hp:PV w' B wb S' P since chs rds') (hs:aG w w' B S S'):QV w' B wb S' P since chs rds':=⟨hp,h.ok,fun W hW=>h.la W (hs.bel.trans hW)⟩
theorem tS (L rds:Rws) (s:ByteArray×ByteArray):dL L rds s 1=cZ rds (rdS L s 1):=if_neg (by omega)
theorem zAW (L rds:Rws) (s:ByteArray×ByteArray):eP L rds s 1=gX rds (rdS L s 1):=if_neg (by omega)
theorem zBd (s:ByteArray×ByteArray) (m:Int) (w:World) (h:QV w B wb S P since chs rds) (hm:m<=9223372036854775807) (hf:dL (aF P chs s) rds s m≠0):
  Calls p_ 42 #[.pointer (some ⟨wb,0,none⟩),.agg #[.string s.1,.string s.2],.int .i64 m] w fun e w'=>e=.returned (.tuple #[.slice none 0 0,errV (dL (aF P chs s) rds s m)])/\ActQ w w' B wb S P since chs (eP (aF P chs s) rds s m):=
 (vM s m w h.pv hm).mono fun _ _ hv=>⟨(hv.2 hf).1,h.act h.ok (hv.2 hf).2⟩
def zM8 (w w':World) (v:Value) (B wb:Nat) (S:Nat->Prop) (P:Rws) (since:Sn) (chs:List Chg) (rds l:Rws):Prop:=
 ∃ ao cap S',v=.slice ao l.length cap/\l.length<=cap/\cap<=9223372036854775807/\bY w' ao l/\QV w' B wb S' P since chs rds/\aG w w' B S S'/\∀ b off,ao=some ⟨b,off,none⟩->w.heap.size<=b/\b<w'.heap.size/\¬S' b
theorem zDp (s:ByteArray×ByteArray) (m:Int) (w:World) (h:QV w B wb S P since chs rds) (hm:m<=9223372036854775807) (hf:dL (aF P chs s) rds s m=0):
  Calls p_ 42 #[.pointer (some ⟨wb,0,none⟩),.agg #[.string s.1,.string s.2],.int .i64 m] w fun e w'=>∃ v,e=.returned (.tuple #[v,.nilIface])/\zM8 w w' v B wb S P since chs (eP (aF P chs s) rds s m) ((aF P chs s).take m.toNat):=
 (vM s m w h.pv hm).mono fun _ _ hv=>by
  obtain⟨ao,cap,he,hc,hh,S',hp,hs,hn⟩:=hv.1 hf;exact⟨_,he,ao,cap,S',rfl,hc.1,hc.2,hh,h.to hp hs,hs,hn⟩
end
theorem zGg (s:ByteArray×ByteArray) {B wb:Nat} {S:Nat->Prop} {P:Rws} {since:Sn} {chs:List Chg} {rds:Rws} (w:World) (h:QV w B wb S P since chs rds):
  Calls p_ 175 #[.pointer (some ⟨wb,0,none⟩),.agg #[.string s.1,.string s.2]] w fun e w'=>e=.returned (.tuple #[.agg #[.string (eE (aF P chs s) rds s).1,.string (eE (aF P chs s) rds s).2],errV (kT (aF P chs s) rds s)])/\ActQ w w' B wb S P since chs (rR (aF P chs s) rds s):=by
 have n1:=bM 114;have hb1:=a_ w (o_ #[.string s.1,.string s.2] 80);have HX:=hide (BoxQ.start (h.on hb1) #[v_ ⟨#[]⟩,v_ ⟨#[]⟩] 165);have hz:(w.alloc (o_ #[.string s.1,.string s.2] 80)).heap.size=w.heap.size+1:=by simp
 have hb2:=a_ (w.alloc (o_ #[.string s.1,.string s.2] 80)) (o_ #[.string ⟨#[]⟩,v_ ⟨#[]⟩] 165);have HLO:=hide h.pv.lo;have HQ:=hide h;have HPRE:=hide (fun (w':World) (c:List Chg) (r:Rws)=>h.pre (w':=w') (chs':=c) (rds':=r) hb1);have s0:((w.alloc (o_ #[.string s.1,.string s.2] 80)).alloc (o_ #[.string ⟨#[]⟩,v_ ⟨#[]⟩] 165)).cell? ⟨w.heap.size,0,none⟩=some (.string s.1):=aA hb2 (aC w _ _ 0);have s1:((w.alloc (o_ #[.string s.1,.string s.2] 80)).alloc (o_ #[.string ⟨#[]⟩,v_ ⟨#[]⟩] 165)).cell? ⟨w.heap.size,1,none⟩=some (.string s.2):=aA hb2 (aC w _ _ 1);have r0:((w.alloc (o_ #[.string s.1,.string s.2] 80)).alloc (o_ #[.string ⟨#[]⟩,v_ ⟨#[]⟩] 165)).cell? ⟨w.heap.size+1,0,none⟩=some (.string ⟨#[]⟩):=by simp
 have r1:((w.alloc (o_ #[.string s.1,.string s.2] 80)).alloc (o_ #[.string ⟨#[]⟩,v_ ⟨#[]⟩] 165)).cell? ⟨w.heap.size+1,1,none⟩=some (.string ⟨#[]⟩):=by simp
 rw[hz] at HX;have HLO1:Hid (B<=(w.alloc (o_ #[.string s.1,.string s.2] 80)).heap.size):=hide (by rw[hz];have:=h.pv.lo;omega);by_cases hf:cZ rds (rdS (aF P chs s) s 1)=0
 ·have HSC:=hide (zDp s 1 _ HX.out.qv (by omega) ((tS _ _ _).trans hf));rw[zAW,show((1:Int).toNat)=1 from rfl] at HSC;unfold rR kT eE;rw[if_pos hf,if_pos hf];clear h hb1 hb2 HQ hf;generalize aF P chs s=L at *;generalize gX rds (rdS L s 1)=rds1 at *
  cases L with
  | nil=>
   dsimp only;rw[List.take_nil] at HSC;go_enter Tryz.func175,Tryz.ntmps175;go_wp2_with (first
    | (go_at_call 42;refine HSC.out.mono ?_;rintro e w2 ⟨v,rfl,ha⟩;obtain⟨ao,cap,S2,rfl,hc1,hc2,hh,hq2,hs2,hn2⟩:=ha;obtain⟨hx2,eb⟩:=HX.out.go hq2 hs2;have fz:=hx2.fz;replace r0:=(b_ eb).trans r0;replace r1:=(b_ eb).trans r1;have HX2:=hide hx2;clear hx2 eb hq2 hs2 hn2 hh;rw[List.length_nil])
    | fail)
   exact bodyPost_ret (v:=.tuple #[.agg #[.string ⟨#[]⟩,.string ⟨#[]⟩],errV 12]) (by simp[errV,results,Tryz.results175,go_sem,r0,r1]) rfl ⟨rfl,HPRE.out _ _ _ ((HX2.out.set HLO1.out 0 _).set HLO1.out 1 _).done⟩
  | cons r L=>
   dsimp only;rw[show(r::L).take 1=[r] from rfl] at HSC;go_enter Tryz.func175,Tryz.ntmps175;go_wp2_with (first
    | (go_at_call 42;refine HSC.out.mono ?_;rintro e w2 ⟨v,rfl,ha⟩;obtain⟨ao,cap,S2,rfl,hc1,hc2,hh,hq2,hs2,hn2⟩:=ha;obtain⟨hx2,eb⟩:=HX.out.go hq2 hs2;have fz:=hx2.fz;replace r0:=(b_ eb).trans r0;replace r1:=(b_ eb).trans r1;have HX2:=hide hx2;rcases hh with hh|⟨b,off,rfl,hh⟩;exact absurd hh (by simp);have a0:=(hh 0 (by simp)).1;have a1:=(hh 0 (by simp)).2;have hn3:=hn2 b off rfl;clear hx2 eb hq2 hs2 hn2 hh;rw[List.length_singleton];simp only[Nat.zero_mul,Nat.add_zero,List.getElem_cons_zero] at a0 a1)
    | fail)
   exact bodyPost_ret (v:=.tuple #[.agg #[.string r.1,.string r.2],errV 0]) (by simp[errV,results,Tryz.results175,go_sem,r0,r1]) rfl ⟨rfl,HPRE.out _ _ _ ((HX2.out.set HLO1.out 0 _).set HLO1.out 1 _).done⟩
 ·have HSC:=hide (zBd s 1 _ HX.out.qv (by omega) (fun e=>hf ((tS _ _ _).symm.trans e)));rw[zAW,tS] at HSC;unfold rR kT eE;rw[if_neg hf,if_neg hf];clear h hb1 hb2 HQ;generalize aF P chs s=L at *;generalize gX rds (rdS L s 1)=rds1 at *;generalize cZ rds (rdS L s 1)=f at *;have HE:=hide (bJ hf);clear hf;go_enter Tryz.func175,Tryz.ntmps175;go_wp2_with (first
   | (go_at_call 42;refine HSC.out.mono ?_;rintro e w2 ⟨rfl,ha⟩;obtain⟨S2,hx2,eb⟩:=HX.out.act ha;have fz:=hx2.fz;replace r0:=(b_ eb).trans r0;replace r1:=(b_ eb).trans r1;have HX2:=hide hx2;clear ha hx2 eb;rw[HE.out])
   | fail)
  exact bodyPost_ret (v:=.tuple #[.agg #[.string ⟨#[]⟩,.string ⟨#[]⟩],errV f]) (by simp[results,Tryz.results175,go_sem,r0,r1,HE.out]) rfl ⟨rfl,HPRE.out _ _ _ ((HX2.out.set HLO1.out 0 _).set HLO1.out 1 _).done⟩
end
end Go.Proofs.YtnboipekkahmnaaGreatDoor
namespace Go.Proofs
open Obj renaming cells→o_
open World renaming cell?_of_block→b_,cell?_setCell_other→t_,cell?_setCell_same→u_,ownsRow.lt→l_
open Go.RowKit.Below renaming heap_setCell→h_,refl→r_
open Nat renaming le_refl→n_
open Tryz renaming prog→p_
open Value renaming string→v_,int→i_
open Go.Joins renaming below_alloc1→a_
section
open Go.Shelf
def Tryz.lays149_ren:Go.Shelf.Ren:=⟨fun|149=>219|222=>257|n=>n,fun|9=>9|5=>5|3=>3|4=>4|n=>n,fun|n=>n⟩
theorem Tryz.lays149:Go.Proofs.Lays.n149 p_ Tryz.lays149_ren:={
 mixed:=by kernel_rfl
 f149:=Tryz.func219.trans (congrArg some (by kernel_rfl))
 f222:=Tryz.func257.trans (congrArg some (by kernel_rfl))
 t3:=Tryz.underlying3
 a3:=Tryz.isAgg3
 z3:=Tryz.sizeOf3
 v3:=Tryz.zeroValue3
 t4:=Tryz.underlying4
 a4:=Tryz.isAgg4
 z4:=Tryz.sizeOf4
 v4:=Tryz.zeroValue4
 t5:=Tryz.underlying5
 a5:=Tryz.isAgg5
 z5:=Tryz.sizeOf5
 v5:=Tryz.zeroValue5
 t9:=Tryz.underlying9
 a9:=Tryz.isAgg9
 z9:=Tryz.sizeOf9
 v9:=Tryz.zeroValue9 }
open Go.RowKit Go.Lib in
theorem Tryz.strings_LastIndexByte (s:ByteArray) (c:Int) (hs:s.size<4611686018427387904) (w:World):
  Calls p_ 219 #[.string s,.int .u8 c] w fun e w'=>e=.returned (.int .i64 (Lib.lastIndexByte s c))/\w'=w:=Any.strings_LastIndexByte Tryz.lays149 s c hs w
end
end Go.Proofs
namespace Go.Proofs.YtnboipekkahmnaaGreatDoor
open Obj renaming cells→o_
open World renaming cell?_of_block→b_,cell?_setCell_other→t_,cell?_setCell_same→u_,ownsRow.lt→l_
open Go.RowKit.Below renaming heap_setCell→h_,refl→r_
open Nat renaming le_refl→n_
open Tryz renaming prog→p_
open Value renaming string→v_,int→i_
open Go.Joins renaming below_alloc1→a_
section
open Go.RowKit Go.Joins Go.Shelf
attribute [local go_sem ↓] Go.wp_at_zero Go.wp_at_succ
theorem zJ5 (s:ByteArray) (n:Nat) (w:World) (hn:n<=999999) (hs:s.data.toList=six n):Calls p_ 220 #[.string s] w fun e w'=>e=.returned (.tuple #[.int .i64 n,.nilIface])/\Below w.heap.size w w':=
 (Tryz.strconv_Atoi s n (by rw[Lib.size_eq,hs];show 6<=_;omega) (by rw[hs];exact zDN n hn) w).mono fun e w' ⟨he,t,hw⟩=>
  ⟨he,by rw[hw];exact below_bytesWorld _ w 5 t (n_ _)⟩
theorem yN (q:ByteArray) (n:Nat) (val:ByteArray) (w:World) (hq:q.size<=1000) (hn:n<=999999) (hv:val.size<=100) (hL:∀ W,Below w.heap.size w W->Laid W):
  Calls p_ 158 #[.agg #[.string (msgB q n),.string val]] w fun e w'=>e=.returned (.tuple #[mV (mOf val n),errV (mOf val n).2.2.2.2])/\Below w.heap.size w w':=by
 have hks:=pS q n;have HLI:=hide (fun W=>sD (Tryz.strings_LastIndexByte (msgB q n) 47 (by omega) W) (congrArg (i_ .i64) (zEM (q:=q) n)));have HDG:=hide (zHI (q:=q) n);have hb1:=a_ w (o_ #[.string (msgB q n),.string val] 165);have hb2:=a_ (w.alloc (o_ #[.string (msgB q n),.string val] 165)) (o_ #[.int .i64 0,.int .i64 0,.int .i64 0,.string ⟨#[]⟩] 99);have HB:=hide (aB hb1 (n_ _) hb2);have HM:=hide (fun W (hW:Below w.heap.size w W)=>zDb val n hv W (hL W hW));have k0:((w.alloc (o_ #[.string (msgB q n),.string val] 165)).alloc (o_ #[.int .i64 0,.int .i64 0,.int .i64 0,.string ⟨#[]⟩] 99)).cell? ⟨w.heap.size,0,none⟩=some (.string (msgB q n)):=aA hb2 (aC w _ _ 0);have k1:((w.alloc (o_ #[.string (msgB q n),.string val] 165)).alloc (o_ #[.int .i64 0,.int .i64 0,.int .i64 0,.string ⟨#[]⟩] 99)).cell? ⟨w.heap.size,1,none⟩=some (.string val):=aA hb2 (aC w _ _ 1);have hz:(w.alloc (o_ #[.string (msgB q n),.string val] 165)).heap.size=w.heap.size+1:=by simp
 have r0:((w.alloc (o_ #[.string (msgB q n),.string val] 165)).alloc (o_ #[.int .i64 0,.int .i64 0,.int .i64 0,.string ⟨#[]⟩] 99)).cell? ⟨w.heap.size+1,0,none⟩=some (.int .i64 0):=by simp
 have r1:((w.alloc (o_ #[.string (msgB q n),.string val] 165)).alloc (o_ #[.int .i64 0,.int .i64 0,.int .i64 0,.string ⟨#[]⟩] 99)).cell? ⟨w.heap.size+1,1,none⟩=some (.int .i64 0):=by simp
 have r2:((w.alloc (o_ #[.string (msgB q n),.string val] 165)).alloc (o_ #[.int .i64 0,.int .i64 0,.int .i64 0,.string ⟨#[]⟩] 99)).cell? ⟨w.heap.size+1,2,none⟩=some (.int .i64 0):=by simp
 have r3:((w.alloc (o_ #[.string (msgB q n),.string val] 165)).alloc (o_ #[.int .i64 0,.int .i64 0,.int .i64 0,.string ⟨#[]⟩] 99)).cell? ⟨w.heap.size+1,3,none⟩=some (.string ⟨#[]⟩):=by simp
 have fz0:∀ j,((w.alloc (o_ #[.string (msgB q n),.string val] 165)).alloc (o_ #[.int .i64 0,.int .i64 0,.int .i64 0,.string ⟨#[]⟩] 99)).frozen? ⟨w.heap.size+1,j,none⟩=false:=by rw[<-hz];exact aQ _ _ _
 have hsz:((w.alloc (o_ #[.string (msgB q n),.string val] 165)).alloc (o_ #[.int .i64 0,.int .i64 0,.int .i64 0,.string ⟨#[]⟩] 99)).heap.size=w.heap.size+2:=by simp
 clear hb1 hb2 hz hL;generalize mOf val n=m at *;obtain⟨mk,mt,mu,md,em⟩:=m;dsimp only at HM ⊢;go_enter Tryz.func158,Tryz.ntmps158;go_wp2;generalize (w.alloc (o_ #[.string (msgB q n),.string val] 165)).alloc (o_ #[.int .i64 0,.int .i64 0,.int .i64 0,.string ⟨#[]⟩] 99)=X at *;generalize hK:msgB q n=K at *;clear hK;have nS:=OnW.some X;have n0:∀ m:OnW X,m.w.cell? ⟨w.heap.size,0,none⟩=some (.string K):=fun m=>m.cell k0;have hw1:IntKind.i64.wrap ((q.size:Int)+2+1)=(q.size:Int)+3:=by rw[IntKind.wrap_i64];omega
 have h03:(0:Int)<=(q.size:Int)+3:=by omega
 have h3l:(q.size:Int)+3<=(K.size:Int):=by omega
 have h3t:((q.size:Int)+3).toNat=q.size+3:=by omega
 refine dE (by kernel_rfl) (by kernel_rfl) ?_
 repeat (go_big_quiet_step ((first
  | (go_at_call 219;rename_i m;exact zLW (HLI.out _)))))
 refine wpQuiet_nil ?_;intro w3 hw3;replace hw3:=jG hw3;have HB3:=hide (aB HB.out (n_ _) hw3);have HS:=hide (show w.heap.size+1<X.heap.size by omega);replace k1:=aA hw3 k1;replace r0:=aA hw3 r0;replace r1:=aA hw3 r1;replace r2:=aA hw3 r2;replace r3:=aA hw3 r3;have fz3:∀ j,w3.frozen? ⟨w.heap.size+1,j,none⟩=false:=fun j=>aE hw3 HS.out (fz0 j);have hs3:w.heap.size+1<w3.heap.size:=Nat.lt_of_lt_of_le HS.out hw3.size;clear fz0 k0 n0 nS hw3 hsz;go_wp2_with (first
  | (go_at_call 220;refine(zJ5 _ n _ hn HDG.out).mono ?_;rintro e w4 ⟨rfl,hb4⟩;have HB4:=hide (aB HB3.out (n_ _) hb4);replace k1:=aA hb4 k1;replace r0:=aA hb4 r0;replace r1:=aA hb4 r1;replace r2:=aA hb4 r2;replace r3:=aA hb4 r3;have fz4:∀ j,w4.frozen? ⟨w.heap.size+1,j,none⟩=false:=fun j=>aE hb4 hs3 (fz3 j);have hs4:=Nat.lt_of_lt_of_le hs3 hb4.size;clear hb4 fz3 hs3)
  | (go_at_call 177;refine(HM.out _ HB4.out).mono ?_;rintro e w5 ⟨rfl,hb5⟩;have HB5:=hide (aB HB4.out (n_ _) hb5);replace r0:=aA hb5 r0;replace r1:=aA hb5 r1;replace r2:=aA hb5 r2;replace r3:=aA hb5 r3;have fz5:∀ j,w5.frozen? ⟨w.heap.size+1,j,none⟩=false:=fun j=>aE hb5 hs4 (fz4 j);clear hb5 fz4 hs4)
  | fail)
 exact bodyPost_ret (v:=.tuple #[mV (mk,mt,mu,md,em),errV em]) (by simp[results,Tryz.results158,go_sem,r0,r1,r2,r3]) rfl ⟨rfl,(((HB5.out.setCell (p:=⟨w.heap.size+1,0,none⟩) (Nat.le_succ _) _).setCell (p:=⟨w.heap.size+1,1,none⟩) (Nat.le_succ _) _).setCell (p:=⟨w.heap.size+1,2,none⟩) (Nat.le_succ _) _).setCell (p:=⟨w.heap.size+1,3,none⟩) (Nat.le_succ _) _⟩
theorem zJh (key dead body:ByteArray) {B wb:Nat} {S:Nat->Prop} {P:Rws} {since:Sn} {chs:List Chg} {rds:Rws} (w:World) (h:QV w B wb S P since chs rds) (hk:key.size<=maxLen) (hd:dead.size<=1000):
  Calls p_ 176 #[.pointer (some ⟨wb,0,none⟩),.string key,.string dead,.string body] w fun e w'=>e=.returned (errV (iH P chs rds key dead body).1)/\ActQ w w' B wb S P since (iH P chs rds key dead body).2.1 (iH P chs rds key dead body).2.2:=by
 have n1:=bM 114;have HD:=hide (uA key w h hk);have HF:=hide (fun (S1:Nat->Prop) (W:World) (hW:QV W B wb S1 P since (bG chs ⟨key,⟨#[]⟩,true⟩) rds)=>kK dead W hW hd);have HFO:=hide (fun h=>xJ (P:=P) (chs:=bG chs ⟨key,⟨#[]⟩,true⟩) (rds:=rds) (name:=dead) h);unfold iH;clear h;generalize cH chs ⟨key,⟨#[]⟩,true⟩=f1 at *;generalize bG chs ⟨key,⟨#[]⟩,true⟩=chs1 at *;generalize aN P chs1 rds dead=q at *;generalize bC chs1 rds dead=rds1 at *;obtain⟨qx,qy,qd,er⟩:=q;dsimp only at HF HFO ⊢;by_cases h1:f1=0
 ·subst h1;rw[if_pos rfl];have HE1:=hide bX
  cases hde:nilS dead with
  | true=>
   have hde':(dead.toList==[])=true:=by rw[List.isEmpty_iff.1 hde];rfl
   rw[if_pos rfl];clear hde;go_enter Tryz.func176,Tryz.ntmps176;go_wp2_with (first
    | (go_at_call 86;refine HD.out.mono ?_;rintro e w1 ⟨rfl,ha⟩;have HA:=hide ha;clear ha;rw[HE1.out])
    | fail)
   go_ret;exact⟨rfl,HA.out⟩
  | false=>
   have hde':(dead.toList==[])=false:=by unfold nilS at hde;cases e:dead.toList with|nil=>rw[e] at hde;cases hde|cons a l=>rfl
   rw[if_neg (by simp)];clear hde;by_cases h2:er=0
   ·subst h2;rw[if_pos rfl];have HE2:=hide bX;obtain⟨hx0,hx1,hd6,_,_⟩:=HFO.out rfl;have HADD:=hide (fun (S2:Nat->Prop) (W:World) (hW:QV W B wb S2 P since chs1 rds1)=>zDU dead qx qy qd body 0 W hW hd (by omega) hx0 hx1);clear HFO;generalize addQ chs1 dead qx qy qd body 0=r at *;go_enter Tryz.func176,Tryz.ntmps176;go_wp2_with (first
     | (go_at_call 86;refine HD.out.mono ?_;rintro e w1 ⟨rfl,ha⟩;obtain⟨S1,hq1,hs1⟩:=ha;have HQ1:=hide hq1;have HS1:=hide hs1;clear hq1 hs1;rw[HE1.out])
     | (go_at_call 83;refine(HF.out _ _ HQ1.out).mono ?_;rintro e w2 ⟨rfl,ha⟩;obtain⟨S2,hq2,hs2⟩:=ha;have hbA:=a_ w2 (o_ #[.int .i64 qx,.int .i64 qy,.string qd] 145);have HQ2:=hide (hq2.on hbA);have HS2:=hide ((HS1.out.trans hs2).trans (.on hq2.pv.lo hbA));clear hq2 hs2 hbA;rw[HE2.out])
     | (go_at_call 115;refine(HADD.out _ _ HQ2.out).mono ?_;rintro e w3 ⟨rfl,ha⟩;have HA:=hide (ActQ.after HS2.out ha);clear ha)
     | fail)
    go_ret;exact⟨rfl,HA.out⟩
   ·rw[if_neg h2];have HE2:=hide (bJ h2);clear h2 HFO;go_enter Tryz.func176,Tryz.ntmps176;go_wp2_with (first
     | (go_at_call 86;refine HD.out.mono ?_;rintro e w1 ⟨rfl,ha⟩;obtain⟨S1,hq1,hs1⟩:=ha;have HQ1:=hide hq1;have HS1:=hide hs1;clear hq1 hs1;rw[HE1.out])
     | (go_at_call 83;refine(HF.out _ _ HQ1.out).mono ?_;rintro e w2 ⟨rfl,ha⟩;obtain⟨S2,hq2,hs2⟩:=ha;have hbA:=a_ w2 (o_ #[.int .i64 qx,.int .i64 qy,.string qd] 145);have HQ2:=hide (hq2.on hbA);have HS2:=hide ((HS1.out.trans hs2).trans (.on hq2.pv.lo hbA));clear hq2 hs2 hbA;rw[HE2.out])
     | fail)
    go_ret;exact⟨HE2.out▸rfl,_,HQ2.out,HS2.out⟩
 ·rw[if_neg h1];have HE1:=hide (bJ h1);clear h1 HFO;go_enter Tryz.func176,Tryz.ntmps176;go_wp2_with (first
   | (go_at_call 86;refine HD.out.mono ?_;rintro e w1 ⟨rfl,ha⟩;have HA:=hide ha;clear ha;rw[HE1.out])
   | fail)
  go_ret;exact⟨HE1.out▸rfl,HA.out⟩
end
section
open Go.RowKit Go.Joins Go.Shelf
structure OwnQ (w W:World) (B wb:Nat) (O S S':Nat->Prop) (P:Rws) (since:Sn) (chs:List Chg) (rds:Rws):Prop where
 qv:QV W B wb S' P since chs rds
 st:aG w W B S S'
 ow:∀ b,O b->¬S' b/\w.heap.size<=b/\b<W.heap.size/\∀ j,W.frozen? ⟨b,j,none⟩=false
section
variable {w w1 w2:World} {B wb:Nat} {O O' S S' S2:Nat->Prop} {P:Rws} {since:Sn} {chs chs':List Chg} {rds rds':Rws}
theorem OwnQ.start (h:QV w B wb S P since chs rds):OwnQ w w B wb (fun _=>False) S S P since chs rds:=⟨h,.refl h.pv.lo,fun _ h=>h.elim⟩
theorem OwnQ.on (h:OwnQ w w1 B wb O S S' P since chs rds) (hb:Below w1.heap.size w1 w2):OwnQ w w2 B wb O S S' P since chs rds:=
 ⟨h.qv.on hb,h.st.trans (.on h.qv.pv.lo hb),fun b ho=>by
  obtain⟨a,b1,c,d⟩:=h.ow b ho;exact⟨a,b1,Nat.lt_of_lt_of_le c hb.size,fun j=>aE hb c (d j)⟩⟩
theorem OwnQ.box (h:OwnQ w w1 B wb O S S' P since chs rds) (vs:Array Value) (t:TypeId):OwnQ w (w1.alloc (.cells vs t)) B wb (fun b=>b=w1.heap.size∨O b) S S' P since chs rds:=by
 have hb:=a_ w1 (.cells vs t);have h1:=h.on hb;refine⟨h1.qv,h1.st,fun b ho=>?_⟩;rcases ho with rfl|ho
 ·refine⟨fun e=>by have:=h.qv.pv.lt e;omega,?_,by simp,fun j=>aQ _ _ _ j⟩;have:=h.st.bel.size;exact this
 ·exact h1.ow b ho
theorem OwnQ.keep (h:OwnQ w w1 B wb O S S' P since chs rds) (hq:QV w2 B wb S2 P since chs' rds') (hs:aG w1 w2 B S' S2):OwnQ w w2 B wb O S S2 P since chs' rds'/\∀ b,O b->w2.heap[b]?=w1.heap[b]?:=
 ⟨⟨hq,h.st.trans hs,fun b ho=>by
  obtain⟨a,b1,c,d⟩:=h.ow b ho;obtain⟨e,n⟩:=hs.far b c a;exact⟨n,b1,Nat.lt_of_lt_of_le c hs.bel.size,fun j=>(World.frozen?_of_block (w:=w1) e).trans (d j)⟩⟩,fun b ho=>by
  obtain⟨a,b1,c,d⟩:=h.ow b ho;exact(hs.far b c a).1⟩
theorem OwnQ.act (h:OwnQ w w1 B wb O S S' P since chs rds) (ha:ActQ w1 w2 B wb S' P since chs' rds'):∃ S2,OwnQ w w2 B wb O S S2 P since chs' rds'/\∀ b,O b->w2.heap[b]?=w1.heap[b]?:=by
 obtain⟨S2,hq,hs⟩:=ha;exact⟨S2,h.keep hq hs⟩
theorem OwnQ.set (h:OwnQ w w1 B wb O S S' P since chs rds) (hB:B<=w.heap.size) {b:Nat} (ho:O b) (j:Nat) (v:Value):OwnQ w (w1.setCell ⟨b,j,none⟩ v) B wb O S S' P since chs rds:=by
 have hs:∀ k,k≠b->(w1.setCell ⟨b,j,none⟩ v).heap[k]?=w1.heap[k]?:=fun k hk=>h_ _ _ _ _ hk;obtain⟨a,b1,c,d⟩:=h.ow b ho;refine⟨⟨h.qv.pv.kept (by simp) fun k hk=>hs k fun e=>a (e▸hk),h.qv.ok,fun W hW=>h.qv.la W (((r_ B w1).setCell (p:=⟨b,j,none⟩) (by show B<=b;omega) v).trans hW)⟩,⟨h.st.bel.setCell (p:=⟨b,j,none⟩) (by show B<=b;omega) v,fun k hk hn=>?_⟩,fun b' ho'=>?_⟩
 ·obtain⟨x,y⟩:=h.st.far k hk hn;exact⟨(hs k (by omega)).trans x,y⟩
 ·obtain⟨a',b1',c',d'⟩:=h.ow b' ho';exact⟨a',b1',by simpa using c',fun k=>by rw[World.frozen?_setCell];exact d' k⟩
theorem OwnQ.less (h:OwnQ w w1 B wb O S S' P since chs rds) (hs:∀ b,O' b->O b):OwnQ w w1 B wb O' S S' P since chs rds:=⟨h.qv,h.st,fun b hb=>h.ow b (hs b hb)⟩
theorem OwnQ.done (h:OwnQ w w1 B wb O S S' P since chs rds):ActQ w w1 B wb S P since chs rds:=⟨S',h.qv,h.st⟩
end
end
end Go.Proofs.YtnboipekkahmnaaGreatDoor
