import Derived.Test.YtcfjimdfegejaaaGreatDoorQ28
set_option maxHeartbeats 8000000
set_option maxRecDepth 100000
namespace Go.Proofs.YtcfjimdfegejaaaGreatDoor
open And renaming intro→F4
open Nat renaming le_succ→I4,zero_le→OZ
open Go.Proofs.Tryz
open World renaming cell?_of_block→b_
open Go.RowKit.Below renaming refl→r_
open Nat renaming le_refl→n_
open Go.Proofs.Tryz renaming prog→p_
open Value renaming string→v_,int→i_
open Go.Joins renaming below_alloc1→a_
section
open Go.RowKit Go.Joins Go.Shelf
attribute [local go_sem ↓] Go.wp_at_zero Go.wp_at_succ
theorem zN8 {w w1 w3:World} {k db eb:Nat} (hb:Below w.heap.size w w1) (Zb:zL2 w1 w3 k db eb):OT w3 w1.heap.size k (fun _=>False) (fun _=>none) eb db (.slice none 0 0) [] 0 w:=by
 obtain⟨m,s,Cj,he,hd,fr⟩:=Zb.ex;exact⟨⟨m,s,Cj,⟨fr.ok,Cj.s4,fr.left,fr.len⟩,he,hd,fr.c,fr.now,fr.ds,fr.Da,by rw[fr.rows];rfl,fr.used,fun _ h=>h.elim,fun _ e=>(by cases e)⟩,World.ownsRow_nil _ _ _ _,fun _ h=>h.elim,fun _ h=>h.elim,aB hb (n_ _) Zb.Ia,hb.size⟩
structure Nt (w:World) (ab:Nat) (x:Vd):Prop where
 c0:w.cell? ⟨ab,0,none⟩=some (.string x.kind)
 c1:w.cell? ⟨ab,1,none⟩=some (.int .i64 x.a)
 c2:w.cell? ⟨ab,2,none⟩=some (.int .i64 x.b)
 c3:w.cell? ⟨ab,3,none⟩=some (.int .i64 x.c)
 c4:w.cell? ⟨ab,4,none⟩=some (.int .u64 x.k)
 c5:w.cell? ⟨ab,5,none⟩=some (.string x.s)
 c6:w.cell? ⟨ab,6,none⟩=some (.string x.t)
 c7:w.cell? ⟨ab,7,none⟩=some (.slice x.ca x.ba.length x.cc)
 c8:w.cell? ⟨ab,8,none⟩=some (.slice x.sa x.Zh.length x.sc)
theorem Nt.kept {w w':World} {ab:Nat} {x:Vd} (h:Nt w ab x) (e:w'.heap[ab]?=w.heap[ab]?):Nt w' ab x:=⟨(b_ e).trans h.c0,(b_ e).trans h.c1,(b_ e).trans h.c2,(b_ e).trans h.c3,(b_ e).trans h.c4,(b_ e).trans h.c5,(b_ e).trans h.c6,(b_ e).trans h.c7,(b_ e).trans h.c8⟩
theorem engineSays_walk (n:Int) (l:List Vd) (ao:Option Addr) (cap:Nat) (w:World) (hL:Yd w) (hd:iM w ao l):
  Calls p_ 3 #[.int .i64 n,.slice ao l.length cap] w fun e w'=>e=.returned (.bool true)/\Below w.heap.size w w':=by
 have nn:=eG;have ne:=pX;have HL:=aa hL;have HD:=aa hd;clear hL hd;go_enter func3,ntmps3;go_wp2_with fail;refine(zO3 w).mono ?_;rintro e w1 ⟨rfl,Ba⟩;have zb:=aa Ba;have FU:=aa (zHR Ba HD.out);clear Ba;go_wp2_with fail;refine(zCZ l 80 cap ao w1 FU.out (by omega)).mono ?_;rintro e w2 ⟨rfl,Lc⟩;rw[Lc];clear Lc;cases hlA:gT l 80
 ·go_wp2;go_ret;exact⟨rfl,zb.out⟩
 obtain⟨Bt,hli⟩:=zIQ HD.out hlA;have LL:=aa hli;clear hlA hli FU;by_cases cg:n<54∨200<n
 ·have xr:n<54∨(¬n<54/\200<n):=by omega
  rcases xr with h1|⟨h1,h2⟩
  all_goals
   go_wp2;go_ret;exact⟨rfl,zb.out⟩
 obtain⟨k,rfl⟩:=Int.eq_ofNat_of_zero_le (show 0<=n by omega);have vl:54<=k:=by omega
 have iy:k<=200:=by omega
 have gy:decide ((k:Int)<54)=false:=by simp;omega
 have AP:decide ((200:Int)<(k:Int))=false:=by simp;omega
 clear cg;go_wp2_with fail;refine(vC k w1 vl iy).mono ?_;rintro e w3 ⟨db,eb0,rfl,Zb⟩;have xd:=zNH (zN8 zb.out Zb) w3 (r_ _ _);obtain⟨mm,Lr⟩:∃ mm,mm=k-50:=⟨_,rfl⟩;have kme:(k:Int)-50=(mm:Int):=by omega
 have km2:(mm:Int)<=150:=by omega
 rw[<-Lr] at xd;have Od:=aa (xd _ (r_ _ _));have Mb:=zb.out.size;clear Lr Zb xd gy AP zb;generalize w1.heap.size=B at *;go_wp2_with fail;refine Od.out.mono ?_;rintro e w4 ⟨rb0,rfl,YH,_⟩;have VU:=aa YH;clear YH Od kme km2;go_wp2_with fail
 go_loopw [7,9,10] (fun ev mv iv wq=>∃ i eb rb:Nat,i<=l.length/\ev=.pointer (some ⟨eb,0,none⟩)/\mv=.pointer (some ⟨rb,0,none⟩)/\iv=.int .i64 (i:Int)/\EJ w wq B k (fun _=>False) (fun _=>none) eb rb db i) (fun _ _ iv _=>l.length-(intOf iv).toNat)
 case atStart=>exact⟨0,eb0,rb0,OZ _,rfl,rfl,rfl,VU.out⟩
 case round=>
  obtain⟨i,eb,rb,hi,rfl,rfl,rfl,hj⟩:=hrel;clear VU;by_cases Aa:i<l.length
  ·have Za:(i:Int)<(l.length:Int):=by omega
   have Qb:(0:Int)<=(i:Int):=by omega
   rcases HD.out with e|⟨ib,a0R,e,WB⟩
   ·rw[e] at Aa;simp at Aa
   subst e;have hx:=(WB i Aa).on hj.Ia;have Xz:=aa (LL.out _ (List.getElem_mem Aa));clear WB;generalize l[i]=x at *;have x0:=hx.kind;have x1:=hx.a;have x2:=hx.b;have x3:=hx.c;have x4:=hx.k;have x5:=hx.s;have x6:=hx.t;have x7:=hx.cl;have x8:=hx.sl;have YL:=aa hx.hs;have hO:=heap_alloc_new wr (LX x.kind x.a x.b x.c x.k x.s x.t x.ca x.ba.length x.cc x.sa x.Zh.length x.sc);have cn:=aC wr #[v_ x.kind,i_ .i64 x.a,i_ .i64 x.b,i_ .i64 x.c,i_ .u64 x.k,v_ x.s,v_ x.t,Value.slice x.ca x.ba.length x.cc,Value.slice x.sa x.Zh.length x.sc] 39;have hb:=a_ wr (LX x.kind x.a x.b x.c x.k x.s x.t x.ca x.ba.length x.cc x.sa x.Zh.length x.sc);have hz:(wr.alloc (LX x.kind x.a x.b x.c x.k x.s x.t x.ca x.ba.length x.cc x.sa x.Zh.length x.sc)).heap.size=wr.heap.size+1:=by simp
   have hAB:Nt (wr.alloc (LX x.kind x.a x.b x.c x.k x.s x.t x.ca x.ba.length x.cc x.sa x.Zh.length x.sc)) wr.heap.size x:=⟨cn 0,cn 1,cn 2,cn 3,cn 4,cn 5,cn 6,cn 7,cn 8⟩;have hJ:=hj.hold (Hd':=fun q=>q=wr.heap.size) (O':=fun _=>(wr.alloc (LX x.kind x.a x.b x.c x.k x.s x.t x.ca x.ba.length x.cc x.sa x.Zh.length x.sc)).heap[wr.heap.size]?) hb fun q e=>by rw[e];exact⟨n_ _,by omega,rfl⟩
   have wu:=lX hb hx.hs;have Nq:=aa hAB;have HJ:=aa hJ;have YL:=aa wu;clear hJ hAB wu cn hO hz hb hj hx
   go_upto_region 15 with fail
   clear x0 x1 x2 x3 x4 x5 x6 x7 x8;generalize wr.alloc (LX x.kind x.a x.b x.c x.k x.s x.t x.ca x.ba.length x.cc x.sa x.Zh.length x.sc)=wy at *;generalize wr.heap.size=ab at *;have PG:Hid (∀ W:World,(∀ q,q=ab->W.heap[q]?=wy.heap[ab]?)->W.cell? ⟨ab,3,none⟩=some (.int .i64 x.c)):=fun W h=>(Nq.out.kept (h ab rfl)).c3;have a0:=Nq.out.c0;have a3:=Nq.out.c3
   go_upto_block 2 with fail
   go_cut [7,9,12,13,14,15,16,17,18,19,20,21,22,23,24] from 53 to 254 (fun ev mv okv _ _ _ _ _ _ _ _ _ _ _ _ wx=>∃ mr Ey:Nat,ev=.pointer (some ⟨mr,0,none⟩)/\mv=.pointer (some ⟨Ey,0,none⟩)/\okv=.bool true/\EJ w wx B k (fun q=>q=ab) (fun _=>wy.heap[ab]?) mr Ey db (i+1))
   case first=>
    cases k1:(x.kind.toList==[98,101,103,105,110])
    case true=>
     as_aux_lemma=>
      obtain⟨f,Q,p1,p2⟩:=zOb HJ.out (by omega) x.c;have Kl:=aa p1;have Zj:=aa p2;clear p1 p2;go_wp2_with fail
      go_region_with (first
       | (go_at_call 9;refine(Kl.out _ (r_ _ _).drew).mono ?_;rintro e w5 ⟨rfl,hq,ho⟩;have b3:=PG.out w5 ho;have HQ:=aa hq;clear hq ho)
       | (go_at_call 10;refine(Zj.out _ HQ.out _ (r_ _ _)).mono ?_;rintro e w6 ⟨rfl,Ho⟩;have np:=aa (Ho.more (I4 _));clear Ho)
       | (go_at_call 8;refine(yC f _).mono ?_;rintro e w7 ⟨rfl,rfl⟩)
       | fail)
      all_goals
       go_wp2_with fail;go_meet;exact⟨eb,rb,rfl,rfl,rfl,np.out⟩
    case false=>
    cases k2:(x.kind.toList==[99,111,109,109,105,116])
    case true=>
     as_aux_lemma=>
      obtain⟨a,f,Q,p1,p2⟩:=zNP HJ.out (by omega) iy x.c;have Kl:=aa (p1 wy (r_ _ _));have Zj:=aa p2;clear p1 p2;go_wp2_with fail;refine Kl.out.mono ?_;rintro e w5 ⟨rfl,hq,ho⟩;have b3:=PG.out w5 ho;have Vw:=aa (Zj.out w5 hq w5 (r_ _ _));clear hq ho Kl Zj;go_wp2_with fail;refine Vw.out.mono ?_;rintro e w6 ⟨rfl,Ho⟩;have np:=aa Ho;clear Ho Vw;go_wp2_with fail;refine(yC f w6).mono ?_;rintro e w7 ⟨rfl,zm⟩;rw[zm];clear zm;go_wp2_with fail;go_meet;exact⟨eb,rb,rfl,rfl,rfl,np.out⟩
    case false=>
    cases k3:(x.kind.toList==[97,98,111,114,116])
    case true=>
     as_aux_lemma=>
      obtain⟨f,Q,p1,p2⟩:=zN9 HJ.out (by omega) x.c;have Kl:=aa p1;have Zj:=aa p2;clear p1 p2;go_wp2_with fail
      go_region_with (first
       | (go_at_call 13;refine(Kl.out _ (r_ _ _).drew).mono ?_;rintro e w5 ⟨rfl,hq,ho⟩;have b3:=PG.out w5 ho;have HQ:=aa hq;clear hq ho)
       | (go_at_call 14;refine(Zj.out _ HQ.out _ (r_ _ _)).mono ?_;rintro e w6 ⟨rfl,Ho⟩;have np:=aa (Ho.more (I4 _));clear Ho)
       | (go_at_call 8;refine(yC f _).mono ?_;rintro e w7 ⟨rfl,rfl⟩)
       | fail)
      all_goals
       go_wp2_with fail;go_meet;exact⟨eb,rb,rfl,rfl,rfl,np.out⟩
    case false=>
    cases k4:(x.kind.toList==[118,97,99,117,117,109])
    case true=>
     as_aux_lemma=>
      obtain⟨m,r,s,hE,Wm,Cl,Tm,Fi⟩:=HJ.out;have HE:=aa hE;have hv:=zPm hE (by omega) wy (r_ _ _);rw[Wm] at hv;have HV:=aa hv;clear hv hE;go_wp2_with fail;refine HV.out.mono ?_;rintro e w5 ⟨rfl,m5,h5,SM,h5d⟩;have NG:Hid (EJ w w5 B k (fun q=>q=ab) (fun _=>wy.heap[ab]?) eb rb db (i+1)):=⟨m5,r,Jj s,h5,SM,Cl,h5d.trans Tm,by show s.c+1<=i+1;omega⟩;have AU:=aa h5.re.cd;obtain⟨ja,jc,e0,e1,_,_⟩:=h5.rows;have lq:Hid (∀ (_:uI s.Da 4=true) W,Below w5.heap.size w5 W->Calls p_ 16 #[.pointer (some ⟨eb,0,none⟩)] W fun e w'=>e=.returned (.int .i64 ((aS s.x.rows).length:Int))/\Below W.heap.size W w'):=fun hid W hb=>by
       have:=zOP h5 HE.out.fit.ok (by omega) (zNl hid) W hb;rwa [SM] at this
      rw[Cl] at e0 AU;have LH:w5.cell? ⟨r.sb,0,none⟩=some (.slice ja (aS s.x.rows).length jc):=e1;clear h5 SM h5d HV HE e1 Wm Tm Fi;generalize r.sb=sb at *;generalize (aS s.x.rows).length=rl at *;go_wp2_with fail
      go_loopw [17,18] (fun bv jv wq=>∃ j:Nat,j<=4/\jv=.int .i64 (j:Int)/\bv=.bool (uI s.Da j)/\wq=w5) (fun _ jv _=>4-(intOf jv).toNat)
      case atStart=>exact⟨0,by omega,rfl,rfl,rfl⟩
      case round=>
       obtain⟨j,hj4,rfl,rfl,GQ⟩:=hrel;subst GQ;by_cases ki:j<4
       ·have Zx:(j:Int)<4:=by omega
        have YH:(0:Int)<=(j:Int):=by omega
        have au:Hid (uI s.Da (j+1)=(uI s.Da j&&(s.Da j).isNone)):=rfl;cases hid:uI s.Da j
        ·rw[hid] at au;clear hid;go_wp2;exact⟨⟨j+1,by omega,by go_num,by rw[au.out];rfl,by trivial⟩,by simp[intOf];omega⟩
        ·rw[hid] at au;have cj:=AU.out j ki;unfold qn at cj
         cases xz:s.Da j with
         | none=>
          have cj':wr.cell? ⟨rb,3+j,none⟩=some (.pointer none):=by
           have:(Jj s).Da j=none:=xz;rw[this] at cj;exact cj
          rw[xz] at au;clear hid xz cj;go_wp2;exact⟨⟨j+1,by omega,by go_num,by rw[au.out];rfl,by trivial⟩,by simp[intOf];omega⟩
         | some v=>
          have cj':wr.cell? ⟨rb,3+j,none⟩=some (.pointer (some ⟨r.W j,0,none⟩)):=by
           have:(Jj s).Da j=some v:=xz;rw[this] at cj;exact cj
          rw[xz] at au;clear hid xz cj;go_wp2;exact⟨⟨j+1,by omega,by go_num,by rw[au.out];rfl,by trivial⟩,by simp[intOf];omega⟩
       ·have ej:j=4:=by omega
        subst ej;have Zx:¬(((4:Nat):Int)<4):=by omega
        cases hid:uI s.Da 4
        ·clear hid lq;go_wp2_with fail;go_quiet (fail);go_wp2_with fail;go_meet;exact⟨eb,rb,rfl,rfl,rfl,NG.out.on (below_drewN (r_ _ _) _)⟩
        ·have kq:=aa (lq.out hid);clear hid lq;go_wp2_with fail;have nS:=ad.some wr;have n0:∀ m:ad wr,m.w.cell? ⟨rb,0,none⟩=_:=fun m=>m.cell e0;have n1:∀ m:ad wr,m.w.cell? ⟨sb,0,none⟩=_:=fun m=>m.cell LH;refine dE (by kernel_rfl) (by kernel_rfl) ?_
         repeat (go_big_quiet_step ((first
          | (go_at_call 16;exact fF (kq.out _ (ad.on _))))))
         refine wpQuiet_nil ?_;intro w7 zm;replace zm:=jG zm;have np:=aa (NG.out.on zm);clear n0 n1 nS zm;go_wp2_with fail;go_meet;exact⟨eb,rb,rfl,rfl,rfl,np.out⟩
    case false=>
    cases k5:(x.kind.toList==[115,97,118,101])
    case true=>
     as_aux_lemma=>
      obtain⟨m,r,s,hE,Wm,Cl,Tm,Fi⟩:=HJ.out;have hv:=zPd hE wy (r_ _ _);rw[Wm,Cl,Tm] at hv;have HV:=aa hv;clear hv hE Wm Cl Tm;generalize r.sb=sb at *;go_wp2_with fail;refine HV.out.mono ?_;rintro e w5 ⟨rfl,z0,⟨v1,z1⟩,zf,hj5⟩;have NG:=aa (hj5.more (show s.c<=i+1 by omega));clear hj5 HV;go_wp2_with fail;go_meet;exact⟨eb,rb,rfl,rfl,rfl,NG.out⟩
    case false=>
    cases k6:(x.kind.toList==[111,112,101,110])
    case true=>
     as_aux_lemma=>
      obtain⟨m,r,s,hE,Wm,Cl,Tm,Fi⟩:=HJ.out;have hv:=zOS hE wy (r_ _ _);rw[Tm] at hv;have HV:=aa hv;have HE:=aa hE;clear hv hE;go_wp2_with fail;refine HV.out.mono ?_;rintro e w5 ⟨mr,rfl,qe,hop⟩;have Dx:=HE.out.on qe;obtain⟨ja,jc,z0,z1,BB,_⟩:=Dx.rows;have z2:=Dx.re.rs.c1;have z3:=Dx.re.rs.c2;rw[Dx.ln.u] at z2;rw[Dx.ln.many,Dx.fit.len] at z3;rw[Cl] at z0;have xd:=zNH hop w5.drew (r_ _ _).drew _ (r_ _ _);rw[BB] at xd;have Od:=aa xd;clear xd hop Dx qe HV HE BB Wm Cl Tm;generalize r.sb=sb at *;generalize (aS s.x.rows).length=rl at *;generalize s.x.used=us at *;generalize k-50=mm at *;go_wp2_with fail;have HZ:Hid (w5.cell? ⟨rb,0,none⟩=some (.pointer (some ⟨sb,0,none⟩))/\w5.cell? ⟨sb,0,none⟩=some (.slice ja rl jc)/\w5.cell? ⟨sb,1,none⟩=some (.int .i64 (us:Int))/\w5.cell? ⟨sb,2,none⟩=some (.int .i64 (mm:Int))):=⟨z0,z1,z2,z3⟩;have QA:Hid (∀ o,(w5.drew.alloc o).cell? ⟨rb,0,none⟩=some (.pointer (some ⟨sb,0,none⟩))/\(w5.drew.alloc o).cell? ⟨sb,0,none⟩=some (.slice ja rl jc)/\(w5.drew.alloc o).cell? ⟨sb,1,none⟩=some (.int .i64 (us:Int))/\(w5.drew.alloc o).cell? ⟨sb,2,none⟩=some (.int .i64 (mm:Int))):=fun o=>by
       have hb:=aB (r_ _ w5).drew (n_ _) (a_ w5.drew o);exact⟨aA hb z0,aA hb z1,aA hb z2,aA hb z3⟩
      go_region_held3 (fun w'=>w'.cell? ⟨rb,0,none⟩=some (.pointer (some ⟨sb,0,none⟩))/\w'.cell? ⟨sb,0,none⟩=some (.slice ja rl jc)/\w'.cell? ⟨sb,1,none⟩=some (.int .i64 (us:Int))/\w'.cell? ⟨sb,2,none⟩=some (.int .i64 (mm:Int))) (first|exact HZ.out|exact ox.out|exact QA.out _|go_keep) (first
       | (go_at_call 7;refine Od.out.mono ?_;rintro e w6 ⟨Ey,rfl,Ho,Pe⟩;have ox:=aa (F4 (aA Pe (QA.out _).1) (F4 (aA Pe (QA.out _).2.1) (F4 (aA Pe (QA.out _).2.2.1) (aA Pe (QA.out _).2.2.2))));have np:=aa (Ho.more (OZ (i+1)));clear Ho Pe)
       | fail)
      all_goals
       go_wp2_with fail;go_meet;exact⟨mr,Ey,rfl,rfl,rfl,np.out⟩
    case false=>
    rcases zOI HJ.out HL.out (by omega) x.c with⟨f,hf,p1,p2⟩|⟨wb,vb,p1,p2,p3⟩
    ·as_aux_lemma=>
      have Kl:=aa (p1 wy (r_ _ _));have Zj:=aa (p2 wy (r_ _ _));have np:=aa (HJ.out.more (I4 _));have Cq:(0:Int)<(f:Int):=by omega
      clear p1 p2;go_wp2_with fail;refine Kl.out.mono ?_;rintro e w5 ⟨rfl,Lk⟩;rw[Lk];clear Lk Kl;go_wp2_with fail;refine Zj.out.mono ?_;rintro e w5 ⟨rfl,Lk⟩;rw[Lk];clear Lk Zj;go_wp2_with fail;refine(yC f _).mono ?_;rintro e w5 ⟨rfl,Lk⟩;rw[Lk];clear Lk;go_wp2_with fail;go_meet;exact⟨eb,rb,rfl,rfl,rfl,np.out⟩
    ·as_aux_lemma=>
      have Kl:=aa (p1 wy (r_ _ _));have Zj:=aa (p2 wy (r_ _ _));have Vw:=aa (p3 x Xz.out YL.out wy (r_ _ _));have a1:=Nq.out.c1;have a2:=Nq.out.c2;have a4:=Nq.out.c4;have a5:=Nq.out.c5;have a6:=Nq.out.c6;have a7:=Nq.out.c7;have a8:=Nq.out.c8;clear p1 p2 p3;go_wp2_with fail;refine Kl.out.mono ?_;rintro e w5 ⟨rfl,Lk⟩;rw[Lk];clear Lk Kl;go_wp2_with fail;refine Zj.out.mono ?_;rintro e w5 ⟨rfl,Lk⟩;rw[Lk];clear Lk Zj;go_wp2_with fail;refine Vw.out.mono ?_;rintro e w5 ⟨rfl,h5⟩;have JV:=aa (h5 w5 (r_ _ _));clear h5 Vw;go_wp2_with fail;refine JV.out.mono ?_;rintro e w6 ⟨rfl,Ho⟩;have np:=aa (Ho.more (I4 _));clear Ho JV;go_wp2_with fail;go_meet;exact⟨eb,rb,rfl,rfl,rfl,np.out⟩
   case rest=>
    as_aux_lemma=>
     obtain⟨mr,Ey,rfl,rfl,rfl,hj⟩:=hcut;obtain⟨now,sb,len,ja,jc,⟨z0,z1⟩,p1,p2,p3⟩:=zOc hj (by omega);have Pw:=aa hj;have Kl:=aa p1;have Zj:=aa p2;have Vw:=aa p3;clear p1 p2 p3 hj a0 a3 PG HJ Nq YL;go_wp2_with fail;have HZ:=aa (F4 z0 z1)
     go_region_held3 (fun w'=>w'.cell? ⟨Ey,0,none⟩=some (.pointer (some ⟨sb,0,none⟩))/\w'.cell? ⟨sb,0,none⟩=some (.slice ja len jc)) (first|exact HZ.out|exact ox.out|exact HZ7.out|go_keep) (first
      | (go_at_call 23;refine(Kl.out _ (r_ _ _).drew).mono ?_;rintro e w5 ⟨rfl,rfl⟩)
      | (go_at_call 24;refine(Zj.out _ (r_ _ _).drew).mono ?_;rintro e w5 ⟨rfl,rfl⟩)
      | (go_at_call 26;refine(Vw.out _ (r_ _ _).drew).mono ?_;rintro e w6 ⟨ra,rc,rfl,Pe,h6⟩;have Zg:=aB (r_ _ wc).drew (n_ _) Pe;have ox:=aa (F4 (aA Zg z0) (aA Zg z1));have cu:=aa (h6 w6 (r_ _ _));have so:=aa Zg;clear Pe Zg h6)
      | (go_at_call 25;refine cu.out.mono ?_;rintro e w7 ⟨rfl,Af⟩;have HZ7:=aa (F4 (aA Af ox.out.1) (aA Af ox.out.2));have HJ7:=aa (Pw.out.on (aB so.out (n_ _) Af));clear Af)
      | fail)
     all_goals
      go_wp2;go_roundw
      case rel=>exact⟨i+1,mr,Ey,by omega,rfl,rfl,by go_num,HJ7.out.hold (r_ _ _) fun _ h=>False.elim h⟩
      case measure=>simp[intOf];omega
  ·have Za:¬(i:Int)<(l.length:Int):=by omega
   have HB:=aa hj.Ia;clear hj;go_wp2;go_ret;exact⟨rfl,HB.out⟩
end
end Go.Proofs.YtcfjimdfegejaaaGreatDoor
