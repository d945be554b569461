import Derived.Test.YtnboipekkahmnaaGreatDoorT19
import Derived.Test.YtnboipekkahmnaaGreatDoorRows
set_option maxHeartbeats 8000000
set_option maxRecDepth 100000
namespace Go.Proofs.YtnboipekkahmnaaGreatDoor
section
open Go.RowKit Go.Joins
attribute [local go_sem ↓] Go.wp_at_zero Go.wp_at_succ
theorem zGX (s:ESt) (i:Nat):(dX s i).ses i=some ⟨aS s.x.rows,s.now,[],[]⟩:=by
 show setS s.ses i _ i=_;exact hE _ _ _
theorem zHj (s:ESt) (i:Nat) (v:VwL) (chs:List Chg) (rds:Rws):(jU s i v chs rds).ses i=some ⟨v.P,v.n,chs,rds⟩:=by
 show setS s.ses i _ i=_;exact hE _ _ _
structure zDq (s:ESt) (n:Nat):Prop where
 ok:EOk s
 rows:s.x.rows=[]
 left:s.x.d.left=-1
 len:s.x.d.now.length=n
 used:s.x.used=0
 now:s.now=0
 c:s.c=0
 ds:s.ds=[]
 ses:∀ i,s.ses i=none
structure zL2 (w w':World) (n db eb:Nat):Prop where
 ex:∃ m s,EK w' w.heap.size m s/\m.eb=eb/\m.db=db/\zDq s n
 bel:Below w.heap.size w w'
theorem vC (n:Nat) (w:World) (h1:54<=n) (h2:n<=200):Calls Tryz.prog 15 #[.int .i64 (n:Int)] w fun e w'=>∃ db eb,e=.returned (.tuple #[.pointer (some ⟨db,0,none⟩),.pointer (some ⟨eb,0,none⟩),.bool true])/\zL2 w w' n db eb:=by
 have nn:=eG;have hlen:(qQ n).now.length=n:=by show(List.replicate n (bD 96)).length=n;simp
 have hfg:=zD1 (s:=qQ n) rfl rfl (by rw[hlen];exact h1);have HFG:=hide hfg;have HLEN:=hide hlen;clear hfg hlen;generalize aM (qQ n).now=fr at *;generalize hl:dC 0 [] (qQ n)=r at *;have HL:=hide hl;clear hl;go_enter Tryz.func15,Tryz.ntmps15;go_wp2_with fail;refine(zDe n _ (by omega) h2).mono ?_;rintro e w1 ⟨db,rfl,⟨S1,hk1⟩,hb1⟩;have HFO:=hide (zFF w1 hk1 (by rw[HLEN.out];exact h1));rw[HL.out,HFG.out.1,aR] at HFO;have HB1:=hide hb1;clear hk1 hb1;go_wp2_with fail;refine HFO.out.mono ?_;rintro e w2 ⟨rfl,S2,hk2,hs2⟩;have HOP:=hide (zIf w2 hk2 HFG.out.2.1);have HB2:=hide (HB1.out.trans hs2.bel);clear hk2 hs2 HFO;go_wp2_with fail;refine HOP.out.mono ?_;rintro e w3 ⟨eb,rfl,hn3⟩;have HN3:=hide hn3;clear hn3 HOP;go_wp2;go_ret3;obtain⟨m,hek,he1,he2,_⟩:=HN3.out.ex;exact⟨db,eb,rfl,⟨m,_,hek,he1,he2,EOk.new HFG.out.2.1,rfl,HFG.out.2.2.1,HFG.out.2.2.2.trans HLEN.out,rfl,rfl,rfl,rfl,fun _=>rfl⟩,aB HB2.out (Nat.le_refl _) HN3.out.bel⟩
def wK:ByteArray:=⟨#[116,47,97]⟩
def wV:ByteArray:=⟨#[120]⟩
theorem zAp:aD ⟨wK,wV,false⟩=0:=by decide +kernel
theorem zFa:cH [] ⟨wK,wV,false⟩=0/\bG [] ⟨wK,wV,false⟩=[⟨wK,wV,false⟩]:=by
 have h:cH [] ⟨wK,wV,false⟩=0:=by
  unfold cH;rw[if_pos zAp];rfl
 exact⟨h,by unfold bG;rw[if_pos h];rfl⟩
theorem zIT {s:ESt} {n:Nat} (h:zDq s n) (hn:54<=n) {c:Chg} (hc:aD c=0) (hg:c.gone=false):comF s.x [c]=0/\(aK s.x.rows [c]).length=1:=by
 have hb:aK s.x.rows [c]=[c]:=by
  rw[h.rows];show([c].filter fQ)=[c];have:fQ c=true:=by unfold fQ;rw[hg];rfl
  rw[List.filter_cons_of_pos this];rfl
 refine⟨?_,by rw[hb];rfl⟩;unfold comF;have hd:jW [c]=0:=by
  unfold jW;rw[if_neg (by show ¬12<1;decide)];show(if aD c=0 then 0 else aD c)=0;rw[if_pos hc]
 rw[if_neg (by rw[hd];decide),if_neg];rw[hb,h.len];show ¬(40<1∨n-50<1+1);omega
theorem zHJ (w:World):Calls Tryz.prog 36 #[] w fun e w'=>e=.returned (.bool true)/\Below w.heap.size w w':=by
 have nn:=eG;have ne:=pX;go_enter Tryz.func36,Tryz.ntmps36;go_wp2_with fail;refine(vC 80 w (by decide) (by decide)).mono ?_;rintro e w1 ⟨db,eb,rfl,hst⟩;obtain⟨m,s,hek,rfl,rfl,fr⟩:=hst.ex;have HB1:=hide hst.bel;have HFR:=hide fr;have HBG:=hide (wB w1 hek (i:=0) (by decide) (fr.ses 0));clear hst hek;go_wp2_with fail;refine HBG.out.mono ?_;rintro e w2 ⟨rfl,m2,hek2,he2,_,hs2⟩;have ok2:=HFR.out.ok.begin 0;have hses2:(dX s 0).ses 0=some ⟨aS s.x.rows,s.now,[],[]⟩:=zGX s 0;have HDE:=hide (mT w2 hek2 (i:=0) (by decide) hses2);have hc2:(dX s 0).c=0:=HFR.out.c;have hpv:=hek2.pv ok2 hses2 (by rw[hc2];decide);have hpp:=zIB wK wV w2 hpv (by decide) (fun _=>by decide);rw[zFa.1,zFa.2,aR] at hpp;have HPU:=hide hpp;have HEK2:=hide hek2;have HB2:=hide (HB1.out.trans hs2.bel);rw[he2] at HDE;clear hek2 hs2 hpv hpp HBG HB1;go_wp2_with fail;refine HDE.out.mono ?_;rintro e w3 ⟨rfl,hw3⟩;rw[hw3];clear hw3 HDE;go_wp2_with fail;refine HPU.out.mono ?_;rintro e w4 ⟨rfl,S4',hp4,hs4⟩;obtain⟨x4,_,hek4,hst4⟩:=HEK2.out.view hses2 (by decide) hp4 hs4;have ok4:EOk (jU (dX s 0) 0 ⟨aS s.x.rows,s.now,[],[]⟩ [⟨wK,wV,false⟩] []):=ok2.view hses2 hp4.ok ⟨(ok2.ses 0 _ hses2).oq.rk,fun c hc=>by rw[List.mem_singleton.1 hc];exact zAp⟩;have hses4:(jU (dX s 0) 0 ⟨aS s.x.rows,s.now,[],[]⟩ [⟨wK,wV,false⟩] []).ses 0=some ⟨aS s.x.rows,s.now,[⟨wK,wV,false⟩],[]⟩:=zHj _ _ _ _ _;obtain⟨cf,cl⟩:=zIT HFR.out (by decide) zAp rfl;have hnev:=HFR.out.ok.g.never HFR.out.left [⟨wK,wV,false⟩];have hR0:(comR s.x [⟨wK,wV,false⟩]).1=0:=hnev.1.trans cf;have hrows:(comR s.x [⟨wK,wV,false⟩]).2.rows=aK s.x.rows [⟨wK,wV,false⟩]:=by
  rcases(HFR.out.ok.g.commit [⟨wK,wV,false⟩]).2 with⟨_,_,_,c,_⟩|⟨a,b,_⟩|⟨a,_⟩
  ·exact c
  ·exact absurd cf b
  ·rw[hR0] at a;cases a
 have hce:comE (jU (dX s 0) 0 ⟨aS s.x.rows,s.now,[],[]⟩ [⟨wK,wV,false⟩] []) 0=((s.now+1,0),endE (addE (jU (dX s 0) 0 ⟨aS s.x.rows,s.now,[],[]⟩ [⟨wK,wV,false⟩] []) [⟨wK,wV,false⟩]) 0):=by
  unfold comE;rw[hses4];dsimp only;rw[if_neg (by simp),if_neg (by rw[zHB];decide),if_neg (by show ¬(comR s.x _).1≠0;rw[hR0];decide)];rfl
 have hcm:=vX w4 hek4 ok4 (i:=0) (by decide) (by show s.c<=150;rw[HFR.out.c];decide);rw[hce] at hcm;dsimp only at hcm;have hn1:((s.now+1:Nat):Int)=1:=by rw[HFR.out.now];rfl
 rw[hn1,aR] at hcm;have HCM:=hide hcm;have HRW:Hid (∀ w5 m5,EK w5 w.heap.size m5 (endE (addE (jU (dX s 0) 0 ⟨aS s.x.rows,s.now,[],[]⟩ [⟨wK,wV,false⟩] []) [⟨wK,wV,false⟩]) 0)->Calls Tryz.prog 35 #[.pointer (some ⟨m5.eb,0,none⟩)] w5 fun e w'=>∃ ao cap,e=.returned (.slice ao 1 cap)/\Below w5.heap.size w5 w'):=fun w5 m5 h5=>by
  have hl1:(comR s.x [⟨wK,wV,false⟩]).2.rows.length=1:=by rw[hrows];exact cl
  refine(zBq w5 h5 (by show(comR s.x [⟨wK,wV,false⟩]).2.rows.length<=1000;omega)).mono ?_;rintro e w' ⟨v,rfl,ho,hb⟩;obtain⟨ao,cap,rfl,_⟩:=lV ho;refine⟨ao,cap,?_,hb⟩;have:(aS (endE (addE (jU (dX s 0) 0 ⟨aS s.x.rows,s.now,[],[]⟩ [⟨wK,wV,false⟩] []) [⟨wK,wV,false⟩]) 0).x.rows).length=1:=by
   show(aS (comR s.x [⟨wK,wV,false⟩]).2.rows).length=1;unfold aS;rw[List.length_map];exact hl1
  rw[this]
 have HB4:=hide (HB2.out.trans hst4.bel);have he4:m2.eb=m.eb:=he2;clear hn1 hek4 hst4 ok4 hses4 cf cl hnev hR0 hrows hce hcm HPU hp4 hs4 HEK2 ok2 hses2 hc2 HB2;have HCM':Hid (Calls Tryz.prog 20 #[.pointer (some ⟨m.eb,0,none⟩),.int .i64 0] w4 fun e w'=>e=.returned (.tuple #[.int .i64 1,.nilIface])/\Below w.heap.size w w'/\∃ m5,m5.eb=m.eb/\EK w' w.heap.size m5 (endE (addE (jU (dX s 0) 0 ⟨aS s.x.rows,s.now,[],[]⟩ [⟨wK,wV,false⟩] []) [⟨wK,wV,false⟩]) 0)):=by
  have h:=HCM.out;rw[show({ m2 with W:=updW m2.W 0 x4 }:EMem).eb=m.eb from he4] at h;refine h.mono ?_;rintro e w' ⟨rfl,m5,k1,k2,_,k4⟩;exact⟨rfl,HB4.out.trans k4.bel,m5,k2,k1⟩
 clear HCM HB4;generalize endE (addE (jU (dX s 0) 0 ⟨aS s.x.rows,s.now,[],[]⟩ [⟨wK,wV,false⟩] []) [⟨wK,wV,false⟩]) 0=s5 at *;go_wp2_with fail;refine HCM'.out.mono ?_;rintro e w5 ⟨rfl,hb5,m5,he5,hek5⟩;have HR5:=hide (HRW.out w5 m5 hek5);rw[he5] at HR5;have HB5:=hide hb5;clear HCM' hek5 hb5 HRW;go_wp2_with fail;refine HR5.out.mono ?_;rintro e w6 ⟨ao,cap,rfl,hb6⟩;have HB6:=hide (aB HB5.out (Nat.le_refl _) hb6);clear hb6;go_wp2;go_ret;exact⟨rfl,HB6.out⟩
end
section
open Go.Lib
theorem zKU:(Tryz.prog.globals[3]?).map (·.type)=some 405:=by kernel_rfl
theorem zJp:Tryz.prog.cellsOf 405=20:=by kernel_rfl
theorem zI0:Tryz.prog.cellsOf 35=1:=by kernel_rfl
theorem zHV {W:World} {x y:String×DataW Unit} {zs:List Int} {rest:List (String×DataW Unit)}
  (h:laidMet Tryz.prog (x::y::("internal/strconv.uint64pow10",tabData .u64 zs)::rest) W):TabIs Tryz.prog W "internal/strconv.uint64pow10" .u64 zs:=by
 obtain⟨ps,⟨_,_,_,_,_,_,_,_,_,_,⟨_,_,_,_,_,_,_,_,_,_,⟨g',t',cs,fuel,p,q,hg',ht',hvar,hd,_,_⟩,_⟩,_⟩,_⟩:=h;obtain rfl:=Option.some.inj (zBT.symm.trans hg');obtain rfl:=Option.some.inj (zKU.symm.trans ht');have e:=cells_of_tab Tryz.underlying405 Tryz.underlying35 zI0 zJp hd;unfold TabIs;rw[hvar];congr 1;exact Array.ext' (by simpa using e)
theorem zJN:Lib.pow10Tab=[1,10,100,1000,10000,100000,1000000,10000000,100000000,1000000000,10000000000,100000000000,1000000000000,10000000000000,100000000000000,1000000000000000,10000000000000000,100000000000000000,1000000000000000000,10000000000000000000]:=by decide +kernel
theorem zKf:(Tryz.prog.globals[2]?).map (·.type)=some 42:=by kernel_rfl
theorem zK8:(Tryz.prog.globals[1]?).map (·.type)=some 42:=by kernel_rfl
theorem zGo {W:World} {x y z:String×DataW Unit} {nm:String} {d:DataW Unit} {rest:List (String×DataW Unit)}
  (h:laidMet Tryz.prog (x::y::z::("strconv.ErrRange",.iface nm d)::rest) W):zCq W "strconv.ErrRange":=by
 obtain⟨ps,⟨_,_,_,_,_,_,_,_,_,_,⟨_,_,_,_,_,_,_,_,_,_,⟨_,_,_,_,_,_,_,_,_,_,⟨g',t',cs,fuel,p,q,hg',ht',hvar,hd,_,_⟩,_⟩,_⟩,_⟩,_⟩:=h;obtain rfl:=Option.some.inj (zAY.symm.trans hg');obtain rfl:=Option.some.inj (zKf.symm.trans ht');obtain⟨_,u,v,hc,_,_⟩:=iface_of_trod Tryz.underlying42 hd;have e:cs=#[.iface u v]:=Array.ext' (by simpa using hc);exact⟨u,v,by rw[hvar,e]⟩
theorem zIU {W:World} {x y z a:String×DataW Unit} {nm:String} {d:DataW Unit} {rest:List (String×DataW Unit)}
  (h:laidMet Tryz.prog (x::y::z::a::("strconv.ErrSyntax",.iface nm d)::rest) W):zCq W "strconv.ErrSyntax":=by
 obtain⟨ps,⟨_,_,_,_,_,_,_,_,_,_,⟨_,_,_,_,_,_,_,_,_,_,⟨_,_,_,_,_,_,_,_,_,_,⟨_,_,_,_,_,_,_,_,_,_,⟨g',t',cs,fuel,p,q,hg',ht',hvar,hd,_,_⟩,_⟩,_⟩,_⟩,_⟩,_⟩:=h;obtain rfl:=Option.some.inj (zBP.symm.trans hg');obtain rfl:=Option.some.inj (zK8.symm.trans ht');obtain⟨_,u,v,hc,_,_⟩:=iface_of_trod Tryz.underlying42 hd;have e:cs=#[.iface u v]:=Array.ext' (by simpa using hc);exact⟨u,v,by rw[hvar,e]⟩
end
section
open Go.RowKit Go.Joins Go.Shelf
attribute [local go_sem ↓] Go.wp_at_zero Go.wp_at_succ
theorem EK.qv {w:World} {B:Nat} {m:EMem} {s:ESt} (h:EK w B m s) (ok:EOk s) {i:Nat} {v:VwL} (hv:s.ses i=some v) (hc:s.c<=190) (hla:∀ W,Below B w W->Laid W):QV w B (m.W i).1 (inPV m i) v.P (snE B m s v.n) v.chs v.rds:=
 ⟨h.pv ok hv hc,(ok.ses i v hv).oq,hla⟩
end
section
open Go.RowKit Go.Joins
structure Ok2 (P:Rws) (chs:List Chg) (rds:Rws):Prop where
 ov:OkV P chs rds
 oq:OkQ P chs
section
variable {P:Rws} {chs:List Chg} {rds:Rws}
theorem Ok2.alter (h:Ok2 P chs rds) (c:Chg):Ok2 P (bG chs c) rds:=⟨xQ h.ov lD,h.oq.alter c⟩
theorem Ok2.reads (h:Ok2 P chs rds) {r:Rws} (hr:r.length<=40):Ok2 P chs r:=⟨{ h.ov with rn:=hr },h.oq⟩
theorem Ok2.read (h:Ok2 P chs rds) (s:ByteArray×ByteArray):Ok2 P chs (gX rds s):=h.reads (pZ h.ov.rn)
theorem Ok2.get (h:Ok2 P chs rds) (key:ByteArray):Ok2 P chs (getL chs rds key):=h.reads (zDB h.ov.rn)
theorem Ok2.find (h:Ok2 P chs rds) (name:ByteArray):Ok2 P chs (bC chs rds name):=by
 unfold bC;split
 ·exact h.get _
 ·exact h
theorem Ok2.first (h:Ok2 P chs rds) (L:Rws) (s:ByteArray×ByteArray):Ok2 P chs (rR L rds s):=h.read _
theorem Ok2.putQ (h:Ok2 P chs rds) (name:ByteArray) (x y:Int) (d:ByteArray):Ok2 P (qL chs name x y d) rds:=by
 unfold qL;split
 ·exact h.alter _
 ·exact h
theorem Ok2.putM (h:Ok2 P chs rds) (name:ByteArray) (k x y:Int) (d:ByteArray):Ok2 P (nA chs name k x y d) rds:=by
 unfold nA;split
 ·exact h.alter _
 ·exact h
theorem Ok2.add (h:Ok2 P chs rds) (name:ByteArray) (x y:Int) (d body:ByteArray) (u:Int):Ok2 P (addQ chs name x y d body u).2.2 rds:=by
 unfold addQ;split
 ·exact h
 ·split
  ·exact(h.putM ..).putQ ..
  ·exact h.putM ..
theorem Ok2.create (h:Ok2 P chs rds) (name:ByteArray) (tries:Int) (dead:ByteArray):Ok2 P (fD P chs rds name tries dead).2.1 (fD P chs rds name tries dead).2.2:=by
 unfold fD;split
 ·split
  ·exact h.find _
  ·split
   ·exact(h.find _).putQ ..
   ·split
    ·exact((h.find _).find _).putQ ..
    ·exact(h.find _).find _
 ·exact h.find _
theorem Ok2.send (h:Ok2 P chs rds) (name body:ByteArray) (u:Int):Ok2 P (fN P chs rds name body u).2.2.1 (fN P chs rds name body u).2.2.2:=by
 unfold fN;split
 ·split
  ·split
   ·exact(h.find _).add ..
   ·exact h.find _
  ·exact h.find _
 ·exact h.find _
theorem Ok2.held (h:Ok2 P chs rds) (name:ByteArray) (n tries:Int):Ok2 P chs (dQ P chs rds name n tries).2:=by
 unfold dQ;split
 ·split
  ·exact h.find _
  ·exact(h.find _).get _
 ·exact h.find _
theorem Ok2.ack (h:Ok2 P chs rds) (name:ByteArray) (n tries:Int):Ok2 P (ackQ P chs rds name n tries).2.1 (ackQ P chs rds name n tries).2.2:=by
 unfold ackQ;split
 ·exact(h.held ..).alter _
 ·exact h.held ..
theorem Ok2.bury (h:Ok2 P chs rds) (key dead body:ByteArray):Ok2 P (iH P chs rds key dead body).2.1 (iH P chs rds key dead body).2.2:=by
 unfold iH;split
 ·split
  ·exact h.alter _
  ·split
   ·exact((h.alter _).find _).add ..
   ·exact(h.alter _).find _
 ·exact h.alter _
end
theorem Ok2.take {P:Rws} (name:ByteArray) (tries:Int) (dead:ByteArray) (now u:Int):∀ (k:Nat) (chs:List Chg) (rds:Rws) (at_:ByteArray),Ok2 P chs rds->Ok2 P (eO P name tries dead now u k chs rds at_).2.1 (eO P name tries dead now u k chs rds at_).2.2
 | 0,_,_,_,h=>h
 | k+1,chs,rds,at_,h=>by
  have ih:=Ok2.take (P:=P) name tries dead now u k;unfold eO;dsimp only;split
  ·split
   ·split
    ·exact ih _ _ _ (h.first ..)
    ·split
     ·exact(h.first ..).putM ..
     ·split
      ·exact ih _ _ _ ((h.first ..).bury ..)
      ·exact(h.first ..).bury ..
   ·exact h.first ..
  ·exact h.first ..
section
variable {P:Rws} {chs:List Chg} {rds:Rws}
theorem Ok2.receive (h:Ok2 P chs rds) (name:ByteArray) (now long:Int):Ok2 P (dK P chs rds name now long).2.1 (dK P chs rds name now long).2.2:=by
 unfold dK;split
 ·split
  ·have ht:=Ok2.take (P:=P) name (aN P chs rds name).2.1 (aN P chs rds name).2.2.1 now (now+long) 1000001 chs (bC chs rds name) (aZ name) (h.find _);split
   ·exact ht
   ·exact⟨{ h.ov with rn:=ht.ov.rn },h.oq⟩
  ·exact h.find _
 ·exact h.find _
end
structure Fit (s:ESt) (n:Nat):Prop where
 ok:EOk s
 s4:S4 s
 left:s.x.d.left=-1
 len:s.x.d.now.length=n
theorem Fit.ended {s:ESt} {n:Nat} (h:Fit s n) {i:Nat} (hi:i<4):Fit (endE s i) n:=⟨h.ok.ended h.s4 i,h.s4.set hi none,h.left,h.len⟩
theorem Fit.begin {s:ESt} {n:Nat} (h:Fit s n) {i:Nat} (hi:i<4):Fit (dX s i) n:=⟨h.ok.begin i,h.s4.set hi _,h.left,h.len⟩
theorem Fit.com {s:ESt} {n:Nat} (h:Fit s n) {i:Nat} (hi:i<4):Fit (comE s i).2 n/\(comE s i).2.c<=s.c+1:=by
 unfold comE
 cases hv:s.ses i with
 | none=>exact⟨h,Nat.le_succ _⟩
 | some v=>
  dsimp only;split
  ·exact⟨h.ended hi,Nat.le_succ _⟩
  ·split
   ·exact⟨h.ended hi,Nat.le_succ _⟩
   ·obtain⟨hlen,hcc⟩:=h.ok.g.commit v.chs;obtain⟨n1,n2⟩:=h.ok.g.never h.left v.chs;split
    ·rename_i hne;have hx:(comR s.x v.chs).2=s.x:=by
      rcases hcc with⟨a,_⟩|⟨_,_,c⟩|⟨a,b,_⟩
      ·exact absurd a hne
      ·exact c
      ·rw[n1,b] at a;cases a
     refine⟨⟨?_,h.s4,?_,?_⟩,Nat.le_succ _⟩
     ·show EOk { s with x:=(comR s.x v.chs).2 };rw[hx];exact h.ok.store h.ok.g rfl
     ·show(comR s.x v.chs).2.d.left=-1;rw[hx];exact h.left
     ·show(comR s.x v.chs).2.d.now.length=n;rw[hx];exact h.len
    ·rename_i hz;have hz':(comR s.x v.chs).1=0:=by simpa using hz
     have hf:Fit (addE s v.chs) n:=⟨h.ok.add hz',h.s4,n2,hlen.trans h.len⟩;exact⟨hf.ended hi,Nat.le_refl _⟩
end
section
open Go.RowKit Go.Joins Go.Shelf
attribute [local go_sem ↓] Go.wp_at_zero Go.wp_at_succ
structure RunE (w0 w:World) (B:Nat) (m:EMem) (s:ESt) (n:Nat):Prop where
 ek:EK w B m s
 fit:Fit s n
 bel:Below w0.heap.size w0 w
 lo:w0.heap.size<=B
 la:Laid w0
section
variable {w0 w w':World} {B n:Nat} {m:EMem} {s s':ESt}
theorem RunE.on (h:RunE w0 w B m s n) (hb:Below w.heap.size w w'):RunE w0 w' B m s n:={ h with ek:=h.ek.on hb,bel:=aB h.bel (Nat.le_refl _) hb }
theorem RunE.laid (h:RunE w0 w B m s n):∀ W,Below B w W->Laid W:=fun _ hW=>iL h.la (h.bel.trans (hW.mono h.lo))
structure RunA (w0 w w':World) (B:Nat) (m:EMem) (s s':ESt) (n:Nat) (m':EMem):Prop where
 run:RunE w0 w' B m' s' n
 eb:m'.eb=m.eb
 db:m'.db=m.db
 st:aG w w' B (allF m s.ses) (allF m' s'.ses)
theorem RunE.act (h:RunE w0 w B m s n) (ha:ActE w w' B m s s') (hf:Fit s' n):∃ m',RunA w0 w w' B m s s' n m':=by
 obtain⟨m',k1,k2,k3,k4⟩:=ha;exact⟨m',⟨k1,hf,h.bel.trans (k4.bel.mono h.lo),h.lo,h.la⟩,k2,k3.1,k4⟩
theorem zEi (k:Nat) (w0 w:World) (h1:54<=k) (h2:k<=200) (hL:Laid w0) (hb:Below w0.heap.size w0 w):Calls Tryz.prog 15 #[.int .i64 (k:Int)] w fun e w'=>∃ db eb,e=.returned (.tuple #[.pointer (some ⟨db,0,none⟩),.pointer (some ⟨eb,0,none⟩),.bool true])/\∃ m s,RunE w0 w' w.heap.size m s k/\m.eb=eb/\m.db=db/\zDq s k:=by
 refine(vC k w h1 h2).mono ?_;rintro e w' ⟨db,eb,rfl,hst⟩;obtain⟨m,s,hek,he,hd,fr⟩:=hst.ex;exact⟨db,eb,rfl,m,s,⟨hek,⟨fr.ok,hek.s4,fr.left,fr.len⟩,aB hb (Nat.le_refl _) hst.bel,hb.size,hL⟩,he,hd,fr⟩
end
end
section
open Go.RowKit Go.Joins Go.Shelf
section
variable {w0 w w':World} {B n:Nat} {m:EMem} {s s':ESt}
theorem iI (h:RunE w0 w B m s n) {i:Nat} (hi:i<4) (hv:s.ses i=none):
  Calls Tryz.prog 18 #[.pointer (some ⟨m.eb,0,none⟩),.int .i64 (i:Int)] w fun e w'=>e=.returned .nilIface/\∃ m',RunA w0 w w' B m s (dX s i) n m':=
 (wB w h.ek hi hv).mono fun _ _ ⟨he,ha⟩=>⟨he,h.act ha (h.fit.begin hi)⟩
theorem gF (h:RunE w0 w B m s n) {i:Nat} (hi:i<4) (hc:s.c<=150):
  Calls Tryz.prog 20 #[.pointer (some ⟨m.eb,0,none⟩),.int .i64 (i:Int)] w fun e w'=>e=.returned (.tuple #[.int .i64 ((comE s i).1.1:Int),errV (comE s i).1.2])/\∃ m',RunA w0 w w' B m s (comE s i).2 n m':=
 (vX w h.ek h.fit.ok hi hc).mono fun _ _ ⟨he,ha⟩=>⟨he,h.act ha (h.fit.com hi).1⟩
theorem dY (h:RunE w0 w B m s n) {i:Nat} {v:VwL} (hv:s.ses i=some v) (hi:i<4) {chs:List Chg} {rds:Rws} (ha:ActQ w w' B (m.W i).1 (inPV m i) v.P (snE B m s v.n) chs rds) (h2:Ok2 v.P chs rds):∃ m',RunA w0 w w' B m s (jU s i v chs rds) n m'/\(m'.W i).1=(m.W i).1:=by
 obtain⟨S',hq,hst⟩:=ha;obtain⟨y,hy,k1,k2⟩:=h.ek.view hv hi hq.pv hst;refine⟨_,⟨⟨k1,⟨h.fit.ok.view hv h2.ov h2.oq,h.fit.s4.set hi _,h.fit.left,h.fit.len⟩,h.bel.trans (k2.bel.mono h.lo),h.lo,h.la⟩,rfl,rfl,k2⟩,?_⟩;show(updW m.W i y i).1=_;rw[qH];exact hy
theorem RunE.qv (h:RunE w0 w B m s n) {i:Nat} {v:VwL} (hv:s.ses i=some v) (hc:s.c<=190):QV w B (m.W i).1 (inPV m i) v.P (snE B m s v.n) v.chs v.rds:=h.ek.qv h.fit.ok hv hc h.laid
theorem RunE.ok2 (h:RunE w0 w B m s n) {i:Nat} {v:VwL} (hv:s.ses i=some v):Ok2 v.P v.chs v.rds:=⟨(h.fit.ok.ses i v hv).ov,(h.fit.ok.ses i v hv).oq⟩
end
theorem sN {w0 w:World} {B n:Nat} {m:EMem} {s:ESt} (h:RunE w0 w B m s n):Calls Tryz.prog 35 #[.pointer (some ⟨m.eb,0,none⟩)] w fun e w'=>∃ ra rc,e=.returned (.slice ra (aS s.x.rows).length rc)/\bY w' ra (aS s.x.rows)/\Below w.heap.size w w':=by
 refine(zBq w h.ek (by have:=h.fit.ok.few;omega)).mono ?_;rintro e w' ⟨v,rfl,ho,hb⟩;obtain⟨ra,rc,rfl,hh⟩:=lV ho;exact⟨ra,rc,rfl,hh,hb⟩
end
section
open Go.RowKit Go.Joins
def qBt:ByteArray:=⟨#[113]⟩
def xBt:ByteArray:=⟨#[120]⟩
def noB:ByteArray:=⟨#[]⟩
def cJ:Nat->List Chg×Rws
 | 0=>((fD [] [] [] qBt 9 noB).2.1,(fD [] [] [] qBt 9 noB).2.2)
 | k+1=>((fN [] (cJ k).1 (cJ k).2 qBt xBt 0).2.2.1,(fN [] (cJ k).1 (cJ k).2 qBt xBt 0).2.2.2)
def rcvT (rows:List Chg):Msg×List Chg×Rws:=dK (aS rows) [] [] qBt 0 0
def ackT (rows:List Chg):Nat×List Chg×Rws:=ackQ (aS rows) (rcvT rows).2.1 (rcvT rows).2.2 qBt (rcvT rows).1.1 (rcvT rows).1.2.1
def aT (many:Nat):Nat->List Chg
 | 0=>aK [] (cJ many).1
 | t+1=>aK (aT many t) (ackT (aT many t)).2.1
def keyT (t:Nat):ByteArray:=msgB qBt t
def okT (many t:Nat):Bool:=
 decide ((aT many t).length<=40)&&(List.range many).all (fun tv=>(valR (aS (aT many t)) (keyT tv)).2==decide (t<=tv))&&((inR (aS (aT many t)) (aZ qBt,toB qBt)).length==many-t) &&
 (if t<many then decide ((rcvT (aT many t)).1.2.2.2.2=0)&&decide ((rcvT (aT many t)).1.1=(t:Int))&&decide ((ackT (aT many t)).1=0)&&!(ackT (aT many t)).2.1.isEmpty&&decide (jW (ackT (aT many t)).2.1=0)&&decide ((ackT (aT many t)).2.1.length<=12) &&
   (ackT (aT many t)).2.2.any (fun s=>hasS s.1 s.2 (keyT t))&&decide ((rcvT (aT many t)).1.2.1=1)
  else decide ((rcvT (aT many t)).1.2.2.2.2=12)&&(rcvT (aT many t)).2.1.isEmpty)
def okF (many:Nat):Bool:=
 decide ((fD [] [] [] qBt 9 noB).1=0)&&(List.range many).all (fun k=>(fN [] (cJ k).1 (cJ k).2 qBt xBt 0).2.1==0)&&decide (jW (cJ many).1=0)&&!(cJ many).1.isEmpty&&decide ((cJ many).1.length<=12)&&decide ((aK [] (cJ many).1).length<=40)
theorem uI:(List.range 6).all (fun m=>okF m&&(List.range (m+1)).all (okT m))=true:=by decide +kernel
theorem fY {many t:Nat} (h:many<=5) (ht:t<=many):okF many=true/\okT many t=true:=by
 have h1:=List.all_eq_true.1 uI many (List.mem_range.2 (by omega));rw[Bool.and_eq_true] at h1;exact⟨h1.1,List.all_eq_true.1 h1.2 t (List.mem_range.2 (by omega))⟩
structure OkA (many t:Nat):Prop where
 len:(aT many t).length<=40
 key:∀ tv,tv<many->(valR (aS (aT many t)) (keyT tv)).2=decide (t<=tv)
 cnt:(inR (aS (aT many t)) (aZ qBt,toB qBt)).length=many-t
structure OkB (many t:Nat):Prop where
 r:(rcvT (aT many t)).1.2.2.2.2=0
 n:(rcvT (aT many t)).1.1=(t:Int)
 tr:(rcvT (aT many t)).1.2.1=1
 a:(ackT (aT many t)).1=0
 ne:(ackT (aT many t)).2.1≠[]
 d:jW (ackT (aT many t)).2.1=0
 c:(ackT (aT many t)).2.1.length<=12
 hit:∃ s∈(ackT (aT many t)).2.2,hasS s.1 s.2 (keyT t)=true
theorem qI {many t:Nat} (h:many<=5) (ht:t<=many):OkA many t:=by
 have h1:=(fY h ht).2;unfold okT at h1;simp only[Bool.and_eq_true,decide_eq_true_eq,List.all_eq_true,beq_iff_eq,List.mem_range] at h1;exact⟨h1.1.1.1,h1.1.1.2,h1.1.2⟩
theorem vD {many t:Nat} (h:many<=5) (ht:t<many):OkB many t:=by
 have h1:=(fY h (Nat.le_of_lt ht)).2;unfold okT at h1;rw[if_pos ht] at h1;simp only[Bool.and_eq_true,decide_eq_true_eq,List.any_eq_true,Bool.not_eq_true',List.isEmpty_eq_false_iff] at h1;obtain⟨_,⟨⟨⟨⟨⟨⟨q1,q2⟩,q3⟩,q4⟩,q5⟩,q6⟩,q7⟩,q8⟩:=h1;exact⟨q1,q2,q8,q3,q4,q5,q6,q7⟩
theorem vS {many:Nat} (h:many<=5):(rcvT (aT many many)).1.2.2.2.2=12/\(rcvT (aT many many)).2.1=[]:=by
 have h1:=(fY h (Nat.le_refl many)).2;unfold okT at h1;rw[if_neg (Nat.lt_irrefl _)] at h1;simp only[Bool.and_eq_true,decide_eq_true_eq,List.isEmpty_iff] at h1;exact h1.2
structure OkC (many:Nat):Prop where
 c:(fD [] [] [] qBt 9 noB).1=0
 s:∀ k,k<many->(fN [] (cJ k).1 (cJ k).2 qBt xBt 0).2.1=0
 d:jW (cJ many).1=0
 ne:(cJ many).1≠[]
 l:(cJ many).1.length<=12
 b:(aK [] (cJ many).1).length<=40
theorem vK {many:Nat} (h:many<=5):OkC many:=by
 have h1:=(fY h (Nat.le_refl many)).1;unfold okF at h1;simp only[Bool.and_eq_true,decide_eq_true_eq,List.all_eq_true,beq_iff_eq,List.mem_range,Bool.not_eq_true',List.isEmpty_eq_false_iff] at h1;obtain⟨⟨⟨⟨⟨q1,q2⟩,q3⟩,q4⟩,q5⟩,q6⟩:=h1;exact⟨q1,q2,q3,q4,q5,q6⟩
theorem rP {s:ESt} {i:Nat} {v:VwL} (hv:s.ses i=some v) (hne:v.chs≠[]) (hcl:lC s.ds v.rds v.n=false):comE s i=((0,9),endE s i):=by
 unfold comE;rw[hv];dsimp only;rw[if_neg hne,if_pos hcl]
theorem kN {s:ESt} (h:Fit s 120) {i:Nat} {v:VwL} (hv:s.ses i=some v) (hne:v.chs≠[]) (hd:jW v.chs=0) (hl:v.chs.length<=12) (hb:(aK s.x.rows v.chs).length<=40) (hcl:lC s.ds v.rds v.n=true):
  (comE s i).1.2=0/\(comE s i).2.x.rows=aK s.x.rows v.chs/\(comE s i).2.ses=setS s.ses i none:=by
 have n1:=(h.ok.g.never h.left v.chs).1;have hcm:=(h.ok.g.commit v.chs).2;have hcF:comF s.x v.chs=0:=by
  unfold comF;rw[if_neg (by rw[hd];decide),h.len,if_neg];rintro(e|e)<;>omega
 unfold comE;rw[hv];dsimp only;rw[if_neg hne,if_neg (by rw[hcl];decide),if_neg (by rw[n1,hcF];decide)];refine⟨rfl,?_,rfl⟩;show(comR s.x v.chs).2.rows=_;rcases hcm with⟨_,_,_,e,_⟩|⟨_,e,_⟩|⟨a,_⟩
 ·exact e
 ·exact absurd hcF e
 ·rw[n1,hcF] at a;cases a
def TV (many:Nat) (v:VwL) (has:Int) (tv:Nat):Prop:=v.P=aS (aT many tv)/\((tv<many/\has=(tv:Int)/\v.chs=(ackT (aT many tv)).2.1/\v.rds=(ackT (aT many tv)).2.2)∨(tv=many/\has=-1/\v.chs=[]))
structure TK (s:ESt) (f:Nat->Int) (many t k:Nat):Prop where
 row:s.x.rows=aT many t
 le:t<=many
 c:s.c<=k+1
 ses:∀ i v,s.ses i=some v->∃ tv,tv<=t/\TV many v (f i) tv
theorem TK.com {s:ESt} {f:Nat->Int} {many t k i:Nat} {v:VwL} (h:TK s f many t k) (hf:Fit s 120) (hm:many<=5) (hi:i<4) (hv:s.ses i=some v):
  ((comE s i).1.2=0/\f i=-1/\TK (comE s i).2 f many t (k+1))∨((comE s i).1.2=0/\f i=(t:Int)/\t<many/\TK (comE s i).2 f many (t+1) (k+1))∨((comE s i).1.2=9/\TK (comE s i).2 f many t (k+1)):=by
 obtain⟨tv,htv,hP,hor⟩:=h.ses i v hv;have hc:=(hf.com hi).2;have hcc:(comE s i).2.c<=k+1+1:=by have:=h.c;omega
 have hoth:∀ t',t<=t'->∀ j u,setS s.ses i none j=some u->∃ tv,tv<=t'/\TV many u (f j) tv:=fun t' ht j u hj=>by
  obtain⟨x,q1,q2⟩:=h.ses j u (zBn hj);exact⟨x,by omega,q2⟩
 rcases hor with⟨hlt,hfi,hch,hrd⟩|⟨he,hfi,hch⟩
 ·have ob:=vD hm hlt;have hne:v.chs≠[]:=by rw[hch];exact ob.ne
  cases hcl:lC s.ds v.rds v.n
  ·right;right;have e:=rP hv hne hcl;rw[e] at hcc ⊢;exact⟨rfl,h.row,h.le,hcc,hoth t (Nat.le_refl _)⟩
  ·right;left;have hsem:valR (aS s.x.rows) (keyT tv)=valR v.P (keyT tv):=(hf.ok.ses i v hv).sem (keyT tv) fun d hd hn hk=>by
    have hall:=hcl;rw[jY hf.ok.rd,List.all_eq_true] at hall;have h1:=hall d (List.mem_filter.2 ⟨hd,by simpa using hn⟩);have h2:zLM v.rds d=true:=by
     unfold zLM;rw[List.any_eq_true];obtain⟨s',m1,m2⟩:=ob.hit;exact⟨keyT tv,hk,List.any_eq_true.2 ⟨s',by rw[hrd];exact m1,m2⟩⟩
    rw[h2] at h1;cases h1
   have e1:=(qI hm h.le).key tv hlt;have e2:=(qI hm (Nat.le_of_lt hlt)).key tv hlt;rw[hP,h.row] at hsem;rw[hsem,e2] at e1;have ht:t<=tv:=by
    have:decide (t<=tv)=true:=by rw[<-e1];simp
    exact of_decide_eq_true this
   have et:tv=t:=by omega
   subst et;have hbl:(aK s.x.rows v.chs).length<=40:=by
    rw[hch,h.row];exact(qI hm (show tv+1<=many from hlt)).len
   obtain⟨q1,q2,q3⟩:=kN hf hv hne (by rw[hch];exact ob.d) (by rw[hch];exact ob.c) hbl hcl;refine⟨q1,hfi,hlt,?_,hlt,hcc,?_⟩
   ·rw[q2,hch,h.row];rfl
   ·rw[q3];exact hoth (tv+1) (Nat.le_succ _)
 ·left;have e:comE s i=((v.n,0),endE s i):=by
   unfold comE;rw[hv];dsimp only;rw[if_pos hch]
  rw[e] at hcc ⊢;exact⟨rfl,hfi,h.row,h.le,hcc,hoth t (Nat.le_refl _)⟩
end
section
open Go.RowKit Go.Joins Go.Shelf
structure BkV (W:World) (lo:Nat) (m:EMem) (s:ESt) (b n:Nat) (f:Nat->Value):Prop where
 c:∀ i,i<n->W.cell? ⟨b,i,none⟩=some (f i)
 fz:∀ j,W.frozen? ⟨b,j,none⟩=false
 na:¬allF m s.ses b
 lt:b<W.heap.size
 lo:lo<=b
def putF (f:Nat->Value) (i:Nat) (v:Value):Nat->Value:=fun j=>if j=i then v else f j
section
variable {w0 W W':World} {B lo b n:Nat} {m m':EMem} {s s':ESt} {f:Nat->Value}
theorem BkV.step (h:BkV W lo m s b n f) (hs:aG W W' B (allF m s.ses) (allF m' s'.ses)):BkV W' lo m' s' b n f:=by
 obtain⟨e,n⟩:=hs.far b h.lt h.na;exact⟨fun i hi=>(World.cell?_of_block (a:=⟨b,i,none⟩) e).trans (h.c i hi),fun j=>(World.frozen?_of_block (w:=W) e).trans (h.fz j),n,Nat.lt_of_lt_of_le h.lt hs.bel.size,h.lo⟩
theorem BkV.on (h:BkV W lo m s b n f) (hb:Below W.heap.size W W'):BkV W' lo m s b n f:=
 ⟨fun i hi=>aA hb (h.c i hi),fun j=>aE hb h.lt (h.fz j),h.na,Nat.lt_of_lt_of_le h.lt hb.size,h.lo⟩
theorem BkV.set (h:BkV W lo m s b n f) {i:Nat} (hi:i<n) (v:Value):BkV (W.setCell ⟨b,i,none⟩ v) lo m s b n (putF f i v):=by
 refine⟨fun j hj=>?_,fun j=>by rw[World.frozen?_setCell];exact h.fz j,h.na,by simpa using h.lt,h.lo⟩;by_cases e:j=i
 ·subst e;rw[show putF f j v j=v from if_pos rfl];exact World.cell?_setCell_same _ _ _ (h.c j hj)
 ·rw[show putF f i v j=f j from if_neg e];exact(World.cell?_setCell_other _ _ _ _ (by simp<;>omega)).trans (h.c j hj)
theorem BkV.other (h:BkV W lo m s b n f) {b' i:Nat} (hb:b≠b') (v:Value):BkV (W.setCell ⟨b',i,none⟩ v) lo m s b n f:=
 ⟨fun j hj=>(World.cell?_setCell_other _ _ _ _ (by simp<;>omega)).trans (h.c j hj),fun j=>by rw[World.frozen?_setCell];exact h.fz j,h.na,by simpa using h.lt,h.lo⟩
theorem RunE.mark (h:RunE w0 W B m s n) (hn:¬allF m s.ses b) (hl:w0.heap.size<=b) (i:Nat) (v:Value):RunE w0 (W.setCell ⟨b,i,none⟩ v) B m s n:=
 { h with ek:=h.ek.kept (by simp) fun k hk=>Below.heap_setCell _ _ _ _ fun e=>hn (by have e':k=b:=e;rw[<-e'];exact hk),bel:=h.bel.setCell (p:=⟨b,i,none⟩) hl v }
end
section
variable {w0 w w':World} {B n:Nat} {m:EMem} {s:ESt} {i:Nat} {v:VwL}
theorem qJ (name:ByteArray) (tries:Int) (dead:ByteArray) (h:RunE w0 w B m s n) (hv:s.ses i=some v) (hi:i<4) (hc:s.c<=190) (hn:name.size<=1000) (hd:dead.size<=1000):
  Calls Tryz.prog 48 #[.pointer (some ⟨(m.W i).1,0,none⟩),.string name,.int .i64 tries,.string dead] w fun e w'=>e=.returned (errV (fD v.P v.chs v.rds name tries dead).1)/\∃ m',RunA w0 w w' B m s (jU s i v (fD v.P v.chs v.rds name tries dead).2.1 (fD v.P v.chs v.rds name tries dead).2.2) n m'/\(m'.W i).1=(m.W i).1:=
 (zEK name tries dead w (h.qv hv hc) hn hd).mono fun _ _ ⟨he,ha⟩=>⟨he,dY h hv hi ha ((h.ok2 hv).create _ _ _)⟩
theorem sV (name body:ByteArray) (u:Int) (h:RunE w0 w B m s n) (hv:s.ses i=some v) (hi:i<4) (hc:s.c<=190) (hn:name.size<=1000):
  Calls Tryz.prog 49 #[.pointer (some ⟨(m.W i).1,0,none⟩),.string name,.string body,.int .i64 u] w fun e w'=>e=.returned (.tuple #[.int .i64 (fN v.P v.chs v.rds name body u).1,errV (fN v.P v.chs v.rds name body u).2.1])/\∃ m',RunA w0 w w' B m s (jU s i v (fN v.P v.chs v.rds name body u).2.2.1 (fN v.P v.chs v.rds name body u).2.2.2) n m'/\(m'.W i).1=(m.W i).1:=
 (zIc name body u w (h.qv hv hc) hn).mono fun _ _ ⟨he,ha⟩=>⟨he,dY h hv hi ha ((h.ok2 hv).send _ _ _)⟩
theorem oZ (name:ByteArray) (now long:Int) (h:RunE w0 w B m s n) (hv:s.ses i=some v) (hi:i<4) (hc:s.c<=190) (hn:name.size<=1000):
  Calls Tryz.prog 50 #[.pointer (some ⟨(m.W i).1,0,none⟩),.string name,.int .i64 now,.int .i64 long] w fun e w'=>e=.returned (.tuple #[mV (dK v.P v.chs v.rds name now long).1,errV (dK v.P v.chs v.rds name now long).1.2.2.2.2])/\∃ m',RunA w0 w w' B m s (jU s i v (dK v.P v.chs v.rds name now long).2.1 (dK v.P v.chs v.rds name now long).2.2) n m'/\(m'.W i).1=(m.W i).1:=
 (zCy name now long w (h.qv hv hc) hn).mono fun _ _ ⟨he,ha⟩=>⟨he,dY h hv hi ha ((h.ok2 hv).receive _ _ _)⟩
theorem uR (name:ByteArray) (k tries:Int) (h:RunE w0 w B m s n) (hv:s.ses i=some v) (hi:i<4) (hc:s.c<=190) (hn:name.size<=1000) (hk0:-9223372036854775808<=k) (hk1:k<=9223372036854775807):
  Calls Tryz.prog 51 #[.pointer (some ⟨(m.W i).1,0,none⟩),.string name,.int .i64 k,.int .i64 tries] w fun e w'=>e=.returned (errV (ackQ v.P v.chs v.rds name k tries).1)/\∃ m',RunA w0 w w' B m s (jU s i v (ackQ v.P v.chs v.rds name k tries).2.1 (ackQ v.P v.chs v.rds name k tries).2.2) n m'/\(m'.W i).1=(m.W i).1:=
 (zKS name k tries w (h.qv hv hc) hn hk0 hk1).mono fun _ _ ⟨he,ha⟩=>⟨he,dY h hv hi ha ((h.ok2 hv).ack _ _ _)⟩
end
def putI (f:Nat->Int) (i:Nat) (v:Int):Nat->Int:=fun j=>if j=i then v else f j
theorem lA (f:Nat->Int) (i:Nat) (v:Int):putF (fun j=>.int .i64 (f j)) i (.int .i64 v)=fun j=>.int .i64 (putI f i v j):=by
 funext j;unfold putF putI;split<;>rfl
theorem rX (f:Nat->Int) (i:Nat) (u v:Int):putI (putI f i u) i v=putI f i v:=by
 funext j;unfold putI;split<;>rfl
section
variable {s:ESt} {f:Nat->Int} {many t k:Nat}
theorem TK.begin_other (h:TK s f many t k) {i:Nat} {s':ESt} {x:Int} (hr:s'.x.rows=s.x.rows) (hc:s'.c=s.c) (ho:∀ j,j≠i->s'.ses j=s.ses j) {v:VwL} (hv:s'.ses i=some v) (hx:TV many v x t):TK s' (putI f i x) many t (k+1):=by
 refine⟨hr.trans h.row,h.le,by have:=h.c;omega,fun j u hj=>?_⟩;by_cases e:j=i
 ·subst e;rw[hv] at hj;cases hj;refine⟨t,Nat.le_refl _,?_⟩;rw[show putI f j x j=x from if_pos rfl];exact hx
 ·rw[ho j e] at hj;obtain⟨tv,q1,q2⟩:=h.ses j u hj;refine⟨tv,q1,?_⟩;rw[show putI f i x j=f j from if_neg e];exact q2
end
end
section
open Go.RowKit Go.Joins Go.Shelf
attribute [local go_sem ↓] Go.wp_at_zero Go.wp_at_succ
def tG (w:World) (ao:Option Addr) (l:List Int):Prop:=l=[]∨∃ b off,ao=some ⟨b,off,none⟩/\∀ i (hi:i<l.length),w.cell? ⟨b,off+i,none⟩=some (.int .i64 l[i])
theorem and3 (t:Int):bits .and .i64 t 3=((t % 4).toNat:Int):=by rw[zJT];omega
theorem topTaken_walk (many0:Int) (l:List Int) (ao:Option Addr) (cap:Nat) (w:World) (hL:Laid w) (hd:tG w ao l):
  Calls Tryz.prog 9 #[.int .i64 many0,.slice ao l.length cap] w fun e w'=>e=.returned (.bool true)/\Below w.heap.size w w':=by
 have nn:=eG;have ne:=pX;have n1:=bM 114;have n2:=rD 114;have HL:=hide hL;have HD:=hide hd;clear hL hd;go_enter Tryz.func9,Tryz.ntmps9;go_wp2_with fail;refine(zHJ w).mono ?_;rintro e w1 ⟨rfl,hb1⟩;have HB1:=hide hb1;clear hb1;by_cases hm0:many0<0
 ·go_wp2;go_ret;exact⟨rfl,HB1.out⟩
 by_cases hm5:5<many0
 ·go_wp2;go_ret;exact⟨rfl,HB1.out⟩
 by_cases h40:(40:Int)<(l.length:Int)
 ·go_wp2;go_ret;exact⟨rfl,HB1.out⟩
 obtain⟨many,rfl⟩:∃ many:Nat,many0=(many:Int):=⟨many0.toNat,by omega⟩;have hm:many<=5:=by omega
 have oc:=vK hm;have OC:=hide oc;clear oc;have d1:decide ((many:Int)<0)=false:=decide_eq_false hm0;have d2:decide ((5:Int)<(many:Int))=false:=decide_eq_false hm5;have d3:decide ((40:Int)<(l.length:Int))=false:=decide_eq_false h40;have d4:decide (5<many)=false:=decide_eq_false (by omega);have d5:decide (40<l.length)=false:=decide_eq_false (by omega);go_wp2_with fail;clear d1 d2 d3 d4 d5;refine(zEi 120 w w1 (by decide) (by decide) HL.out HB1.out).mono ?_;rintro e w3 ⟨db,eb,rfl,m,s,hrun,rfl,rfl,fr⟩;have HBG:=hide (iI hrun (i:=0) (by decide) (fr.ses 0));have hc0:=fr.c;have hds0:s.ds=[]:=fr.ds;have hrows:s.x.rows=[]:=fr.rows;have HS0:=hide fr.ses;generalize w1.heap.size=B at *;clear hrun fr HB1;go_wp2_with fail;refine HBG.out.mono ?_;rintro e w4 ⟨rfl,m4,hA4⟩;have hv4:=zGX s 0;rw[hrows] at hv4;have HDE:=hide (mT w4 hA4.run.ek (i:=0) (by decide) hv4);have he4:=hA4.eb;rw[he4] at HDE;have HCR:=hide (qJ qBt 9 noB hA4.run hv4 (by decide) (by show s.c<=190;omega) (by decide) (by decide));rw[show aS ([]:List Chg)=[] from rfl] at HCR;dsimp only at HCR;rw[OC.out.c,aR] at HCR;have hns4:∀ j,j≠0->(dX s 0).ses j=none:=fun j hj=>(hU _ hj).trans (HS0.out j);have HNS:=hide hns4;have hr4:(dX s 0).x.rows=[]:=hrows;have hc4:(dX s 0).c=0:=hc0;have hd4:(dX s 0).ds=[]:=hds0;clear hA4 HBG hv4 hns4 HS0;generalize dX s 0=s4 at *;generalize hwb:(m4.W 0).1=wb at *;go_wp2_with fail;refine HDE.out.mono ?_;rintro e w5 ⟨rfl,hw5⟩;rw[hw5];clear hw5 HDE;go_wp2_with fail;refine HCR.out.mono ?_;rintro e w6 ⟨rfl,m6,hA6,hw6⟩;have HR6:=hide hA6.run;have HE6:=hide (hA6.eb.trans he4);have HW6:=hide hw6;clear hA6 hw6 HCR;have HV6:Hid ((jU s4 0 ⟨[],s.now,[],[]⟩ (cJ 0).1 (cJ 0).2).ses 0=some ⟨[],s.now,(cJ 0).1,(cJ 0).2⟩):=zHj _ _ _ _ _;have HN6:Hid (∀ j,j≠0->(jU s4 0 ⟨[],s.now,[],[]⟩ (cJ 0).1 (cJ 0).2).ses j=none):=fun j hj=>(hU _ hj).trans (HNS.out j hj);have hr6:(jU s4 0 ⟨[],s.now,[],[]⟩ (cJ 0).1 (cJ 0).2).x.rows=[]:=hr4;have hc6:(jU s4 0 ⟨[],s.now,[],[]⟩ (cJ 0).1 (cJ 0).2).c=0:=hc4;have hd6:(jU s4 0 ⟨[],s.now,[],[]⟩ (cJ 0).1 (cJ 0).2).ds=[]:=hd4;change Hid (RunE w w6 B m6 (jU s4 0 ⟨[],s.now,[],[]⟩ (cJ 0).1 (cJ 0).2) 120) at HR6;generalize jU s4 0 ⟨[],s.now,[],[]⟩ (cJ 0).1 (cJ 0).2=s6 at *;go_wp2_with fail
 go_loopw [10] (fun iv wr=>∃ (k:Nat) (m':EMem) (s':ESt),k<=many/\iv=.int .i64 (k:Int)/\RunE w wr B m' s' 120/\m'.eb=m.eb/\(m'.W 0).1=wb/\s'.ses 0=some ⟨[],s.now,(cJ k).1,(cJ k).2⟩/\(∀ j,j≠0->s'.ses j=none)/\s'.x.rows=[]/\s'.c=0/\s'.ds=[]) (fun iv _=>many-(intOf iv).toNat)
 case atStart=>exact⟨0,m6,s6,Nat.zero_le _,rfl,HR6.out,HE6.out,HW6.out,HV6.out,HN6.out,hr6,hc6,hd6⟩
 case round=>
  obtain⟨k,m',s',hk,rfl,hR,heb,hw',hv',hn',hr',hc',hds'⟩:=hrel;clear HR6 HE6 HW6 HV6 HN6;have HR:=hide hR;have HN:=hide hn';clear hR hn';by_cases hlt:k<many
  ·have hlt':(k:Int)<(many:Int):=by omega
   have HSE:=hide (sV qBt xBt 0 HR.out hv' (by decide) (by omega) (by decide));dsimp only at HSE;rw[OC.out.s k hlt,aR,hw'] at HSE;have HV2:Hid ((jU s' 0 ⟨[],s.now,(cJ k).1,(cJ k).2⟩ (cJ (k+1)).1 (cJ (k+1)).2).ses 0=some ⟨[],s.now,(cJ (k+1)).1,(cJ (k+1)).2⟩):=zHj _ _ _ _ _;have HN2:Hid (∀ j,j≠0->(jU s' 0 ⟨[],s.now,(cJ k).1,(cJ k).2⟩ (cJ (k+1)).1 (cJ (k+1)).2).ses j=none):=fun j hj=>(hU _ hj).trans (HN.out j hj);have hr2:(jU s' 0 ⟨[],s.now,(cJ k).1,(cJ k).2⟩ (cJ (k+1)).1 (cJ (k+1)).2).x.rows=[]:=hr';have hc2:(jU s' 0 ⟨[],s.now,(cJ k).1,(cJ k).2⟩ (cJ (k+1)).1 (cJ (k+1)).2).c=0:=hc';have hd2:(jU s' 0 ⟨[],s.now,(cJ k).1,(cJ k).2⟩ (cJ (k+1)).1 (cJ (k+1)).2).ds=[]:=hds';have HSE2:Hid (Calls Tryz.prog 49 #[.pointer (some ⟨wb,0,none⟩),.string qBt,.string xBt,.int .i64 0] wr fun e w'=>∃ nn,e=.returned (.tuple #[.int .i64 nn,.nilIface])/\∃ m7,RunE w w' B m7 (jU s' 0 ⟨[],s.now,(cJ k).1,(cJ k).2⟩ (cJ (k+1)).1 (cJ (k+1)).2) 120/\m7.eb=m.eb/\(m7.W 0).1=wb):=HSE.out.mono fun _ _ ⟨he,m7,hA,hw⟩=>⟨_,he,m7,hA.run,hA.eb.trans heb,hw⟩;clear HSE HR HN;generalize jU s' 0 ⟨[],s.now,(cJ k).1,(cJ k).2⟩ (cJ (k+1)).1 (cJ (k+1)).2=s7 at *;go_wp2_with fail;refine HSE2.out.mono ?_;rintro e w7 ⟨nx,rfl,m7,hR7,he7,hw7⟩;have HR7:=hide hR7;clear hR7 HSE2;go_wp2_with fail;exact⟨⟨k+1,m7,s7,by omega,by go_num,HR7.out,he7,hw7,HV2.out,HN2.out,hr2,hc2,hd2⟩,by simp[intOf];omega⟩
  ·have ek:k=many:=by omega
   subst ek;have hlt':¬(k:Int)<(k:Int):=by omega
   have hcl:lC s'.ds (cJ k).2 s.now=true:=by rw[hds'];rfl
   have hcf:=kN HR.out.fit hv' OC.out.ne OC.out.d OC.out.l (by rw[hr'];exact OC.out.b) hcl;have HCM:=hide (gF HR.out (i:=0) (by decide) (by omega));rw[heb,hcf.1,aR] at HCM;have hcc:=(HR.out.fit.com (i:=0) (by decide)).2;have HTK:Hid (TK (comE s' 0).2 (fun _=>0) k 0 0):=⟨by rw[hcf.2.1,hr'];rfl,Nat.zero_le _,by omega,fun i v hv=>by
    rw[hcf.2.2] at hv;by_cases e:i=0
    ·subst e;rw[hE] at hv;cases hv
    ·rw[hU _ e,HN.out i e] at hv;cases hv⟩
   clear hcf HR HN hv';generalize comE s' 0=C at *;go_wp2_with fail;refine HCM.out.mono ?_;rintro e w7 ⟨rfl,m7,hA7⟩;have HR7:=hide hA7.run;have he7:=hA7.eb.trans heb;clear hA7 HCM;have HM0:Hid (RunE w ((w7.alloc (Obj.cells #[.bool false,.bool false,.bool false,.bool false,.bool false] 96)).alloc (Obj.cells #[.int .i64 0,.int .i64 0,.int .i64 0,.int .i64 0] 97)) B m7 C.2 120/\BkV ((w7.alloc (Obj.cells #[.bool false,.bool false,.bool false,.bool false,.bool false] 96)).alloc (Obj.cells #[.int .i64 0,.int .i64 0,.int .i64 0,.int .i64 0] 97)) w.heap.size m7 C.2 w7.heap.size 5 (fun i=>.bool (decide (i<0)))/\BkV ((w7.alloc (Obj.cells #[.bool false,.bool false,.bool false,.bool false,.bool false] 96)).alloc (Obj.cells #[.int .i64 0,.int .i64 0,.int .i64 0,.int .i64 0] 97)) w.heap.size m7 C.2 (w7.heap.size+1) 4 (fun _=>.int .i64 0)):=by
    have hb1:=below_alloc1 w7 (Obj.cells #[.bool false,.bool false,.bool false,.bool false,.bool false] 96);have hz:(w7.alloc (Obj.cells #[.bool false,.bool false,.bool false,.bool false,.bool false] 96)).heap.size=w7.heap.size+1:=by simp
    have c1:∀ i,i<5->(w7.alloc (Obj.cells #[.bool false,.bool false,.bool false,.bool false,.bool false] 96)).cell? ⟨w7.heap.size,i,none⟩=some (.bool (decide (i<0))):=fun i hi=>by
     rw[aC];have e:i=0∨i=1∨i=2∨i=3∨i=4:=by omega
     rcases e with rfl|rfl|rfl|rfl|rfl<;>rfl
    have f1:=aQ w7 #[Value.bool false,Value.bool false,Value.bool false,Value.bool false,Value.bool false] 96;have hlt1:w7.heap.size<(w7.alloc (Obj.cells #[.bool false,.bool false,.bool false,.bool false,.bool false] 96)).heap.size:=by simp
    have hR1:=HR7.out.on hb1;generalize w7.alloc (Obj.cells #[.bool false,.bool false,.bool false,.bool false,.bool false] 96)=w8 at *;have hb2:=below_alloc1 w8 (Obj.cells #[.int .i64 0,.int .i64 0,.int .i64 0,.int .i64 0] 97);have hsz:=HR7.out.bel.size;refine⟨hR1.on hb2,⟨fun i hi=>aA hb2 (c1 i hi),fun j=>aE hb2 hlt1 (f1 j),fun ⟨i,hi⟩=>?_,Nat.lt_of_lt_of_le hlt1 hb2.size,hsz⟩,⟨fun i hi=>?_,fun j=>?_,fun ⟨i,hi⟩=>?_,by rw[<-hz];simp,by omega⟩⟩
    ·have:=HR7.out.ek.lt hi;omega
    ·rw[<-hz,aC];have e:i=0∨i=1∨i=2∨i=3:=by omega
     rcases e with rfl|rfl|rfl|rfl<;>rfl
    ·rw[<-hz];exact aQ _ _ _ j
    ·have:=HR7.out.ek.lt hi;omega
   clear HR7;go_wp2_with fail
   go_loopw [15] (fun iv wr=>∃ (j t:Nat) (m':EMem) (s':ESt) (f:Nat->Int),j<=l.length/\iv=.int .i64 (j:Int)/\RunE w wr B m' s' 120/\m'.eb=m.eb/\BkV wr w.heap.size m' s' w7.heap.size 5 (fun i=>.bool (decide (i<t)))/\BkV wr w.heap.size m' s' (w7.heap.size+1) 4 (fun i=>.int .i64 (f i))/\TK s' f k t j) (fun iv _=>l.length-(intOf iv).toNat)
   case atStart=>exact⟨0,0,m7,C.2,fun _=>0,Nat.zero_le _,rfl,HM0.out.1,he7,HM0.out.2.1,HM0.out.2.2,HTK.out⟩
   case round=>
    obtain⟨j,t,m8,s8,f,hj,rfl,hR8,he8,hT8,hH8,hK8⟩:=hrel;clear HM0 HTK;generalize htb:w7.heap.size=tb at *;have HR:=hide hR8;have HT:=hide hT8;have HH:=hide hH8;have HK:=hide hK8;clear hR8 hT8 hH8 hK8;have htl:=HK.out.le;have hkc:=HK.out.c;by_cases hlt:j<l.length
    ·have hlt':(j:Int)<(l.length:Int):=by omega
     have hk0:(0:Int)<=(j:Int):=by omega
     rcases HD.out with e|⟨b,off,e,hc⟩
     ·rw[e] at hlt;simp at hlt
     subst e;have x0:=aA HR.out.bel (hc j hlt);clear hc;generalize l[j]=tt at *;have hse:=and3 tt;have hslt:(tt % 4).toNat<4:=by omega
     generalize (tt % 4).toNat=si at *;have hs0:(0:Int)<=(si:Int):=by omega
     have hs4:(si:Int)<4:=by omega
     cases hv:s8.ses si with
     | none=>
      have HBG:=hide (iI HR.out hslt hv);rw[he8] at HBG;have hrow:=HK.out.row;have hv9:=zGX s8 si;have ho9:∀ j,j≠si->(dX s8 si).ses j=s8.ses j:=fun j hj=>hU _ hj;have hr9:(dX s8 si).x.rows=s8.x.rows:=rfl;have hc9:(dX s8 si).c=s8.c:=rfl;rw[hrow] at hv9;have HV9:=hide hv9;have HO9:=hide ho9;clear hv9 ho9 hv;generalize dX s8 si=s9 at *;go_wp2_with fail;refine HBG.out.mono ?_;rintro e w9 ⟨rfl,m9,hA9⟩;have he9:=hA9.eb.trans he8;have HDE:=hide (mT w9 hA9.run.ek hslt HV9.out);rw[he9] at HDE;have hT9:=HT.out.step hA9.st;have hH9:=HH.out.step hA9.st;have ch:=hH9.c si hslt;have fh:=hH9.fz si;have hH2:=hH9.set hslt (.int .i64 (-1));rw[lA] at hH2;have HH2:=hide hH2;have HT2:=hide (hT9.other (b':=tb+1) (i:=si) (by omega) (.int .i64 (-1)));have HR2:=hide (hA9.run.mark hH9.na hH9.lo si (.int .i64 (-1)));clear hA9 hT9 hH9 hH2 HBG HT HH HR;go_wp2_with fail;refine HDE.out.mono ?_;rintro e w10 ⟨rfl,hw10⟩;rw[hw10];clear hw10 HDE;have HRC:=hide (oZ qBt 0 0 HR2.out HV9.out hslt (by omega) (by decide));generalize hwb9:(m9.W si).1=wb9 at *;change Hid (Calls Tryz.prog 50 #[.pointer (some ⟨wb9,0,none⟩),.string qBt,.int .i64 0,.int .i64 0] (w9.setCell ⟨tb+1,si,none⟩ (.int .i64 (-1))) fun e w'=>e=.returned (.tuple #[mV (rcvT (aT k t)).1,errV (rcvT (aT k t)).1.2.2.2.2])/\∃ m',RunA w (w9.setCell ⟨tb+1,si,none⟩ (.int .i64 (-1))) w' B m9 s9 (jU s9 si ⟨aS (aT k t),s8.now,[],[]⟩ (rcvT (aT k t)).2.1 (rcvT (aT k t)).2.2) 120 m'/\(m'.W si).1=wb9) at HRC;by_cases htk:t<k
      ·have ob:=vD hm htk;have hva:=zHj s9 si ⟨aS (aT k t),s8.now,[],[]⟩ (rcvT (aT k t)).2.1 (rcvT (aT k t)).2.2;have hTK:TK (jU (jU s9 si ⟨aS (aT k t),s8.now,[],[]⟩ (rcvT (aT k t)).2.1 (rcvT (aT k t)).2.2) si ⟨aS (aT k t),s8.now,(rcvT (aT k t)).2.1,(rcvT (aT k t)).2.2⟩ (ackT (aT k t)).2.1 (ackT (aT k t)).2.2) (putI f si t) k t (j+1):=
        HK.out.begin_other hr9 hc9 (fun j hj=>(hU _ hj).trans ((hU _ hj).trans (HO9.out j hj))) (zHj _ _ _ _ _) ⟨rfl,.inl ⟨htk,rfl,rfl,rfl⟩⟩
       have HAK:Hid (∀ W m10,RunE w W B m10 (jU s9 si ⟨aS (aT k t),s8.now,[],[]⟩ (rcvT (aT k t)).2.1 (rcvT (aT k t)).2.2) 120->(m10.W si).1=wb9->Calls Tryz.prog 51 #[.pointer (some ⟨wb9,0,none⟩),.string qBt,.int .i64 (rcvT (aT k t)).1.1,.int .i64 (rcvT (aT k t)).1.2.1] W fun e w'=>e=.returned .nilIface/\∃ m11,RunA w W w' B m10 (jU s9 si ⟨aS (aT k t),s8.now,[],[]⟩ (rcvT (aT k t)).2.1 (rcvT (aT k t)).2.2) (jU (jU s9 si ⟨aS (aT k t),s8.now,[],[]⟩ (rcvT (aT k t)).2.1 (rcvT (aT k t)).2.2) si ⟨aS (aT k t),s8.now,(rcvT (aT k t)).2.1,(rcvT (aT k t)).2.2⟩ (ackT (aT k t)).2.1 (ackT (aT k t)).2.2) 120 m11):=fun W m10 h hw=>by
        have q:=uR qBt (rcvT (aT k t)).1.1 (rcvT (aT k t)).1.2.1 h hva hslt (by show s9.c<=190;omega) (by decide) (by rw[ob.n];omega) (by rw[ob.n];omega);rw[hw] at q;refine q.mono ?_;rintro e w' ⟨he,m11,hA,_⟩;refine⟨?_,m11,hA⟩;have ea:(ackQ (aS (aT k t)) (rcvT (aT k t)).2.1 (rcvT (aT k t)).2.2 qBt (rcvT (aT k t)).1.1 (rcvT (aT k t)).1.2.1).1=0:=ob.a;rw[he];dsimp only;rw[ea,aR]
       rw[ob.n,ob.tr] at HAK;rw[ob.r,aR] at HRC;have hn1:=ob.n;have hn2:=ob.tr;have HTK:=hide hTK;clear hTK ob hva;generalize jU (jU s9 si ⟨aS (aT k t),s8.now,[],[]⟩ (rcvT (aT k t)).2.1 (rcvT (aT k t)).2.2) si ⟨aS (aT k t),s8.now,(rcvT (aT k t)).2.1,(rcvT (aT k t)).2.2⟩ (ackT (aT k t)).2.1 (ackT (aT k t)).2.2=s11 at *;generalize jU s9 si ⟨aS (aT k t),s8.now,[],[]⟩ (rcvT (aT k t)).2.1 (rcvT (aT k t)).2.2=s10 at *;generalize (rcvT (aT k t)).1=M at *;obtain⟨a1,a2,a3,a4,a5⟩:=M;dsimp only at hn1 hn2;subst hn1;subst hn2;go_wp2_with fail;refine HRC.out.mono ?_;rintro e w10 ⟨rfl,m10,hA10,hw10⟩;have hbM:=below_alloc1 w10 (Obj.cells #[.int .i64 (t:Int),.int .i64 1,.int .i64 a3,.string a4] 99);have hT3:=(HT2.out.step hA10.st).on hbM;have hH3:=(HH2.out.step hA10.st).on hbM;have hR3:=hA10.run.on hbM;have he10:=hA10.eb.trans he9;have ch3:=hH3.c si hslt;have fh3:=hH3.fz si;have y0:(w10.alloc (Obj.cells #[.int .i64 (t:Int),.int .i64 1,.int .i64 a3,.string a4] 99)).cell? ⟨w10.heap.size,0,none⟩=some (.int .i64 (t:Int)):=by rw[aC];rfl
       have y1:(w10.alloc (Obj.cells #[.int .i64 (t:Int),.int .i64 1,.int .i64 a3,.string a4] 99)).cell? ⟨w10.heap.size,1,none⟩=some (.int .i64 1):=by rw[aC];rfl
       have hne:w10.heap.size≠tb+1:=fun e=>by
        have:=(HH2.out.step hA10.st).lt;omega
       have z0:=(World.cell?_setCell_other (w10.alloc (Obj.cells #[.int .i64 (t:Int),.int .i64 1,.int .i64 a3,.string a4] 99)) ⟨tb+1,si,none⟩ ⟨w10.heap.size,0,none⟩ (.int .i64 (t:Int)) (by simp<;>omega)).trans y0;have z1:=(World.cell?_setCell_other (w10.alloc (Obj.cells #[.int .i64 (t:Int),.int .i64 1,.int .i64 a3,.string a4] 99)) ⟨tb+1,si,none⟩ ⟨w10.heap.size,1,none⟩ (.int .i64 (t:Int)) (by simp<;>omega)).trans y1;have hH4:=hH3.set hslt (.int .i64 (t:Int));rw[lA,rX] at hH4;have HH4:=hide hH4;have HT4:=hide (hT3.other (b':=tb+1) (i:=si) (by omega) (.int .i64 (t:Int)));have HK4:=hide (HAK.out _ m10 (hR3.mark hH3.na hH3.lo si (.int .i64 (t:Int))) hw10);clear hA10 HRC hT3 hH3 hR3 hH4 HH2 HT2 HR2 HAK hbM;go_wp2_with fail;refine HK4.out.mono ?_;rintro e w12 ⟨rfl,m12,hA12⟩;have HR12:=hide hA12.run;have he12:=hA12.eb.trans he10;have HT12:=hide (HT4.out.step hA12.st);have HH12:=hide (HH4.out.step hA12.st);clear hA12 HK4 HT4 HH4;go_wp2_with fail;exact⟨⟨j+1,t,m12,s11,putI f si t,by omega,by go_num,HR12.out,he12,HT12.out,HH12.out,HTK.out⟩,by simp[intOf];omega⟩
      ·have et:t=k:=by omega
       subst et;obtain⟨oe1,oe2⟩:=vS hm;rw[oe2] at HRC;have HE12:Hid (errV 12=.iface 114 (.int .i64 12)):=rfl;rw[oe1,HE12.out] at HRC;have HN12:=fun W=>hide (zGI 12 W);rw[HE12.out] at HN12;have hTK:TK (jU s9 si ⟨aS (aT t t),s8.now,[],[]⟩ [] (rcvT (aT t t)).2.2) (putI f si (-1)) t t (j+1):=
        HK.out.begin_other hr9 hc9 (fun j hj=>(hU _ hj).trans (HO9.out j hj)) (zHj _ _ _ _ _) ⟨rfl,.inr ⟨rfl,rfl,rfl⟩⟩
       have HTK:=hide hTK;clear hTK oe1 oe2;generalize jU s9 si ⟨aS (aT t t),s8.now,[],[]⟩ [] (rcvT (aT t t)).2.2=s10 at *;generalize (rcvT (aT t t)).1=M at *;obtain⟨a1,a2,a3,a4,a5⟩:=M;go_wp2_with fail;refine HRC.out.mono ?_;rintro e w10 ⟨rfl,m10,hA10,hw10⟩;have hbM:=below_alloc1 w10 (Obj.cells #[.int .i64 a1,.int .i64 a2,.int .i64 a3,.string a4] 99);have HT3:=hide ((HT2.out.step hA10.st).on hbM);have HH3:=hide ((HH2.out.step hA10.st).on hbM);have HR3:=hide (hA10.run.on hbM);have he10:=hA10.eb.trans he9;clear hA10 HRC HH2 HT2 HR2 hbM;go_wp2_with fail;refine(HN12 _).out.mono ?_;rintro e w11 ⟨rfl,hw11⟩;rw[hw11];clear hw11;go_wp2_with fail;exact⟨⟨j+1,t,m10,s10,putI f si (-1),by omega,by go_num,HR3.out,he10,HT3.out,HH3.out,HTK.out⟩,by simp[intOf];omega⟩
     | some v=>
      have HE7:Hid (errV 7=.iface 114 (.int .i64 7)):=rfl;have HBG:=hide (zDY _ HR.out.ek hslt hv);rw[he8,HE7.out] at HBG;have HCM:=hide (gF HR.out hslt (by omega));rw[he8] at HCM;have hcom:=HK.out.com HR.out.fit hm hslt hv;clear hv;generalize comE s8 si=D at *;go_wp2_with fail;refine HBG.out.mono ?_;rintro e w9 ⟨rfl,hw9⟩;rw[hw9];clear hw9 HBG;rcases hcom with⟨e0,hfi,hTK⟩|⟨e0,hfi,htm,hTK⟩|⟨e9,hTK⟩
      ·rw[e0,aR] at HCM;have HTK:=hide hTK;clear hTK;go_wp2_with fail;refine HCM.out.mono ?_;rintro e w9 ⟨rfl,m9,hA9⟩;have HR9:=hide hA9.run;have he9:=hA9.eb.trans he8;have HT9:=hide (HT.out.step hA9.st);have HH9:=hide (HH.out.step hA9.st);have ch:=(HH.out.step hA9.st).c si hslt;rw[hfi] at ch;clear hA9 HCM HT HH HR;go_wp2_with fail;exact⟨⟨j+1,t,m9,D.2,f,by omega,by go_num,HR9.out,he9,HT9.out,HH9.out,HTK.out⟩,by simp[intOf];omega⟩
      ·rw[e0,aR] at HCM;have HTK:=hide hTK;clear hTK;go_wp2_with fail;refine HCM.out.mono ?_;rintro e w9 ⟨rfl,m9,hA9⟩;have HR9:=hide hA9.run;have he9:=hA9.eb.trans he8;have hT9:=HT.out.step hA9.st;have hH9:=HH.out.step hA9.st;have ch:=hH9.c si hslt;rw[hfi] at ch;have ct:=hT9.c t (by omega);rw[decide_eq_false (Nat.lt_irrefl t)] at ct;have ft:=hT9.fz t;have ht0:(0:Int)<=(t:Int):=by omega
       have ht5:(t:Int)<5:=by omega
       have htk:(t:Int)<(k:Int):=by omega
       have hT2:=hT9.set (i:=t) (by omega) (.bool true);rw[show putF (fun i=>Value.bool (decide (i<t))) t (.bool true)=fun i=>.bool (decide (i<t+1)) by
        funext i;unfold putF;by_cases e:i=t
        ·rw[if_pos e,decide_eq_true (by omega)]
        ·rw[if_neg e];show Value.bool (decide (i<t))=_;by_cases e2:i<t
         ·rw[decide_eq_true e2,decide_eq_true (by omega)]
         ·rw[decide_eq_false e2,decide_eq_false (by omega)]] at hT2
       have HT2:=hide hT2;have HH2:=hide (hH9.other (b':=tb) (i:=t) (by omega) (.bool true));have HR2:=hide (HR9.out.mark hT9.na hT9.lo t (.bool true));clear hA9 HCM HT HH HR hT9 hH9 hT2 HR9;go_wp2_with fail;exact⟨⟨j+1,t+1,m9,D.2,f,by omega,by go_num,HR2.out,he9,HT2.out,HH2.out,HTK.out⟩,by simp[intOf];omega⟩
      ·have HE9:Hid (errV 9=.iface 114 (.int .i64 9)):=rfl;rw[e9,HE9.out] at HCM;have HN9:=fun W=>hide (zGI 9 W);rw[HE9.out] at HN9;have HTK:=hide hTK;clear hTK;go_wp2_with fail;refine HCM.out.mono ?_;rintro e w9 ⟨rfl,m9,hA9⟩;have HR9:=hide hA9.run;have he9:=hA9.eb.trans he8;have HT9:=hide (HT.out.step hA9.st);have HH9:=hide (HH.out.step hA9.st);clear hA9 HCM HT HH HR;go_wp2_with fail;refine(HN9 _).out.mono ?_;rintro e w10 ⟨rfl,hw10⟩;rw[hw10];clear hw10;go_wp2_with fail;exact⟨⟨j+1,t,m9,D.2,f,by omega,by go_num,HR9.out,he9,HT9.out,HH9.out,HTK.out⟩,by simp[intOf];omega⟩
    ·have ej:j=l.length:=by omega
     subst ej;have hlt':¬(l.length:Int)<(l.length:Int):=by omega
     have oa:=qI hm HK.out.le;have hcnt:=oa.cnt;have hrlen:=oa.len;have hrow:=HK.out.row;have HRW:=hide (sN HR.out);rw[he8,hrow] at HRW;have HBR:=hide HR.out.bel;clear oa HR HH HK;generalize hW8:wr=W8 at *;clear hW8;go_wp2_with fail
     go_loopw [22,23] (fun lv iv wr=>∃ i:Nat,i<=k/\iv=.int .i64 (i:Int)/\lv=.int .i64 ((k:Int)-(min i t:Nat))/\wr=W8) (fun _ iv _=>k-(intOf iv).toNat)
     case atStart=>exact⟨0,Nat.zero_le _,rfl,by simp,rfl⟩
     case round=>
      obtain⟨i,hi,rfl,rfl,hwr⟩:=hrel;rw[hwr];clear hwr;by_cases hik:i<k
      ·have hik':(i:Int)<(k:Int):=by omega
       have hi0:(0:Int)<=(i:Int):=by omega
       have hi5:(i:Int)<5:=by omega
       have ci:=HT.out.c i (by omega);by_cases hit:i<t
       ·rw[decide_eq_true hit] at ci;have em:(k:Int)-(min i t:Nat)-1=(k:Int)-(min (i+1) t:Nat):=by omega
        have hsm:(k:Int)-(min i t:Nat)<=5/\0<=(k:Int)-(min i t:Nat):=by omega
        generalize hq:(k:Int)-(min i t:Nat)=q at *;go_wp2_with fail;exact⟨⟨i+1,by omega,by go_num,by rw[<-em],by trivial⟩,by simp[intOf];omega⟩
       ·rw[decide_eq_false hit] at ci;have em:(k:Int)-(min i t:Nat)=(k:Int)-(min (i+1) t:Nat):=by omega
        generalize hq:(k:Int)-(min i t:Nat)=q at *;go_wp2_with fail;exact⟨⟨i+1,by omega,by go_num,by rw[<-em],by trivial⟩,by simp[intOf];omega⟩
      ·have ei:i=k:=by omega
       subst ei;have hik':¬(i:Int)<(i:Int):=by omega
       have hmin:((i:Int)-(min i t:Nat))=((i-t:Nat):Int):=by omega
       rw[hmin];go_wp2_with fail;refine HRW.out.mono ?_;rintro e w9 ⟨ra,rc,rfl,hh9,hb9⟩;have HMS:=hide (fE qBt w9 (by decide));have HIN:Hid (∀ W,Below w9.heap.size w9 W->Calls Tryz.prog 43 #[.slice ra (aS (aT i t)).length rc,.agg #[.string (aZ qBt),.string (toB qBt)]] W fun e w'=>∃ ja jc,e=.returned (.slice ja (i-t:Nat) jc)/\Below W.heap.size W w'):=fun W hb=>by
        refine(uP (aS (aT i t)) ra rc (aZ qBt,toB qBt) W (lX hb hh9) (by unfold aS;rw[List.length_map];omega)).mono ?_;rintro e w' ⟨v,rfl,ho,hb'⟩;obtain⟨ja,jc,rfl,_⟩:=lV ho;rw[hcnt];exact⟨ja,jc,rfl,hb'⟩
       have HB9:=hide (aB HBR.out (Nat.le_refl _) hb9);clear hh9 hb9 HRW;go_wp2_with fail;refine HMS.out.mono ?_;rintro e w10 ⟨rfl,hb10⟩;have HI2:=hide (HIN.out w10 hb10);have HB10:=hide (aB HB9.out (Nat.le_refl _) hb10);clear hb10 HMS HIN;go_wp2_with fail;refine HI2.out.mono ?_;rintro e w11 ⟨ja,jc,rfl,hb11⟩;have HB11:=hide (aB HB10.out (Nat.le_refl _) hb11);clear hb11 HI2;go_wp2;go_ret;exact⟨rfl,HB11.out⟩
end
section
open Go.ChangeShapes Go.WideShapes Go.ChangeAt Go.RowKit
theorem Tryz.own:ownKnob Tryz.prog.godebug=none:=by kernel_rfl
theorem Tryz.laidOut:laidOutB Tryz.prog=true:=by kernel_rfl
theorem yO {H:Type} {enc:TypeId×Value->H} {P:Program} (hl:laidOutB P=true) {W W':World} (hb:Below W.heap.size W W'):
  ∀ (ts:List TypeId) (vs:List Value) (ds:List (DataW H)) (ps:List MemPlace),(∀ t∈ts,P.readableRec t=true/\t<P.types.size)->
   DataW.TrodAll enc P W 0 (fun _=>true) true ts vs ds ps->(∀ x∈ps,x.block<W.heap.size)->
   DataW.TrodAll enc P W' 0 (fun b=>decide (b<W.heap.size)) true ts vs ds ps
 | [],vs,ds,ps,_,h,_=>by
  obtain⟨rfl,rfl,rfl⟩:=trodAll_nil h;exact trodAll_mk0
 | t::ts,vs,ds,ps,hr,h,hlt=>by
  obtain⟨v,vs',d,ds',p,q,rfl,rfl,rfl,h0,r0⟩:=trodAll_cons h;exact trodAll_cons_mk (Below.trod hl (hr t (by simp)).1 (hr t (by simp)).2 h0 hb (fun x hx=>hlt x (by simp[hx])))
   (yO hl hb ts vs' ds' q (fun t' ht=>hr t' (by simp[ht])) r0 (fun x hx=>hlt x (by simp[hx])))
theorem zKX {H:Type} {enc:TypeId×Value->H} {P:Program} {f:Func} {s:ChangeSpec} {tb:TypeId} {W W':World} {args:Array Value} {ds gs:List (DataW H)} {before:List MemPlace}
  (hl:laidOutB P=true) (hrt:f.resultTypes=#[tb]) (htb:P.underlying tb=some .bool) (hv:s.vars=[])
  (hrd:∀ t∈f.params.toList,P.readableRec t=true/\t<P.types.size)
  (hW:DataW.Whole enc P f.params.toList s.vars false W args.toList ds gs before) (hs:s.fn H (ds++gs)={ results:=[.lit (.bool true)],args:=ds }) (hb:Below W.heap.size W W'):
  s.post enc P f false true false false W args (.bool true) W':=by
 have hlt:∀ x∈before,x.block<W.heap.size:=fun x hx=>hW.lt x hx;have hW':=hW;obtain⟨p,q,hA,hV,rfl,_,_⟩:=hW;rw[hv] at hV;obtain⟨rfl,rfl⟩:=trodVars_none hV;refine⟨ds,[],p++[],[],p,[],hW',?_,?_,?_,hb.frame _,fun h=>by cases h⟩
 ·rw[hs,hrt];exact trodAll_mk1 (shut_bool htb true)
 ·rw[hs];exact yO hl hb _ _ _ _ hrd hA (fun x hx=>hlt x (by simp[hx]))
 ·rw[hs,hv];rfl
end
section
open Go.ChangeShapes Go.WideShapes Go.ChangeAt Go.RowKit Go.Joins Go.Deep
theorem kZ {H:Type} {enc:TypeId×Value->H} {W:World} {base:Nat} {v:Value} {d:DataW H} {p:List MemPlace}
  (hv:Value.okWide Tryz.prog W .any base 93 v) (h:DataW.Trod enc Tryz.prog W 0 (fun _=>true) true 93 v d p):
  ∃ (ao:Option Addr) (cap:Nat) (l:List Int),v=.slice ao l.length cap/\tG W ao l:=by
 obtain⟨a0,len,cap,rfl⟩:=okWide_slice Tryz.underlying93 hv;obtain⟨fuel,hf⟩:=h;have hf':DataW.trod enc Tryz.prog W 0 (fun _=>true) true fuel 93 [.slice a0 len cap]=some (d,p):=by simpa[Value.cells] using hf
 rcases Go.ChangeShapes.open_ints Tryz.underlying93 Tryz.underlying3 (show Tryz.prog.cellsOf 3=1 by kernel_rfl) hf' with⟨hcs,_⟩|⟨a,len',cap',ss,hcs,_,hl,hm,hz,_,hcell,_⟩
 ·simp at hcs;obtain⟨rfl,rfl,rfl⟩:=hcs;exact⟨none,0,[],rfl,.inl rfl⟩
 ·simp at hcs;obtain⟨rfl,rfl,rfl⟩:=hcs;simp only[if_true] at hz;by_cases h0:len=0
  ·subst h0;exact⟨_,_,[],rfl,.inl rfl⟩
  ·obtain⟨b,off,spot⟩:=a;have hspot:spot=none:=by
    have e0:=hcell 0 (by omega);simpa[Addr.add] using World.cell?_spot e0
   subst hspot;have hlen:(ss.take len).length=len:=by rw[List.length_take];omega
   refine⟨_,cap,ss.take len,by rw[hlen],.inr ⟨b,off,rfl,fun i hi=>?_⟩⟩;have hi':i<len:=by rw[hlen] at hi;exact hi
   have e:=hcell i (by omega);rw[Go.WideShapes.add_plain] at e;rw[e,List.getElem_take];simp[List.getD,List.getElem?_eq_getElem (show i<ss.length by omega)]
end
end Go.Proofs.YtnboipekkahmnaaGreatDoor
