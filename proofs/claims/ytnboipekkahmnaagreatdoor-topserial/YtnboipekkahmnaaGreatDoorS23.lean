import Derived.Test.YtnboipekkahmnaaGreatDoorS22
set_option maxHeartbeats 8000000
set_option maxRecDepth 100000
namespace Go.Proofs.YtnboipekkahmnaaGreatDoor
open Obj renaming cells→o_
open World renaming cell?_of_block→b_,cell?_setCell_other→t_,cell?_setCell_same→u_
open Go.RowKit.Below renaming heap_setCell→h_,refl→r_
open Nat renaming le_refl→n_
open Tryz renaming prog→p_
open Value renaming string→v_,int→i_
open Go.Joins renaming below_alloc1→a_
section
open Go.RowKit Go.Joins Go.Shelf
attribute [local go_sem ↓] Go.wp_at_zero Go.wp_at_succ
theorem zK1:(Tryz.prog.info? 39).map (fun i=>(i.zero,i.size,i.bytes))=some (some (.agg #[.string ⟨#[]⟩,.int .i64 0,.int .i64 0,.int .i64 0,.int .u64 0,.string ⟨#[]⟩,.string ⟨#[]⟩,.slice none 0 0,.slice none 0 0]),9,128):=by kernel_rfl
theorem zG1:(Tryz.prog.info? 73).map (fun i=>(i.zero,i.size,i.bytes))=some (some (.agg #[.int .i64 0,.bool false,.slice none 0 0,.slice none 0 0]),4,64):=by kernel_rfl
theorem EK.act {w w':World} {B:Nat} {m:EMem} {s:ESt} (h:EK w B m s) {i:Nat} {v:VwL} (hv:s.ses i=some v) (hi:i<4) {chs:List Chg} {rds:Rws} (ha:ActQ w w' B (m.W i).1 (inPV m i) v.P (snE B m s v.n) chs rds):ActE w w' B m s (jU s i v chs rds):=by
 obtain⟨S',hq,hst⟩:=ha;obtain⟨y,hy,k1,k2⟩:=h.view hv hi hq.pv hst;refine⟨_,k1,rfl,⟨rfl,fun j _=>?_⟩,k2⟩;show(updW m.W i y j).1=_;by_cases e:j=i
 ·subst e;rw[qH];exact hy
 ·rw[oV _ e]
theorem EK.qv {w:World} {B:Nat} {m:EMem} {s:ESt} (h:EK w B m s) (ok:EOk s) {i:Nat} {v:VwL} (hv:s.ses i=some v) (hc:s.c<=190) (hla:∀ W,Below B w W->Laid W):QV w B (m.W i).1 (inPV m i) v.P (snE B m s v.n) v.chs v.rds:=
 ⟨h.pv ok hv hc,(ok.ses i v hv).oq,hla⟩
theorem zMp {w:World} {B:Nat} {m:EMem} {s:ESt} (x:ActL) (h:EK w B m s) (ok:EOk s) {i:Nat} {v:VwL} (hv:s.ses i=some v) (hi:i<4) (hc:s.c<=190) (hla:∀ W,Below B w W->Laid W) (hl:fT x) (hxs:bY w x.sa x.sps):
  Calls p_ 39 #[.pointer (some ⟨(m.W i).1,0,none⟩),.agg #[v_ x.kind,i_ .i64 x.a,i_ .i64 x.b,i_ .i64 x.c,i_ .u64 x.k,v_ x.s,v_ x.t,Value.slice x.ca x.chs.length x.cc,Value.slice x.sa x.sps.length x.sc]] w fun e w'=>e=.returned (.string (fY v.P v.chs v.rds x).1)/\ActE w w' B m s (actE s i v x):=
 (zJ4 x w (h.qv ok hv hc hla) hl hxs).mono fun _ _ ⟨he,ha⟩=>⟨he,h.act hv hi ha⟩
theorem lU {s:ESt} {i j:Nat} (h:(endE s i).ses j≠none):s.ses j≠none/\j≠i:=by
 have h':setS s.ses i none j≠none:=h;unfold setS at h';split at h'
 ·exact absurd rfl h'
 ·rename_i e;exact⟨h',e⟩
theorem zKn {s:ESt} {i j:Nat} (h:(comE s i).2.ses j≠none):s.ses j≠none:=by
 unfold comE at h;split at h
 ·exact h
 ·split at h
  ·exact(lU h).1
  ·split at h
   ·exact(lU h).1
   ·split at h
    ·exact h
    ·exact(lU h).1
theorem zLg {s:ESt} {i j:Nat} {v:VwL} (hv:s.ses i=some v) (h0:(comE s i).1.2=0) (h:(comE s i).2.ses j≠none):s.ses j≠none/\j≠i:=by
 unfold comE at h h0;rw[hv] at h h0;dsimp only at h h0;split at h
 ·exact lU h
 ·rename_i q1;rw[if_neg q1] at h0;split at h
  ·exact lU h
  ·rename_i q2;rw[if_neg q2] at h0;split at h
   ·rename_i q3;rw[if_pos q3] at h0;exact absurd h0 q3
   ·exact lU h
theorem zFB {s:ESt} {i j:Nat} (h:(dS s i).2.ses j≠none):s.ses j≠none:=by
 unfold dS at h;split at h
 ·exact h
 ·exact(lU h).1
theorem zDw {s:ESt} {i j:Nat} (hj:j≠i) (h:s.ses j≠none):(endE s i).ses j≠none:=by
 show setS s.ses i none j≠none;rw[hU _ hj];exact h
theorem zNI {s:ESt} {i j:Nat} (hj:j≠i) (h:s.ses j≠none):(comE s i).2.ses j≠none:=by
 unfold comE;split
 ·exact h
 ·split
  ·exact zDw hj h
  ·split
   ·exact zDw hj h
   ·split
    ·exact h
    ·exact zDw (s:=addE s _) hj h
theorem zN1 {s:ESt} {i j:Nat} (hj:j≠i) (h:s.ses j≠none):(dS s i).2.ses j≠none:=by
 unfold dS;split
 ·exact h
 ·exact zDw hj h
theorem zNS {f:Nat->Option VwL} {i j:Nat} {v:VwL} (h:f j≠none):setS f i (some v) j≠none:=by
 unfold setS;split
 ·exact nofun
 ·exact h
theorem zKI {s:ESt} {i j:Nat} {v u:VwL} {x:ActL} (hv:s.ses i=some u) (h:(actE s i v x).ses j≠none):s.ses j≠none:=by
 have h':setS s.ses i _ j≠none:=h;unfold setS at h';split at h'
 ·rename_i e;rw[e,hv];exact nofun
 ·exact h'
theorem zKm (l:List ActL) (ao:Option Addr) (cap:Nat) {B:Nat} {m0:EMem} {s0:ESt} (w:World) (h:EK w B m0 s0) (hll:l.length<=100) (hla:∀ W,Below B w W->Laid W)
  (hac:∀ W,(∀ k,k<w.heap.size->¬allF m0 s0.ses k->W.heap[k]?=w.heap[k]?)->iM W ao l/\∀ x∈l,bY W x.sa x.sps)
  (hli:∀ x∈l,fT x) (hQ0:∀ j,m0.Q j->s0.ses j≠none) (hQ:∀ x∈l,¬m0.Q (sesX x)) (hok:∀ k,k<l.length->EOk (hO s0 (l.take k)).e/\(hO s0 (l.take k)).e.c<=150):
  Calls p_ 37 #[.pointer (some ⟨m0.eb,0,none⟩),.slice ao l.length cap] w fun e w'=>∃ ov,e=.returned ov/\∃ pb m cur outs,dP w w' B m0 s0 pb ov (hO s0 l) m cur outs:=by
 have nn:=eG;have ne:=pX;have n1:=bM 114;have n2:=rD 114;have HAC:=hide hac;have HLI:=hide hli;have HQ:=hide hQ;have HQ0:=hide hQ0;have HOK:=hide hok;have HEK:=hide h;have HLA:=hide hla;clear hac hli hok h hla hQ hQ0;go_enter Tryz.func37,Tryz.ntmps37;go_wp2_with fail
 go_loopw [5,7] (fun ov iv wr=>∃ (k:Nat) (m:EMem) (cur:Nat->DVal) (outs:List DVal),k<=l.length/\iv=.int .i64 (k:Int)/\dP w wr B m0 s0 w.heap.size ov (hO s0 (l.take k)) m cur outs) (fun _ iv _=>l.length-(intOf iv).toNat)
 case atStart=>exact⟨0,m0,fun _=>noV,[],Nat.zero_le _,rfl,dP.start HEK.out HQ0.out⟩
 case round=>
  obtain⟨k,m,cur,outs,hk,rfl,hR⟩:=hrel;have HR:=hide hR;clear hR HEK;by_cases hlt:k<l.length
  ·have hlt':(k:Int)<(l.length:Int):=by omega
   have hk0:(0:Int)<=(k:Int):=by omega
   obtain⟨hha,hhs⟩:=HAC.out wr fun j hj hn=>(HR.out.st.far j hj hn).1;rcases hha with e|⟨b,off,e,hc⟩
   ·rw[e] at hlt;simp at hlt
   subst e;have hx:=hc k hlt;have HHS:Hid (∀ W,(∀ j,j<w.heap.size->¬allF m0 s0.ses j->W.heap[j]?=w.heap[j]?)->bY W l[k].sa l[k].sps):=fun W hW=>(HAC.out W hW).2 _ (List.getElem_mem hlt);have HLX:=hide (HLI.out _ (List.getElem_mem hlt));have HQX:Hid (∀ j,m0.Q j->j≠sesX l[k]):=fun j hj e=>HQ.out _ (List.getElem_mem hlt) (e▸hj);obtain⟨ok,hcc⟩:=HOK.out k hlt;have HOKK:=hide ok;have HPT:=hide (zGw (s:=s0) hlt);have hln:vK (hO s0 (l.take k)) 100:=by
    have:=zI2 s0 (l.take k);have h2:(l.take k).length<=100:=by rw[List.length_take];omega
    exact⟨Nat.le_trans this.1 h2,fun i=>⟨Nat.le_trans (this.2 i).1 h2,Nat.le_trans (this.2 i).2 h2⟩⟩
   have HLN:=hide hln;clear hc hhs ok hln;generalize l[k]=x at *;generalize hO s0 (l.take k)=p at *;have x0:=hx.kind;have x1:=hx.a;have x2:=hx.b;have x3:=hx.c;have x4:=hx.k;have x5:=hx.s;have x6:=hx.t;have x7:=hx.cl;have x8:=hx.sl;clear hx;have hse:=zL3 x;have hslt:=zFf x;have hs0:(0:Int)<=(sesX x:Int):=by omega
   have hs4:(sesX x:Int)<4:=by omega
   have hbX:=a_ wr (o_ #[.string x.kind,.int .i64 x.a,.int .i64 x.b,.int .i64 x.c,.int .u64 x.k,.string x.s,.string x.t,.slice x.ca x.chs.length x.cc,.slice x.sa x.sps.length x.sc] 39);have HRX:=hide (HR.out.on hbX);have hwx:wr.heap.size<(wr.alloc (o_ #[.string x.kind,.int .i64 x.a,.int .i64 x.b,.int .i64 x.c,.int .u64 x.k,.string x.s,.string x.t,.slice x.ca x.chs.length x.cc,.slice x.sa x.sps.length x.sc] 39)).heap.size:=by simp
   have HNB:Hid (∀ a,¬dH (allF m p.e.ses) w.heap.size (fun i=>p.e.ses i≠none) cur u5 a wr.heap.size):=fun a ha=>by have:=HR.out.pm.lt ha;omega
   have HWL:=hide HR.out.pm.wlo;have y0:(wr.alloc (o_ #[.string x.kind,.int .i64 x.a,.int .i64 x.b,.int .i64 x.c,.int .u64 x.k,.string x.s,.string x.t,.slice x.ca x.chs.length x.cc,.slice x.sa x.sps.length x.sc] 39)).cell? ⟨wr.heap.size,0,none⟩=some (.string x.kind):=aC _ _ _ 0;have y1:(wr.alloc (o_ #[.string x.kind,.int .i64 x.a,.int .i64 x.b,.int .i64 x.c,.int .u64 x.k,.string x.s,.string x.t,.slice x.ca x.chs.length x.cc,.slice x.sa x.sps.length x.sc] 39)).cell? ⟨wr.heap.size,1,none⟩=some (.int .i64 x.a):=aC _ _ _ 1;have y2:(wr.alloc (o_ #[.string x.kind,.int .i64 x.a,.int .i64 x.b,.int .i64 x.c,.int .u64 x.k,.string x.s,.string x.t,.slice x.ca x.chs.length x.cc,.slice x.sa x.sps.length x.sc] 39)).cell? ⟨wr.heap.size,2,none⟩=some (.int .i64 x.b):=aC _ _ _ 2;have y3:(wr.alloc (o_ #[.string x.kind,.int .i64 x.a,.int .i64 x.b,.int .i64 x.c,.int .u64 x.k,.string x.s,.string x.t,.slice x.ca x.chs.length x.cc,.slice x.sa x.sps.length x.sc] 39)).cell? ⟨wr.heap.size,3,none⟩=some (.int .i64 x.c):=aC _ _ _ 3;have y4:(wr.alloc (o_ #[.string x.kind,.int .i64 x.a,.int .i64 x.b,.int .i64 x.c,.int .u64 x.k,.string x.s,.string x.t,.slice x.ca x.chs.length x.cc,.slice x.sa x.sps.length x.sc] 39)).cell? ⟨wr.heap.size,4,none⟩=some (.int .u64 x.k):=aC _ _ _ 4;have y5:(wr.alloc (o_ #[.string x.kind,.int .i64 x.a,.int .i64 x.b,.int .i64 x.c,.int .u64 x.k,.string x.s,.string x.t,.slice x.ca x.chs.length x.cc,.slice x.sa x.sps.length x.sc] 39)).cell? ⟨wr.heap.size,5,none⟩=some (.string x.s):=aC _ _ _ 5;have y6:(wr.alloc (o_ #[.string x.kind,.int .i64 x.a,.int .i64 x.b,.int .i64 x.c,.int .u64 x.k,.string x.s,.string x.t,.slice x.ca x.chs.length x.cc,.slice x.sa x.sps.length x.sc] 39)).cell? ⟨wr.heap.size,6,none⟩=some (.string x.t):=aC _ _ _ 6;have y7:(wr.alloc (o_ #[.string x.kind,.int .i64 x.a,.int .i64 x.b,.int .i64 x.c,.int .u64 x.k,.string x.s,.string x.t,.slice x.ca x.chs.length x.cc,.slice x.sa x.sps.length x.sc] 39)).cell? ⟨wr.heap.size,7,none⟩=some (.slice x.ca x.chs.length x.cc):=aC _ _ _ 7;have y8:(wr.alloc (o_ #[.string x.kind,.int .i64 x.a,.int .i64 x.b,.int .i64 x.c,.int .u64 x.k,.string x.s,.string x.t,.slice x.ca x.chs.length x.cc,.slice x.sa x.sps.length x.sc] 39)).cell? ⟨wr.heap.size,8,none⟩=some (.slice x.sa x.sps.length x.sc):=aC _ _ _ 8;clear hbX HR;cases kb:(x.kind.toList==[98,101,103,105,110])
   case true=>
    cases hv:p.e.ses (sesX x) with
    | none=>
     have HBG:=hide (wB _ HRX.out.ek hslt hv);rw[HRX.out.eb] at HBG;have HPL:=hide (zAA kb hv);go_wp2_with fail;generalize wr.alloc (o_ #[.string x.kind,.int .i64 x.a,.int .i64 x.b,.int .i64 x.c,.int .u64 x.k,.string x.s,.string x.t,.slice x.ca x.chs.length x.cc,.slice x.sa x.sps.length x.sc] 39)=wx at *;refine HBG.out.mono ?_;rintro e w1 ⟨rfl,ha⟩;obtain⟨m',hA⟩:=HRX.out.after ha fun j _ h=>zNS h;obtain⟨z0,z1,z2,z3⟩:=hA.pm.cells _ hslt;have zf:=hA.pm.soft;have HRN:=hide (hA.begun hslt);clear ha hA HBG;go_wp2_with fail;exact⟨⟨k+1,_,_,_,by omega,by go_num,by rw[HPT.out,HPL.out];exact HRN.out⟩,by simp[intOf];omega⟩
    | some v=>
     have HBG:=hide (zDY _ HRX.out.ek hslt hv);rw[HRX.out.eb] at HBG;have HE7:Hid (errV 7=.iface 114 (.int .i64 7)):=rfl;rw[HE7.out] at HBG;have HPL:=hide (zAq kb hv);go_wp2_with fail;generalize wr.alloc (o_ #[.string x.kind,.int .i64 x.a,.int .i64 x.b,.int .i64 x.c,.int .u64 x.k,.string x.s,.string x.t,.slice x.ca x.chs.length x.cc,.slice x.sa x.sps.length x.sc] 39)=wx at *;refine HBG.out.mono ?_;rintro e w1 ⟨rfl,rfl⟩;go_wp2_with fail;exact⟨⟨k+1,_,_,_,by omega,by go_num,by rw[HPT.out,HPL.out];exact HRX.out⟩,by simp[intOf];omega⟩
   case false=>
    cases kc:(x.kind.toList==[99,111,109,109,105,116])
    case true=>
     cases hv:p.e.ses (sesX x) with
     | none=>
      have HDE:=hide (pC _ HRX.out.ek hslt hv);rw[HRX.out.eb] at HDE;have HE7:Hid (errV 7=.iface 114 (.int .i64 7)):=rfl;rw[HE7.out] at HDE;have HPL:=hide (zR kb kc hv);go_wp2_with fail;generalize wr.alloc (o_ #[.string x.kind,.int .i64 x.a,.int .i64 x.b,.int .i64 x.c,.int .u64 x.k,.string x.s,.string x.t,.slice x.ca x.chs.length x.cc,.slice x.sa x.sps.length x.sc] 39)=wx at *;refine HDE.out.mono ?_;rintro e w1 ⟨rfl,rfl⟩;go_wp2_with fail;exact⟨⟨k+1,_,_,_,by omega,by go_num,by rw[HPT.out,HPL.out];exact HRX.out⟩,by simp[intOf];omega⟩
     | some v=>
      have HDE:=hide (mT _ HRX.out.ek hslt hv);have hvo:=HOKK.out.ses _ v hv;have HCH:=hide (rF _ (HRX.out.ek.vw _ v hv) (by have:=hvo.ov.cn;omega));have HCM:Hid (∀ W,Below (wr.alloc (o_ #[.string x.kind,.int .i64 x.a,.int .i64 x.b,.int .i64 x.c,.int .u64 x.k,.string x.s,.string x.t,.slice x.ca x.chs.length x.cc,.slice x.sa x.sps.length x.sc] 39)).heap.size (wr.alloc (o_ #[.string x.kind,.int .i64 x.a,.int .i64 x.b,.int .i64 x.c,.int .u64 x.k,.string x.s,.string x.t,.slice x.ca x.chs.length x.cc,.slice x.sa x.sps.length x.sc] 39)) W->Calls p_ 20 #[.pointer (some ⟨m.eb,0,none⟩),.int .i64 (sesX x:Int)] W fun e w'=>e=.returned (.tuple #[.int .i64 ((comE p.e (sesX x)).1.1:Int),errV (comE p.e (sesX x)).1.2])/\ActE (wr.alloc (o_ #[.string x.kind,.int .i64 x.a,.int .i64 x.b,.int .i64 x.c,.int .u64 x.k,.string x.s,.string x.t,.slice x.ca x.chs.length x.cc,.slice x.sa x.sps.length x.sc] 39)) w' B m p.e (comE p.e (sesX x)).2):=fun W hb=>by
       refine(vX W (HRX.out.ek.on hb) HOKK.out hslt hcc).mono ?_;rintro e w' ⟨rfl,m',q1,q2,q3,q4⟩;exact⟨rfl,m',q1,q2,q3,(aG.on HRX.out.ek.blo hb).trans q4⟩
      rw[HRX.out.eb] at HDE HCM;have hcl:v.chs.length<=100:=by have:=hvo.ov.cn;omega
      by_cases h0:(comE p.e (sesX x)).1.2=0
      ·have HPL:=hide (zCe kb kc hv h0);have HLV:Hid (∀ j,(comE p.e (sesX x)).2.ses j≠none->p.e.ses j≠none/\j≠sesX x):=fun j=>zLg hv h0;rw[h0,aR] at HCM;obtain⟨i0,hi0,hz0,hz1,hz2⟩:=info_parts zG1;have hrd:((v.chs.length:Int)==0)=v.chs.isEmpty:=by
        cases v.chs with
        | nil=>rfl
        | cons c l=>simp;omega
       generalize v.chs.isEmpty=rd at *;have HKQ:Hid (∀ j,m0.Q j->p.e.ses j≠none->(comE p.e (sesX x)).2.ses j≠none):=fun j hj h=>zNI (HQX.out j hj) h;generalize (comE p.e (sesX x))=C at *;go_wp2_with fail;generalize wr.alloc (o_ #[.string x.kind,.int .i64 x.a,.int .i64 x.b,.int .i64 x.c,.int .u64 x.k,.string x.s,.string x.t,.slice x.ca x.chs.length x.cc,.slice x.sa x.sps.length x.sc] 39)=wx at *;refine HDE.out.mono ?_;rintro e w1 ⟨rfl,hw1⟩;rw[hw1];clear hw1 HDE;go_wp2_with fail;refine HCH.out.mono ?_;rintro e w2 ⟨cv,rfl,hoc,hb2⟩;obtain⟨ca,cc,rfl,_,_⟩:=pI hoc;have HC2:=hide (HCM.out w2 hb2);clear hoc hb2 HCH HCM;go_wp2_with fail;refine HC2.out.mono ?_;rintro e w3 ⟨rfl,ha⟩;obtain⟨m',hA⟩:=HRX.out.after ha HKQ.out;obtain⟨z0,z1,z2,z3⟩:=hA.pm.cells _ hslt;have zf:=hA.pm.soft;have HA:=hide hA;have hol:outs.length<=100:=by
        have:=congrArg List.length HRX.out.od;rw[List.length_map] at this;have:=HLN.out.1;omega
       have hLi:p.e.ses (sesX x)≠none:=by rw[hv];exact nofun
       have HT:Hid (∀ g gc w5,jI (((w3.setCell ⟨w.heap.size,sesX x*4,none⟩ (.int .i64 (C.1.1:Int))).setCell ⟨w.heap.size,sesX x*4+1,none⟩ (.bool rd)).alloc (.cells #[.int .i64 (C.1.1:Int),.bool rd,(cur (sesX x)).av,(cur (sesX x)).sv] 73)) w5 u5 g->w5.ownsRow w.heap.size 73 4 (.slice (some ⟨g,0,none⟩) (outs.length+1) gc) (outs.length+1) (outs.flatMap oF++[.int .i64 (C.1.1:Int),.bool rd,(cur (sesX x)).av,(cur (sesX x)).sv])->dP w w5 B m0 s0 w.heap.size (.slice (some ⟨g,0,none⟩) (outs.length+1) gc) (plyP p x) m' (setV cur (sesX x) ⟨{ (cur (sesX x)).d with at_:=C.1.1,reads:=rd },(cur (sesX x)).av,(cur (sesX x)).sv⟩) (outs++[⟨{ (cur (sesX x)).d with at_:=C.1.1,reads:=rd },(cur (sesX x)).av,(cur (sesX x)).sv⟩])):=fun g gc w5 hg ho=>by
        rw[HPL.out];exact hA.told hslt hLi HLV.out hg ho
       have hone:∀ u∈[i_ .i64 (C.1.1:Int),Value.bool rd,(cur (sesX x)).av,(cur (sesX x)).sv],u.oneCell'=true:=by
        obtain⟨r1,r2⟩:=hA.pm.rows _ hslt hLi;obtain⟨a1,c1,e1⟩:=iQ r1;obtain⟨a2,c2,e2⟩:=iQ r2;intro u hu;simp only[List.mem_cons,List.not_mem_nil,or_false] at hu;rcases hu with rfl|rfl|rfl|rfl
        ·rfl
        ·rfl
        ·rw[e1];rfl
        ·rw[e2];rfl
       have HONE:=hide hone;have q0:((w3.setCell ⟨w.heap.size,sesX x*4,none⟩ (.int .i64 (C.1.1:Int))).setCell ⟨w.heap.size,sesX x*4+1,none⟩ (.bool rd)).cell? ⟨w.heap.size,sesX x*4,none⟩=some (.int .i64 (C.1.1:Int)):=(t_ _ _ _ _ (by simp)).trans (u_ _ _ _ z0);have q1:((w3.setCell ⟨w.heap.size,sesX x*4,none⟩ (.int .i64 (C.1.1:Int))).setCell ⟨w.heap.size,sesX x*4+1,none⟩ (.bool rd)).cell? ⟨w.heap.size,sesX x*4+1,none⟩=some (.bool rd):=u_ _ _ _ ((t_ _ _ _ _ (by simp)).trans z1);have q2:((w3.setCell ⟨w.heap.size,sesX x*4,none⟩ (.int .i64 (C.1.1:Int))).setCell ⟨w.heap.size,sesX x*4+1,none⟩ (.bool rd)).cell? ⟨w.heap.size,sesX x*4+2,none⟩=some (cur (sesX x)).av:=(t_ _ _ _ _ (by simp)).trans ((t_ _ _ _ _ (by simp)).trans z2);have q3:((w3.setCell ⟨w.heap.size,sesX x*4,none⟩ (.int .i64 (C.1.1:Int))).setCell ⟨w.heap.size,sesX x*4+1,none⟩ (.bool rd)).cell? ⟨w.heap.size,sesX x*4+3,none⟩=some (cur (sesX x)).sv:=(t_ _ _ _ _ (by simp)).trans ((t_ _ _ _ _ (by simp)).trans z3);have hO5:((w3.setCell ⟨w.heap.size,sesX x*4,none⟩ (.int .i64 (C.1.1:Int))).setCell ⟨w.heap.size,sesX x*4+1,none⟩ (.bool rd)).ownsRow w.heap.size 73 4 u5 outs.length (outs.flatMap oF):=aI hA.pm.out fun j e=>by
        have hj:j≠w.heap.size:=fun e2=>by have:=hA.pm.ap 2 1 j e e2;omega
        exact(h_ _ _ _ _ hj).trans (h_ _ _ _ _ hj)
       have hbs:w.heap.size<=((w3.setCell ⟨w.heap.size,sesX x*4,none⟩ (.int .i64 (C.1.1:Int))).setCell ⟨w.heap.size,sesX x*4+1,none⟩ (.bool rd)).heap.size:=by have:=hA.pm.wlo;simp;omega
       have HO5:=hide hO5;clear ha hA HC2 hone hO5
       go_upto_region 24 with(fail)
       clear z0 z1 z2 z3 zf;generalize ((w3.setCell ⟨w.heap.size,sesX x*4,none⟩ (.int .i64 (C.1.1:Int))).setCell ⟨w.heap.size,sesX x*4+1,none⟩ (.bool rd))=X at *;have HNW:Hid (∀ j u,[i_ .i64 (C.1.1:Int),Value.bool rd,(cur (sesX x)).av,(cur (sesX x)).sv][j]?=some u->(X.alloc (o_ #[.int .i64 (C.1.1:Int),.bool rd,(cur (sesX x)).av,(cur (sesX x)).sv] 73)).cell? ((⟨X.heap.size,0,none⟩:Addr).add j)=some u):=World.news_of_block (cs:=#[i_ .i64 (C.1.1:Int),Value.bool rd,(cur (sesX x)).av,(cur (sesX x)).sv]) (t:=73) (fr:=(0,0)) (heap_alloc_new X _);generalize (cur (sesX x)).av=av at *;generalize (cur (sesX x)).sv=sv at *;go_wp2_with (at_builtin;refine wpList_append_lies _ rfl _ _ _ rfl w.heap.size 73 i0 _ 4 64 Tryz.underlying69 hi0 hz0 hz1 hz2 rfl (by omega) u5 outs.length (outs.flatMap oF) rfl (HO5.out.alloc _) ⟨X.heap.size,0,none⟩ 1 1 [i_ .i64 (C.1.1:Int),Value.bool rd,av,sv] rfl rfl HNW.out HONE.out (by omega) (by unfold maxLen;omega) (by omega) (by simp;omega) _ rfl ?_;intro g gc w5 ho5 hg5 hat5 hlt5)
       have HRN:=hide (HT.out g gc w5 ⟨hg5,hat5⟩ ho5);clear ho5 hg5 hat5 hlt5 HT;go_wp2_with fail;exact⟨⟨k+1,_,_,_,by omega,by go_num,by rw[HPT.out];exact HRN.out⟩,by simp[intOf];omega⟩
      ·have HPL:=hide (zAG kb kc hv h0);rw[aP h0] at HCM;have HLV:Hid (∀ j,(comE p.e (sesX x)).2.ses j≠none->p.e.ses j≠none):=fun j=>zKn;have HKQ:Hid (∀ j,m0.Q j->p.e.ses j≠none->(comE p.e (sesX x)).2.ses j≠none):=fun j hj h=>zNI (HQX.out j hj) h;generalize (comE p.e (sesX x))=C at *;go_wp2_with fail;generalize wr.alloc (o_ #[.string x.kind,.int .i64 x.a,.int .i64 x.b,.int .i64 x.c,.int .u64 x.k,.string x.s,.string x.t,.slice x.ca x.chs.length x.cc,.slice x.sa x.sps.length x.sc] 39)=wx at *;refine HDE.out.mono ?_;rintro e w1 ⟨rfl,hw1⟩;rw[hw1];clear hw1 HDE;go_wp2_with fail;refine HCH.out.mono ?_;rintro e w2 ⟨cv,rfl,hoc,hb2⟩;obtain⟨ca,cc,rfl,_,_⟩:=pI hoc;have HC2:=hide (HCM.out w2 hb2);clear hoc hb2 HCH HCM;go_wp2_with fail;refine HC2.out.mono ?_;rintro e w3 ⟨rfl,ha⟩;obtain⟨m',hA,_⟩:=HRX.out.eng ha HLV.out HKQ.out;have HRN:=hide hA;clear ha hA HC2;go_wp2_with fail;exact⟨⟨k+1,_,_,_,by omega,by go_num,by rw[HPT.out,HPL.out];exact HRN.out⟩,by simp[intOf];omega⟩
    case false=>
     cases ka:(x.kind.toList==[97,98,111,114,116])
     case true=>
      have HAB:=hide (yZ _ HRX.out.ek HOKK.out hslt hcc);rw[HRX.out.eb] at HAB;have HPL:=hide (zHL (p:=p) kb kc ka);go_wp2_with fail;generalize wr.alloc (o_ #[.string x.kind,.int .i64 x.a,.int .i64 x.b,.int .i64 x.c,.int .u64 x.k,.string x.s,.string x.t,.slice x.ca x.chs.length x.cc,.slice x.sa x.sps.length x.sc] 39)=wx at *;refine HAB.out.mono ?_;rintro e w3 ⟨rfl,ha⟩;obtain⟨m',hA,_⟩:=HRX.out.eng ha (fun j=>zFB) fun j hj h=>zN1 (HQX.out j hj) h;have HRN:=hide hA;clear ha hA HAB;generalize errV (dS p.e (sesX x)).1=ev at *;go_wp2_with fail;exact⟨⟨k+1,_,_,_,by omega,by go_num,by rw[HPT.out,HPL.out];exact HRN.out⟩,by simp[intOf];omega⟩
     case false=>
      cases kv:(x.kind.toList==[118,97,99,117,117,109])
      case true=>
       have HAB:=hide (zC2 _ HRX.out.ek HOKK.out hcc);rw[HRX.out.eb] at HAB;have HPL:=hide (zGd (p:=p) kb kc ka kv);go_wp2_with fail;generalize wr.alloc (o_ #[.string x.kind,.int .i64 x.a,.int .i64 x.b,.int .i64 x.c,.int .u64 x.k,.string x.s,.string x.t,.slice x.ca x.chs.length x.cc,.slice x.sa x.sps.length x.sc] 39)=wx at *;refine HAB.out.mono ?_;rintro e w3 ⟨rfl,ha⟩;obtain⟨m',hA,_⟩:=HRX.out.eng ha (fun j hj=>hj) fun j _ h=>h;have HRN:=hide hA;clear ha hA HAB;go_wp2_with fail;exact⟨⟨k+1,_,_,_,by omega,by go_num,by rw[HPT.out,HPL.out];exact HRN.out⟩,by simp[intOf];omega⟩
      case false=>
       cases ks:(x.kind.toList==[115,97,118,101])
       case true=>
        have HAB:=hide (zKv _ HRX.out.ek HOKK.out);rw[HRX.out.eb] at HAB;have HPL:=hide (zKq (p:=p) kb kc ka kv ks);generalize errV (chkR p.e.x).1=ev at *;go_wp2_with fail;generalize wr.alloc (o_ #[.string x.kind,.int .i64 x.a,.int .i64 x.b,.int .i64 x.c,.int .u64 x.k,.string x.s,.string x.t,.slice x.ca x.chs.length x.cc,.slice x.sa x.sps.length x.sc] 39)=wx at *;refine HAB.out.mono ?_;rintro e w3 ⟨rfl,ha⟩;obtain⟨m',hA,_⟩:=HRX.out.eng ha (fun j hj=>hj) fun j _ h=>h;have HRN:=hide hA;clear ha hA HAB;go_wp2_with fail;exact⟨⟨k+1,_,_,_,by omega,by go_num,by rw[HPT.out,HPL.out];exact HRN.out⟩,by simp[intOf];omega⟩
       case false=>
        cases hv:p.e.ses (sesX x) with
        | none=>
         have HDE:=hide (pC _ HRX.out.ek hslt hv);rw[HRX.out.eb] at HDE;have HE7:Hid (errV 7=.iface 114 (.int .i64 7)):=rfl;rw[HE7.out] at HDE;have HPL:=hide (zB7 kb kc ka kv ks hv);go_wp2_with fail;generalize wr.alloc (o_ #[.string x.kind,.int .i64 x.a,.int .i64 x.b,.int .i64 x.c,.int .u64 x.k,.string x.s,.string x.t,.slice x.ca x.chs.length x.cc,.slice x.sa x.sps.length x.sc] 39)=wx at *;refine HDE.out.mono ?_;rintro e w1 ⟨rfl,rfl⟩;go_wp2_with fail;exact⟨⟨k+1,_,_,_,by omega,by go_num,by rw[HPT.out,HPL.out];exact HRX.out⟩,by simp[intOf];omega⟩
        | some v=>
         have HDE:=hide (mT _ HRX.out.ek hslt hv);rw[HRX.out.eb] at HDE;have HPL:=hide (zB8 kb kc ka kv ks hv);go_wp2_with fail;generalize wr.alloc (o_ #[.string x.kind,.int .i64 x.a,.int .i64 x.b,.int .i64 x.c,.int .u64 x.k,.string x.s,.string x.t,.slice x.ca x.chs.length x.cc,.slice x.sa x.sps.length x.sc] 39)=wx at *;refine HDE.out.mono ?_;rintro e w1 ⟨rfl,rfl⟩;have hLi:p.e.ses (sesX x)≠none:=by rw[hv];exact nofun
         obtain⟨z0,z1,z2,z3⟩:=HRX.out.pm.cells _ hslt;have zf:=HRX.out.pm.soft;have hpb:=HRX.out.pm.pblt;have hwl:=HRX.out.pm.wlo;have HOA:=hide (HRX.out.pm.rows _ hslt hLi).1;have hal:(cur (sesX x)).d.acts.length<=100:=by rw[HRX.out.cd _ hslt];exact(HLN.out.2 _).1
         have hsl:(cur (sesX x)).d.said.length<=100:=by rw[HRX.out.cd _ hslt];exact(HLN.out.2 _).2
         have hbA:=(a_ w1 (o_ #[.string x.kind,.int .i64 x.a,.int .i64 x.b,.int .i64 x.c,.int .u64 x.k,.string x.s,.string x.t,.slice x.ca x.chs.length x.cc,.slice x.sa x.sps.length x.sc] 39)).drew;have av1:some w.heap.size≠(cur (sesX x)).av.ownBlock:=fun e=>by have:=HRX.out.pm.ap 1 (2*sesX x+3) w.heap.size rfl (fP hslt hLi e.symm);omega
         have av2:some wr.heap.size≠(cur (sesX x)).av.ownBlock:=fun e=>HNB.out (2*sesX x+3) (fP hslt hLi e.symm);have nbp:wr.heap.size≠w.heap.size:=fun e=>HNB.out 1 e;have HA1:Hid (∀ g gc w5,jI (w1.alloc (o_ #[.string x.kind,.int .i64 x.a,.int .i64 x.b,.int .i64 x.c,.int .u64 x.k,.string x.s,.string x.t,.slice x.ca x.chs.length x.cc,.slice x.sa x.sps.length x.sc] 39)).drew w5 (cur (sesX x)).av g->w5.ownsRow w.heap.size 39 9 (.slice (some ⟨g,0,none⟩) ((cur (sesX x)).d.acts.length+1) gc) ((cur (sesX x)).d.acts.length+1) ((cur (sesX x)).d.acts.flatMap lO++lO x)->dP w (w5.setCell ⟨w.heap.size,sesX x*4+2,none⟩ (.slice (some ⟨g,0,none⟩) ((cur (sesX x)).d.acts.length+1) gc)) B m0 s0 w.heap.size u5 ⟨p.e,setP p.cur (sesX x) { p.cur (sesX x) with acts:=(p.cur (sesX x)).acts++[x] },p.out⟩ m (setV cur (sesX x) ⟨{ (cur (sesX x)).d with acts:=(cur (sesX x)).d.acts++[x] },.slice (some ⟨g,0,none⟩) ((cur (sesX x)).d.acts.length+1) gc,(cur (sesX x)).sv⟩) outs/\(w5.setCell ⟨w.heap.size,sesX x*4+2,none⟩ (.slice (some ⟨g,0,none⟩) ((cur (sesX x)).d.acts.length+1) gc)).heap[wr.heap.size]?=w1.heap[wr.heap.size]?):=fun g gc w5 hg ho=>by
          refine⟨HRX.out.acts hslt hLi hbA hg ho,?_⟩;exact((h_ _ _ _ _ nbp).trans (hg.far (Nat.lt_of_lt_of_le hwx hbA.size) fun e=>av2 e.symm).1).trans (hbA.block _ hwx)
         have HNW:Hid (∀ j u,(lO x)[j]?=some u->(w1.alloc (o_ #[.string x.kind,.int .i64 x.a,.int .i64 x.b,.int .i64 x.c,.int .u64 x.k,.string x.s,.string x.t,.slice x.ca x.chs.length x.cc,.slice x.sa x.sps.length x.sc] 39)).drew.cell? ((⟨w1.heap.size,0,none⟩:Addr).add j)=some u):=World.news_of_block (cs:=#[v_ x.kind,i_ .i64 x.a,i_ .i64 x.b,i_ .i64 x.c,i_ .u64 x.k,v_ x.s,v_ x.t,Value.slice x.ca x.chs.length x.cc,Value.slice x.sa x.sps.length x.sc]) (t:=39) (fr:=(0,0)) (heap_alloc_new w1 _);obtain⟨i0,hi0,hz0,hz1,hz2⟩:=info_parts zK1;have hfr:∀ o,(w1.alloc o).frozen? ⟨w.heap.size,sesX x*4+2,none⟩=false:=fun o=>aE (a_ _ _) hpb (zf _);have hsv:(cur (sesX x)).sv=(cur (sesX x)).sv:=rfl;clear hsv HDE;generalize hav:(cur (sesX x)).av=av at *;generalize hdd:(cur (sesX x)).d.acts=da at *
         go_upto_region 11 with(fail)
         go_cut [] (fun W=>∃ g gc,dP w W B m0 s0 w.heap.size u5 ⟨p.e,setP p.cur (sesX x) { p.cur (sesX x) with acts:=(p.cur (sesX x)).acts++[x] },p.out⟩ m (setV cur (sesX x) ⟨{ (cur (sesX x)).d with acts:=da++[x] },.slice (some ⟨g,0,none⟩) (da.length+1) gc,(cur (sesX x)).sv⟩) outs/\W.heap[wr.heap.size]?=w1.heap[wr.heap.size]?)
         case first=>
          go_region_law ((refine step_append_lies _ (by rfl) _ _ _ (by rfl) w.heap.size 39 i0 _ 9 128 Tryz.underlying22 hi0 hz0 hz1 hz2 rfl (by omega) av _ _ (by rfl) ((HOA.out.alloc _).drew) ⟨w1.heap.size,0,none⟩ 1 1 (lO x) (by rfl) (by rfl) HNW.out (zHw x) (by omega) (by unfold maxLen;omega) (by omega) (by simp;omega) (w1.heap.size+1) (by simp) ?_;intro g gc w5 ho5 hg5 hat5 hlt5;have k2:w5.cell? ⟨w.heap.size,sesX x*4+2,none⟩=some av:=hg5.cell (aA (a_ _ _).drew z2) av1;have k3:w5.frozen? ⟨w.heap.size,sesX x*4+2,none⟩=false:=(hg5.frozen_far _ (by simp;omega) av1).trans (hfr _);have HQ1:=hide (HA1.out g gc w5 ⟨hg5,by simpa using hat5⟩ ho5);clear ho5 hg5 hat5 hlt5))
          all_goals (go_wp2_with fail;go_meet;exact⟨g,gc,HQ1.out⟩)
         case rest=>
          obtain⟨g,gc,hR1,hbx⟩:=hcut;have w0c:=(b_ hbx).trans y0;have w1c:=(b_ hbx).trans y1;have w2c:=(b_ hbx).trans y2;have w3c:=(b_ hbx).trans y3;have w4c:=(b_ hbx).trans y4;have w5c:=(b_ hbx).trans y5;have w6c:=(b_ hbx).trans y6;have w7c:=(b_ hbx).trans y7;have w8c:=(b_ hbx).trans y8;obtain⟨_,_,_,z3c⟩:=hR1.pm.cells _ hslt;rw[cJ] at z3c;dsimp only at z3c;have hxs:bY wc.drew x.sa x.sps:=HHS.out _ fun j hj hn=>((r_ _ wc).drew.block j (Nat.lt_of_lt_of_le hj hR1.pm.wlo)).trans (hR1.st.far j hj hn).1;have hla2:∀ W,Below B wc.drew W->Laid W:=fun W hW=>HLA.out W ((hR1.st.bel.trans ((r_ B wc).drew)).trans hW);have htd:=zMp x (hR1.ek.on (r_ _ wc).drew) HOKK.out hv hslt (by show p.e.c<=190;omega) hla2 HLX.out hxs;have HTD:Hid (Calls p_ 39 #[.pointer (some ⟨(m.W (sesX x)).1,0,none⟩),.agg #[v_ x.kind,i_ .i64 x.a,i_ .i64 x.b,i_ .i64 x.c,i_ .u64 x.k,v_ x.s,v_ x.t,Value.slice x.ca x.chs.length x.cc,Value.slice x.sa x.sps.length x.sc]] wc.drew fun e w'=>e=.returned (.string (fY v.P v.chs v.rds x).1)/\ActE wc w' B m p.e (actE p.e (sesX x) v x)):=by
           refine htd.mono ?_;rintro e w' ⟨he,m',q1,q2,q3,q4⟩;exact⟨he,m',q1,q2,q3,(aG.on hR1.ek.blo (r_ _ wc).drew).trans q4⟩
          have HA2:Hid (∀ w6,ActE wc w6 B m p.e (actE p.e (sesX x) v x)->w6.cell? ⟨w.heap.size,sesX x*4+3,none⟩=some (cur (sesX x)).sv/\(∀ j,w6.frozen? ⟨w.heap.size,j,none⟩=false)/\w.heap.size<w6.heap.size/\zHb w6 w.heap.size (cur (sesX x)).sv (cur (sesX x)).d.said/\some w.heap.size≠(cur (sesX x)).sv.ownBlock/\∀ g gc w7,jI (w6.alloc (.cells #[.string (fY v.P v.chs v.rds x).1] 9)) w7 (cur (sesX x)).sv g->w7.ownsRow w.heap.size 9 1 (.slice (some ⟨g,0,none⟩) ((cur (sesX x)).d.said.length+1) gc) ((cur (sesX x)).d.said.length+1) ((cur (sesX x)).d.said.map v_++[.string (fY v.P v.chs v.rds x).1])->∃ m' cur',dP w (w7.setCell ⟨w.heap.size,sesX x*4+3,none⟩ (.slice (some ⟨g,0,none⟩) ((cur (sesX x)).d.said.length+1) gc)) B m0 s0 w.heap.size u5 (plyP p x) m' cur' outs):=fun w6 ha=>by
           obtain⟨m',hA⟩:=hR1.after ha fun j _ h=>zNS h;obtain⟨_,_,_,c3⟩:=hA.pm.cells _ hslt;have hr:=(hA.pm.rows _ hslt hLi).2;have hap:some w.heap.size≠(cur (sesX x)).sv.ownBlock:=fun e=>by
            have:=hA.pm.ap 1 (2*sesX x+1+3) w.heap.size rfl (gH hslt hLi (by rw[cJ];exact e.symm));omega
           rw[cJ] at c3 hr;refine⟨c3,hA.pm.soft,hA.pm.pblt,hr,hap,fun g2 gc2 w7 hg7 ho7=>?_⟩;have hs:=hA.said (w2:=w7) (W:=w6.alloc (.cells #[.string (fY v.P v.chs v.rds x).1] 9)) (g:=g2) (t:=(fY v.P v.chs v.rds x).1) (cap:=gc2) hslt hLi (fun j=>zKI hv) (a_ w6 _) (by rw[cJ];exact hg7) (by rw[cJ];exact ho7);rw[cJ] at hs;have e2:plyP p x=⟨actE p.e (sesX x) v x,setP (setP p.cur (sesX x) { p.cur (sesX x) with acts:=(p.cur (sesX x)).acts++[x] }) (sesX x) { setP p.cur (sesX x) { p.cur (sesX x) with acts:=(p.cur (sesX x)).acts++[x] } (sesX x) with said:=(setP p.cur (sesX x) { p.cur (sesX x) with acts:=(p.cur (sesX x)).acts++[x] } (sesX x)).said++[(fY v.P v.chs v.rds x).1] },p.out⟩:=by
            rw[HPL.out,kN];congr 1;funext j;by_cases e:j=sesX x
            ·subst e;rw[kN,kN]
            ·rw[iY _ e,iY _ e,iY _ e]
           rw[e2];exact⟨m',_,hs⟩
          obtain⟨i1,hi1,hy0,hy1,hy2⟩:=info_parts wE;clear hR1 hxs hla2 htd HA1 HRX HOA HNW HHS HNB hbx y0 y1 y2 y3 y4 y5 y6 y7 y8 z0 z1 z2 z3 zf hfr av1 av2 x0 x1 x2 x3 x4 x5 x6 x7 x8 hbA;generalize (fY v.P v.chs v.rds x).1=tx at *;generalize hsv:(cur (sesX x)).sv=sv at *;generalize hsd:(cur (sesX x)).d.said=sd at *;go_wp2_with fail
          go_region_law (first
           | (go_simp;go_at_call 39;refine HTD.out.mono ?_;rintro e w6 ⟨rfl,ha⟩;obtain⟨q3,qf,qp,qo,qs,qR⟩:=HA2.out w6 ha;have HO6:=hide qo;have HQR:=hide qR;clear ha qo qR)
           | (refine step_append_lies _ (by rfl) _ _ _ (by rfl) w.heap.size 9 i1 _ 1 16 Tryz.underlying71 hi1 hy0 hy1 hy2 rfl (by omega) sv _ _ (by rfl) (HO6.out.alloc _) ⟨w6.heap.size,0,none⟩ 1 1 [.string tx] (by rfl) (by rfl) (World.news_of_block (cs:=#[.string tx]) (t:=9) (fr:=(0,0)) (heap_alloc_new w6 _)) (by simp[Value.oneCell']) (by omega) (by unfold maxLen;omega) (by omega) (by simp;omega) (w6.heap.size+1) (by simp) ?_;intro g2 gc2 w7 ho7 hg7 hat7 hlt7;have k2:w7.cell? ⟨w.heap.size,sesX x*4+3,none⟩=some sv:=hg7.cell (aA (a_ _ _) q3) qs;have k3:w7.frozen? ⟨w.heap.size,sesX x*4+3,none⟩=false:=(hg7.frozen_far _ (by simp;omega) qs).trans (aE (a_ _ _) qp (qf _));have HQ2:=hide (HQR.out g2 gc2 w7 ⟨hg7,by simpa using hat7⟩ ho7);clear ho7 hg7 hat7 hlt7))
          all_goals
           obtain⟨m',cur',hRN⟩:=HQ2.out;have HRN:=hide hRN;clear hRN HQ2;go_wp2_with fail;exact⟨⟨k+1,m',cur',outs,by omega,by go_num,by rw[HPT.out];exact HRN.out⟩,by simp[intOf];omega⟩
  ·have ek:k=l.length:=by omega
   subst ek;rw[List.take_length] at HR;have hlt':¬(l.length:Int)<(l.length:Int):=by omega
   go_wp2;go_ret;exact⟨_,rfl,_,_,_,_,HR.out⟩
end
section
open Go.RowKit Go.Joins
structure Ok2 (P:Rws) (chs:List Chg) (rds:Rws):Prop where
 ov:OkV P chs rds
 oq:OkQ P chs
section
variable {P:Rws} {chs:List Chg} {rds:Rws}
theorem Ok2.alter (h:Ok2 P chs rds) (c:Chg):Ok2 P (bG chs c) rds:=⟨xQ h.ov lD,h.oq.alter c⟩
theorem Ok2.reads (h:Ok2 P chs rds) {r:Rws} (hr:r.length<=40):Ok2 P chs r:=⟨{ h.ov with rn:=hr },h.oq⟩
theorem Ok2.read (h:Ok2 P chs rds) (s:ByteArray×ByteArray):Ok2 P chs (gX rds s):=h.reads (pZ h.ov.rn)
theorem Ok2.get (h:Ok2 P chs rds) (key:ByteArray):Ok2 P chs (getL chs rds key):=h.reads (zDB h.ov.rn)
theorem Ok2.scan (h:Ok2 P chs rds) (L:Rws) (s:ByteArray×ByteArray) (m:Int):Ok2 P chs (eP L rds s m):=h.reads (zHk h.ov.rn)
theorem Ok2.find (h:Ok2 P chs rds) (name:ByteArray):Ok2 P chs (bC chs rds name):=by
 unfold bC;split
 ·exact h.get _
 ·exact h
theorem Ok2.first (h:Ok2 P chs rds) (L:Rws) (s:ByteArray×ByteArray):Ok2 P chs (rR L rds s):=h.read _
theorem Ok2.putQ (h:Ok2 P chs rds) (name:ByteArray) (x y:Int) (d:ByteArray):Ok2 P (qL chs name x y d) rds:=by
 unfold qL;split
 ·exact h.alter _
 ·exact h
theorem Ok2.putM (h:Ok2 P chs rds) (name:ByteArray) (k x y:Int) (d:ByteArray):Ok2 P (nA chs name k x y d) rds:=by
 unfold nA;split
 ·exact h.alter _
 ·exact h
theorem Ok2.add (h:Ok2 P chs rds) (name:ByteArray) (x y:Int) (d body:ByteArray) (u:Int):Ok2 P (addQ chs name x y d body u).2.2 rds:=by
 unfold addQ;split
 ·exact h
 ·split
  ·exact(h.putM ..).putQ ..
  ·exact h.putM ..
theorem Ok2.create (h:Ok2 P chs rds) (name:ByteArray) (tries:Int) (dead:ByteArray):Ok2 P (fD P chs rds name tries dead).2.1 (fD P chs rds name tries dead).2.2:=by
 unfold fD;split
 ·split
  ·exact h.find _
  ·split
   ·exact(h.find _).putQ ..
   ·split
    ·exact((h.find _).find _).putQ ..
    ·exact(h.find _).find _
 ·exact h.find _
theorem Ok2.send (h:Ok2 P chs rds) (name body:ByteArray) (u:Int):Ok2 P (fN P chs rds name body u).2.2.1 (fN P chs rds name body u).2.2.2:=by
 unfold fN;split
 ·split
  ·split
   ·exact(h.find _).add ..
   ·exact h.find _
  ·exact h.find _
 ·exact h.find _
theorem Ok2.held (h:Ok2 P chs rds) (name:ByteArray) (n tries:Int):Ok2 P chs (dQ P chs rds name n tries).2:=by
 unfold dQ;split
 ·split
  ·exact h.find _
  ·exact(h.find _).get _
 ·exact h.find _
theorem Ok2.ack (h:Ok2 P chs rds) (name:ByteArray) (n tries:Int):Ok2 P (ackQ P chs rds name n tries).2.1 (ackQ P chs rds name n tries).2.2:=by
 unfold ackQ;split
 ·exact(h.held ..).alter _
 ·exact h.held ..
theorem Ok2.wait (h:Ok2 P chs rds) (name:ByteArray) (n tries u:Int):Ok2 P (iZ P chs rds name n tries u).2.1 (iZ P chs rds name n tries u).2.2:=by
 unfold iZ;split
 ·split
  ·exact(h.held ..).putM ..
  ·exact h.held ..
 ·exact h.held ..
theorem Ok2.bury (h:Ok2 P chs rds) (key dead body:ByteArray):Ok2 P (iH P chs rds key dead body).2.1 (iH P chs rds key dead body).2.2:=by
 unfold iH;split
 ·split
  ·exact h.alter _
  ·split
   ·exact((h.alter _).find _).add ..
   ·exact(h.alter _).find _
 ·exact h.alter _
end
theorem Ok2.take {P:Rws} (name:ByteArray) (tries:Int) (dead:ByteArray) (now u:Int):∀ (k:Nat) (chs:List Chg) (rds:Rws) (at_:ByteArray),Ok2 P chs rds->Ok2 P (eO P name tries dead now u k chs rds at_).2.1 (eO P name tries dead now u k chs rds at_).2.2
 | 0,_,_,_,h=>h
 | k+1,chs,rds,at_,h=>by
  have ih:=Ok2.take (P:=P) name tries dead now u k;unfold eO;dsimp only;split
  ·split
   ·split
    ·exact ih _ _ _ (h.first ..)
    ·split
     ·exact(h.first ..).putM ..
     ·split
      ·exact ih _ _ _ ((h.first ..).bury ..)
      ·exact(h.first ..).bury ..
   ·exact h.first ..
  ·exact h.first ..
section
variable {P:Rws} {chs:List Chg} {rds:Rws}
theorem Ok2.receive (h:Ok2 P chs rds) (name:ByteArray) (now long:Int):Ok2 P (dK P chs rds name now long).2.1 (dK P chs rds name now long).2.2:=by
 unfold dK;split
 ·split
  ·have ht:=Ok2.take (P:=P) name (aN P chs rds name).2.1 (aN P chs rds name).2.2.1 now (now+long) 1000001 chs (bC chs rds name) (aZ name) (h.find _);split
   ·exact ht
   ·exact⟨{ h.ov with rn:=ht.ov.rn },h.oq⟩
  ·exact h.find _
 ·exact h.find _
theorem Ok2.messages (h:Ok2 P chs rds) (name:ByteArray):Ok2 P chs (cY P chs rds name).2.2:=by
 unfold cY;split
 ·split
  ·split
   ·dsimp only;exact(h.find _).scan _ _ _
   ·dsimp only;exact(h.find _).scan _ _ _
  ·dsimp only;exact(h.find _).scan _ _ _
 ·exact h.find _
theorem Ok2.told (h:Ok2 P chs rds) (x:ActL):Ok2 P (fY P chs rds x).2.1 (fY P chs rds x).2.2:=by
 unfold fY;split
 ·exact h.create ..
 ·split
  ·exact h.send ..
  ·split
   ·exact h.receive ..
   ·split
    ·exact h.ack ..
    ·split
     ·exact h.wait ..
     ·split
      ·exact h.alter _
      ·split
       ·exact h.alter _
       ·split
        ·exact h.get _
        ·split
         ·exact h.messages _
         ·exact h.scan ..
end
structure Fit (s:ESt) (n:Nat):Prop where
 ok:EOk s
 s4:S4 s
 left:s.x.d.left=-1
 len:s.x.d.now.length=n
theorem Fit.ended {s:ESt} {n:Nat} (h:Fit s n) {i:Nat} (hi:i<4):Fit (endE s i) n:=⟨h.ok.ended h.s4 i,h.s4.set hi none,h.left,h.len⟩
theorem Fit.begin {s:ESt} {n:Nat} (h:Fit s n) {i:Nat} (hi:i<4):Fit (dX s i) n:=⟨h.ok.begin i,h.s4.set hi _,h.left,h.len⟩
theorem Fit.com {s:ESt} {n:Nat} (h:Fit s n) {i:Nat} (hi:i<4):Fit (comE s i).2 n/\(comE s i).2.c<=s.c+1:=by
 unfold comE
 cases hv:s.ses i with
 | none=>exact⟨h,Nat.le_succ _⟩
 | some v=>
  dsimp only;split
  ·exact⟨h.ended hi,Nat.le_succ _⟩
  ·split
   ·exact⟨h.ended hi,Nat.le_succ _⟩
   ·obtain⟨hlen,hcc⟩:=h.ok.g.commit v.chs;obtain⟨n1,n2⟩:=h.ok.g.never h.left v.chs;split
    ·rename_i hne;have hx:(comR s.x v.chs).2=s.x:=by
      rcases hcc with⟨a,_⟩|⟨_,_,c⟩|⟨a,b,_⟩
      ·exact absurd a hne
      ·exact c
      ·rw[n1,b] at a;cases a
     refine⟨⟨?_,h.s4,?_,?_⟩,Nat.le_succ _⟩
     ·show EOk { s with x:=(comR s.x v.chs).2 };rw[hx];exact h.ok.store h.ok.g rfl
     ·show(comR s.x v.chs).2.d.left=-1;rw[hx];exact h.left
     ·show(comR s.x v.chs).2.d.now.length=n;rw[hx];exact h.len
    ·rename_i hz;have hz':(comR s.x v.chs).1=0:=by simpa using hz
     have hf:Fit (addE s v.chs) n:=⟨h.ok.add hz',h.s4,n2,hlen.trans h.len⟩;exact⟨hf.ended hi,n_ _⟩
theorem Fit.abort {s:ESt} {n:Nat} (h:Fit s n) {i:Nat} (hi:i<4):Fit (dS s i).2 n/\(dS s i).2.c=s.c:=by
 unfold dS
 cases s.ses i with
 | none=>exact⟨h,rfl⟩
 | some v=>exact⟨h.ended hi,rfl⟩
theorem Fit.vac {s:ESt} {n:Nat} (h:Fit s n):Fit (vacE s) n:=⟨h.ok.vac h.s4,h.s4,h.left,h.len⟩
theorem Fit.chk {s:ESt} {n:Nat} (h:Fit s n):Fit (chkE s) n:=by
 obtain⟨a,b⟩:=h.ok.g.chk_never h.left;exact⟨h.ok.chk a,h.s4,b,h.ok.g.chk.1.trans h.len⟩
theorem Fit.act {s:ESt} {n:Nat} (h:Fit s n) {i:Nat} {v:VwL} (hv:s.ses i=some v) (hi:i<4) (x:ActL):Fit (actE s i v x) n:=by
 have ho:=h.ok.ses i v hv;have h2:=Ok2.told ⟨ho.ov,ho.oq⟩ x;exact⟨h.ok.view hv h2.ov h2.oq,h.s4.set hi _,h.left,h.len⟩
theorem Fit.ply {p:PSt} {n:Nat} (h:Fit p.e n) (x:ActL):Fit (plyP p x).e n/\(plyP p x).e.c<=p.e.c+1:=by
 have hi:=zFf x;unfold plyP;dsimp only;split
 ·split
  ·exact⟨h.begin hi,Nat.le_succ _⟩
  ·exact⟨h,Nat.le_succ _⟩
 ·split
  ·split
   ·exact⟨h,Nat.le_succ _⟩
   ·split
    ·exact h.com hi
    ·exact h.com hi
  ·split
   ·exact⟨(h.abort hi).1,Nat.le_succ_of_le (Nat.le_of_eq (h.abort hi).2)⟩
   ·split
    ·exact⟨h.vac,n_ _⟩
    ·split
     ·exact⟨h.chk,Nat.le_succ _⟩
     ·split
      ·exact⟨h,Nat.le_succ _⟩
      ·rename_i v hv;exact⟨h.act hv hi x,Nat.le_succ _⟩
theorem Fit.play {s:ESt} {n:Nat} (h:Fit s n) (l:List ActL):Fit (hO s l).e n/\(hO s l).e.c<=s.c+l.length:=by
 have aux:∀ (l:List ActL) (p:PSt),Fit p.e n->Fit (l.foldl plyP p).e n/\(l.foldl plyP p).e.c<=p.e.c+l.length:=by
  intro l
  induction l with
  | nil=>intro p h;exact⟨h,n_ _⟩
  | cons x l ih=>
   intro p h;obtain⟨q1,q2⟩:=h.ply x;obtain⟨r1,r2⟩:=ih (plyP p x) q1;exact⟨r1,by rw[List.foldl_cons,List.length_cons];omega⟩
 exact aux l ⟨s,fun _=>noD,[]⟩ h
theorem Fit.plays {s:ESt} {n:Nat} (h:Fit s n) {l:List ActL} (hc:s.c+l.length<=150):∀ k,k<l.length->EOk (hO s (l.take k)).e/\(hO s (l.take k)).e.c<=150:=fun k hk=>by
 obtain⟨q1,q2⟩:=h.play (l.take k);have:(l.take k).length<=l.length:=by rw[List.length_take];omega
 exact⟨q1.ok,by omega⟩
end
section
open Go.RowKit Go.Joins Go.Shelf
attribute [local go_sem ↓] Go.wp_at_zero Go.wp_at_succ
theorem zFT {w W:World} {ao:Option Addr} {l:List Chg} (h:bW w ao l) (hk:∀ k,k<w.heap.size->W.heap[k]?=w.heap[k]?):bW W ao l:=by
 rcases h with h|⟨b,off,e,hc⟩
 ·exact .inl h
 ·refine .inr ⟨b,off,e,fun i hi=>?_⟩;obtain⟨q0,q1,q2⟩:=hc i hi;have hb:=hk b (World.block_lt_of_cell? w _ q0);exact⟨(b_ (a:=⟨b,_,none⟩) hb).trans q0,(b_ (a:=⟨b,_,none⟩) hb).trans q1,(b_ (a:=⟨b,_,none⟩) hb).trans q2⟩
theorem zGY {w W:World} {ao:Option Addr} {l:Rws} (h:bY w ao l) (hk:∀ k,k<w.heap.size->W.heap[k]?=w.heap[k]?):bY W ao l:=by
 rcases h with h|⟨b,off,e,hc⟩
 ·exact .inl h
 ·refine .inr ⟨b,off,e,fun i hi=>?_⟩;obtain⟨q0,q1⟩:=hc i hi;have hb:=hk b (World.block_lt_of_cell? w _ q0);exact⟨(b_ (a:=⟨b,_,none⟩) hb).trans q0,(b_ (a:=⟨b,_,none⟩) hb).trans q1⟩
theorem zFH {w W:World} {ao:Option Addr} {l:List ActL} (h:iM w ao l) (hk:∀ k,k<w.heap.size->W.heap[k]?=w.heap[k]?):iM W ao l:=by
 rcases h with h|⟨b,off,e,hc⟩
 ·exact .inl h
 ·refine .inr ⟨b,off,e,fun i hi=>?_⟩;have q:=hc i hi;have hb:=hk b (World.block_lt_of_cell? w _ q.kind);exact⟨(b_ (a:=⟨b,_,none⟩) hb).trans q.kind,(b_ (a:=⟨b,_,none⟩) hb).trans q.a,(b_ (a:=⟨b,_,none⟩) hb).trans q.b,(b_ (a:=⟨b,_,none⟩) hb).trans q.c,(b_ (a:=⟨b,_,none⟩) hb).trans q.k,(b_ (a:=⟨b,_,none⟩) hb).trans q.s,(b_ (a:=⟨b,_,none⟩) hb).trans q.t,(b_ (a:=⟨b,_,none⟩) hb).trans q.cl,(b_ (a:=⟨b,_,none⟩) hb).trans q.sl,zFT q.hc hk,zGY q.hs hk,q.ns,q.ai⟩
theorem zBU {w:World} {ao:Option Addr} {l:List ActL} (h:iM w ao l) {x:ActL} (hx:x∈l):∃ b off,vI w b off x:=by
 obtain⟨i,hi,rfl⟩:=List.getElem_of_mem hx;rcases h with h|⟨b,off,_,hc⟩
 ·rw[h] at hi;simp at hi
 ·exact⟨b,_,hc i hi⟩
theorem zIQ {w:World} {ao:Option Addr} {l:List ActL} {n:Nat} (h:iM w ao l) (hl:gT l n=true):l.length<=n/\∀ x∈l,fT x:=by
 simp only[gT,Bool.and_eq_true,decide_eq_true_eq,List.all_eq_true] at hl;refine⟨hl.1,fun x hx=>?_⟩;have h2:=hl.2 x hx;simp only[fE,Bool.and_eq_true,decide_eq_true_eq] at h2;obtain⟨b,off,ha⟩:=zBU h hx;exact⟨h2.1.1.1,h2.1.1.2,ha.ai⟩
structure RunE (w0 w:World) (B:Nat) (m:EMem) (s:ESt) (n:Nat):Prop where
 ek:EK w B m s
 fit:Fit s n
 bel:Below w0.heap.size w0 w
 lo:w0.heap.size<=B
 la:Laid w0
section
variable {w0 w w':World} {B n:Nat} {m:EMem} {s s':ESt}
theorem RunE.on (h:RunE w0 w B m s n) (hb:Below w.heap.size w w'):RunE w0 w' B m s n:={ h with ek:=h.ek.on hb,bel:=aB h.bel (n_ _) hb }
theorem RunE.laid (h:RunE w0 w B m s n):∀ W,Below B w W->Laid W:=fun _ hW=>iL h.la (h.bel.trans (hW.mono h.lo))
structure RunA (w0 w w':World) (B:Nat) (m:EMem) (s s':ESt) (n:Nat) (m':EMem):Prop where
 run:RunE w0 w' B m' s' n
 eb:m'.eb=m.eb
 db:m'.db=m.db
 st:aG w w' B (allF m s.ses) (allF m' s'.ses)
theorem RunE.act (h:RunE w0 w B m s n) (ha:ActE w w' B m s s') (hf:Fit s' n):∃ m',RunA w0 w w' B m s s' n m':=by
 obtain⟨m',k1,k2,k3,k4⟩:=ha;exact⟨m',⟨k1,hf,h.bel.trans (k4.bel.mono h.lo),h.lo,h.la⟩,k2,k3.1,k4⟩
theorem zEi (k:Nat) (w0 w:World) (h1:54<=k) (h2:k<=200) (hL:Laid w0) (hb:Below w0.heap.size w0 w):Calls p_ 15 #[.int .i64 (k:Int)] w fun e w'=>∃ db eb,e=.returned (.tuple #[.pointer (some ⟨db,0,none⟩),.pointer (some ⟨eb,0,none⟩),.bool true])/\∃ m s,RunE w0 w' w.heap.size m s k/\m.eb=eb/\m.db=db/\zDq s k:=by
 refine(vC k w h1 h2).mono ?_;rintro e w' ⟨db,eb,rfl,hst⟩;obtain⟨m,s,hek,he,hd,fr⟩:=hst.ex;exact⟨db,eb,rfl,m,s,⟨hek,⟨fr.ok,hek.s4,fr.left,fr.len⟩,aB hb (n_ _) hst.bel,hb.size,hL⟩,he,hd,fr⟩
theorem zK0 (l:List ActL) (ao:Option Addr) (cap:Nat) (h:RunE w0 w B m s n) (hd:iM w0 ao l) (hl:∀ x∈l,fT x) (hn:l.length<=100) (hc:s.c+l.length<=150):
  Calls p_ 37 #[.pointer (some ⟨m.eb,0,none⟩),.slice ao l.length cap] w fun e w'=>∃ ov,e=.returned ov/\∃ m',RunA w0 w w' B m s (hO s l).e n m'/\∃ pb m1 cur outs,dP w w' B m1 s pb ov (hO s l) m' cur outs:=by
 have hsz:=h.bel.size;have h0:EK w B { m with Q:=fun _=>False } s:=⟨h.ek.hi,h.ek.sa,h.ek.vs,h.ek.vw,h.ek.ds,h.ek.ap,h.ek.mn,h.ek.s4⟩;refine(zKm l ao cap w h0 hn h.laid (fun W hW=>?_) hl (fun _ h=>h.elim) (fun _ _ h=>h) (h.fit.plays hc)).mono ?_
 ·have hh:iM W ao l:=zFH hd fun k hk=>by
   refine(hW k (by omega) fun ⟨i,e⟩=>?_).trans (h.bel.block k hk);have:=h.ek.low e;have:=h.lo;omega
  exact⟨hh,fun x hx=>(zBU hh hx).elim fun b hb=>hb.elim fun off ha=>ha.hs⟩
 ·rintro e w' ⟨ov,rfl,pb,m',cur,outs,hR⟩;exact⟨ov,rfl,m',⟨⟨hR.ek,(h.fit.play l).1,h.bel.trans (hR.st.bel.mono h.lo),h.lo,h.la⟩,hR.eb,hR.db.1,hR.st⟩,pb,{ m with Q:=fun _=>False },cur,outs,hR⟩
theorem zIn (h:RunE w0 w B m s n) {i:Nat} (hi:i<4) (hc:s.c<=150):
  Calls p_ 22 #[.pointer (some ⟨m.eb,0,none⟩),.int .i64 (i:Int)] w fun e w'=>e=.returned (errV (dS s i).1)/\∃ m',RunA w0 w w' B m s (dS s i).2 n m':=
 (yZ w h.ek h.fit.ok hi hc).mono fun _ _ ⟨he,ha⟩=>⟨he,h.act ha (h.fit.abort hi).1⟩
end
theorem zGf (s:ESt) (i:Nat):(dS s i).2.ses i=none/\(∀ j,s.ses j=none->(dS s i).2.ses j=none)/\(dS s i).2.c=s.c/\(dS s i).2.x=s.x/\(dS s i).2.now=s.now/\(dS s i).2.R=s.R:=by
 unfold dS
 cases hv:s.ses i with
 | none=>exact⟨hv,fun j h=>h,rfl,rfl,rfl,rfl⟩
 | some v=>
  refine⟨?_,fun j h=>?_,rfl,rfl,rfl,rfl⟩
  ·show setS s.ses i none i=none;exact hE _ _ _
  ·show setS s.ses i none j=none;unfold setS;split
   ·rfl
   ·exact h
end
section
open Go.RowKit Go.Joins Go.Shelf
section
variable {w0 w w':World} {B n:Nat} {m:EMem} {s s':ESt}
theorem zOc (h:RunE w0 w B m s n) {i:Nat} (hi:i<4) (hv:s.ses i=none):
  Calls p_ 18 #[.pointer (some ⟨m.eb,0,none⟩),.int .i64 (i:Int)] w fun e w'=>e=.returned .nilIface/\∃ m',RunA w0 w w' B m s (dX s i) n m':=
 (wB w h.ek hi hv).mono fun _ _ ⟨he,ha⟩=>⟨he,h.act ha (h.fit.begin hi)⟩
theorem zN5 (h:RunE w0 w B m s n) {i:Nat} (hi:i<4) (hc:s.c<=150):
  Calls p_ 20 #[.pointer (some ⟨m.eb,0,none⟩),.int .i64 (i:Int)] w fun e w'=>e=.returned (.tuple #[.int .i64 ((comE s i).1.1:Int),errV (comE s i).1.2])/\∃ m',RunA w0 w w' B m s (comE s i).2 n m':=
 (vX w h.ek h.fit.ok hi hc).mono fun _ _ ⟨he,ha⟩=>⟨he,h.act ha (h.fit.com hi).1⟩
theorem zOo (h:RunE w0 w B m s n) {i:Nat} {v:VwL} (hv:s.ses i=some v) (hi:i<4) {chs:List Chg} {rds:Rws} (ha:ActQ w w' B (m.W i).1 (inPV m i) v.P (snE B m s v.n) chs rds) (h2:Ok2 v.P chs rds):∃ m',RunA w0 w w' B m s (jU s i v chs rds) n m'/\(m'.W i).1=(m.W i).1:=by
 obtain⟨S',hq,hst⟩:=ha;obtain⟨y,hy,k1,k2⟩:=h.ek.view hv hi hq.pv hst;refine⟨_,⟨⟨k1,⟨h.fit.ok.view hv h2.ov h2.oq,h.fit.s4.set hi _,h.fit.left,h.fit.len⟩,h.bel.trans (k2.bel.mono h.lo),h.lo,h.la⟩,rfl,rfl,k2⟩,?_⟩;show(updW m.W i y i).1=_;rw[qH];exact hy
theorem RunE.qv (h:RunE w0 w B m s n) {i:Nat} {v:VwL} (hv:s.ses i=some v) (hc:s.c<=190):QV w B (m.W i).1 (inPV m i) v.P (snE B m s v.n) v.chs v.rds:=h.ek.qv h.fit.ok hv hc h.laid
theorem RunE.ok2 (h:RunE w0 w B m s n) {i:Nat} {v:VwL} (hv:s.ses i=some v):Ok2 v.P v.chs v.rds:=⟨(h.fit.ok.ses i v hv).ov,(h.fit.ok.ses i v hv).oq⟩
theorem zOn (x:ActL) (h:RunE w0 w B m s n) {i:Nat} {v:VwL} (hv:s.ses i=some v) (hi:i<4) (hc:s.c<=190) (hl:fT x) (hxs:bY w x.sa x.sps):
  Calls p_ 39 #[.pointer (some ⟨(m.W i).1,0,none⟩),.agg #[v_ x.kind,i_ .i64 x.a,i_ .i64 x.b,i_ .i64 x.c,i_ .u64 x.k,v_ x.s,v_ x.t,Value.slice x.ca x.chs.length x.cc,Value.slice x.sa x.sps.length x.sc]] w fun e w'=>e=.returned (.string (fY v.P v.chs v.rds x).1)/\∃ m',RunA w0 w w' B m s (actE s i v x) n m'/\(m'.W i).1=(m.W i).1:=
 (zJ4 x w (h.qv hv hc) hl hxs).mono fun _ _ ⟨he,ha⟩=>⟨he,zOo h hv hi ha ((h.ok2 hv).told x)⟩
theorem RunE.acts (h:RunE w0 w B m s n) {ao:Option Addr} {l:List ActL} (hd:iM w0 ao l):iM w ao l:=zHR h.bel hd
end
theorem zOm {w0 w:World} {B n:Nat} {m:EMem} {s:ESt} (h:RunE w0 w B m s n):Calls p_ 35 #[.pointer (some ⟨m.eb,0,none⟩)] w fun e w'=>∃ ra rc,e=.returned (.slice ra (aS s.x.rows).length rc)/\bY w' ra (aS s.x.rows)/\Below w.heap.size w w':=by
 refine(zBq w h.ek (by have:=h.fit.ok.few;omega)).mono ?_;rintro e w' ⟨v,rfl,ho,hb⟩;obtain⟨ra,rc,rfl,hh⟩:=lV ho;exact⟨ra,rc,rfl,hh,hb⟩
theorem zN4 {s:ESt} (h:EOk s):(aS s.x.rows).length<=40:=by unfold aS;rw[List.length_map];exact h.few
theorem zOI {s:ESt} {n:Nat} (h:Fit s n) {i:Nat} {v:VwL} (hv:s.ses i=some v) (hn:v.n=s.now):(comE s i).1.2≠9:=by
 have ho:=h.ok.ses i v hv;have hcl:lC s.ds v.rds v.n=true:=by
  rw[zBW h.ok.rd];have:(s.ds.filter fun d=>decide ((v.n:Int)<d.n))=[]:=by
   rw[List.filter_eq_nil_iff];intro d hd;have:=h.ok.dn d hd;rw[hn];simp;omega
  rw[this];rfl
 unfold comE;rw[hv];dsimp only;split
 ·show(0:Nat)≠9;decide
 ·rw[if_neg (by rw[hcl];decide)];split
  ·rename_i hne;show(comR s.x v.chs).1≠9;rw[(h.ok.g.never h.left v.chs).1];unfold comF;have hd:jW v.chs=0:=by
    unfold jW;rw[if_neg (by have:=ho.ov.cn;omega)];have key:∀ l:List Chg,(∀ c∈l,aD c=0)->bS l=0:=by
     intro l
     induction l with
     | nil=>intro _;rfl
     | cons c l ih=>
      intro hl;show(if aD c=0 then bS l else aD c)=0;rw[if_pos (hl c (List.mem_cons_self ..))];exact ih fun x hx=>hl x (List.mem_cons_of_mem _ hx)
    exact key _ ho.oq.cf
   rw[if_neg (by rw[hd];decide)];split<;>decide
  ·show(0:Nat)≠9;decide
end
section
open Go.RowKit Go.Joins
def Agr (S P P':Rws):Prop:=∀ s∈S,∀ key,hasS s.1 s.2 key=true->valR P key=valR P' key
theorem Agr.sub {S T P P':Rws} (h:Agr S P P') (hs:∀ s∈T,s∈S):Agr T P P':=fun s m=>h s (hs s m)
theorem zCF (key:ByteArray):∀ (cs:List Chg) {P P':Rws},bV P->bV P'->valR P key=valR P' key->valR (iB P cs) key=valR (iB P' cs) key
 | [],_,_,_,_,h=>h
 | c::cs,P,P',hP,hP',h=>by
  refine zCF key cs (jO hP c) (jO hP' c) ?_;by_cases e:key=c.key
  ·rw[e,zEA hP,zEA hP']
  ·rw[uJ hP e,uJ hP' e,h]
theorem zEd {P:Rws} (hP:bV P) (chs:List Chg) (s:ByteArray×ByteArray):aF P chs s=inR (iB P chs) s:=zFl chs hP s
theorem zNm {P:Rws} (hP:bV P) (s:ByteArray×ByteArray):bV (inR P s):=List.Pairwise.sublist (List.filter_sublist) hP
theorem zCi {P:Rws} (hP:bV P) (chs:List Chg) (s:ByteArray×ByteArray):bV (aF P chs s):=by
 rw[zEd hP];exact zNm (zAt hP chs) s
theorem zOp {P P':Rws} (hP:bV P) (hP':bV P') (chs:List Chg) (s r:ByteArray×ByteArray) (ha:∀ key,hasS r.1 r.2 key=true->valR P key=valR P' key):inR (aF P chs s) r=inR (aF P' chs s) r:=by
 refine zFo (zNm (zCi hP chs s) r) (zNm (zCi hP' chs s) r) fun x=>?_;rw[zEd hP,zEd hP'];unfold inR;simp only[List.mem_filter];constructor
 ·rintro⟨⟨h1,h2⟩,h3⟩;refine⟨⟨?_,h2⟩,h3⟩;have:=(kU (zAt hP chs) x.1 x.2).2 h1;rw[zCF x.1 chs hP hP' (ha x.1 h3)] at this;exact(kU (zAt hP' chs) x.1 x.2).1 this
 ·rintro⟨⟨h1,h2⟩,h3⟩;refine⟨⟨?_,h2⟩,h3⟩;have:=(kU (zAt hP' chs) x.1 x.2).2 h1;rw[<-zCF x.1 chs hP hP' (ha x.1 h3)] at this;exact(kU (zAt hP chs) x.1 x.2).1 this
theorem zNW (K:ByteArray):∀ {B:Rws},bV B->(B.filter fun x=>leS x.1 K)=B.take (B.filter fun x=>leS x.1 K).length
 | [],_=>rfl
 | b::B,h=>by
  obtain⟨h1,h2⟩:=List.pairwise_cons.1 h;cases e:leS b.1 K
  ·have hn:(B.filter fun x=>leS x.1 K)=[]:=by
    rw[List.filter_eq_nil_iff];intro x hx hle;have hlt:=h1 x hx;have:leS b.1 K=true:=zID ((jM _ _).2 (.inl hlt)) hle;rw[e] at this;cases this
   rw[List.filter_cons_of_neg (by rw[e];decide),hn];rfl
  ·rw[List.filter_cons_of_pos (by simpa using e),List.length_cons,List.take_succ_cons,<-zNW K h2]
theorem zOw:∀ {A:Rws},bV A->∀ (k:Nat) (hk:k<A.length),(A.filter fun x=>leS x.1 A[k].1)=A.take (k+1)
 | [],_,k,hk=>by simp at hk
 | a::A,h,0,hk=>by
  obtain⟨h1,h2⟩:=List.pairwise_cons.1 h;have hn:(A.filter fun x=>leS x.1 a.1)=[]:=by
   rw[List.filter_eq_nil_iff];intro x hx hle;rw[mA,h1 x hx] at hle;cases hle
  show((a::A).filter fun x=>leS x.1 a.1)=_;rw[List.filter_cons_of_pos (by simpa using(jM a.1 a.1).2 (.inr rfl)),hn];rfl
 | a::A,h,k+1,hk=>by
  obtain⟨h1,h2⟩:=List.pairwise_cons.1 h;have hk':k<A.length:=by simpa using hk
  show((a::A).filter fun x=>leS x.1 A[k].1)=a::A.take (k+1);rw[List.filter_cons_of_pos (by simpa using(jM _ _).2 (.inl (h1 _ (List.getElem_mem hk')))),zOw h2 k hk']
theorem zOb (s:ByteArray×ByteArray) (K key:ByteArray):hasS (Lib.maxS s.1 ⟨#[]⟩) (endS s.2 (cX K)) key=(hasS s.1 s.2 key&&leS key K):=by
 rw[zOi];congr 1;unfold hasS;rw[zLn];have h1:leS ⟨#[]⟩ key=true:=by
  rw[mA,show ltS key ⟨#[]⟩=false from zLQ key];rfl
 have h2:nilS (cX K)=false:=zOf K;rw[h1,h2];rfl
theorem zNY {A:Rws} {s:ByteArray×ByteArray} (h:∀ x∈A,hasS s.1 s.2 x.1=true):inR A s=A:=List.filter_eq_self.2 h
theorem zNR {P:Rws} (hP:bV P) (chs:List Chg) (s:ByteArray×ByteArray):∀ x∈aF P chs s,hasS s.1 s.2 x.1=true:=fun x hx=>by
 rw[zEd hP] at hx;exact(List.mem_filter.1 hx).2
theorem zNQ {P P':Rws} (hP:bV P) (hP':bV P') (chs:List Chg) (s:ByteArray×ByteArray) {m:Nat} (hm:0<m) (ha:∀ key,hasS (rdS (aF P chs s) s m).1 (rdS (aF P chs s) s m).2 key=true->valR P key=valR P' key):
  (aF P chs s).take m=(aF P' chs s).take m/\rdS (aF P' chs s) s m=rdS (aF P chs s) s m:=by
 have h2:=zOp hP hP' chs s _ ha;have hA:=zNR hP chs s;have hB:=zNR hP' chs s;have rA:=zCi hP chs s;have rB:=zCi hP' chs s;generalize aF P chs s=A at *;generalize aF P' chs s=B at *;by_cases hl:m<=A.length
 ·have hk:m-1<A.length:=by omega
  have er:rdS A s m=(Lib.maxS s.1 ⟨#[]⟩,endS s.2 (cX A[m-1].1)):=by
   unfold rdS;rw[if_pos hl,List.getElem?_eq_getElem hk];rfl
  have fA:inR A (rdS A s m)=A.take m:=by
   rw[er,<-show A.take (m-1+1)=A.take m by rw[Nat.sub_add_cancel hm],<-zOw rA (m-1) hk];unfold inR;refine List.filter_congr fun x hx=>?_;rw[zOb,hA x hx];rfl
  have fB:inR B (rdS A s m)=B.filter fun x=>leS x.1 A[m-1].1:=by
   rw[er];unfold inR;refine List.filter_congr fun x hx=>?_;rw[zOb,hB x hx];rfl
  rw[fA,fB] at h2;have hlen:(B.filter fun x=>leS x.1 A[m-1].1).length=m:=by rw[<-h2,List.length_take];omega
  have hpre:=zNW A[m-1].1 rB;rw[hlen,<-h2] at hpre;have hBl:m<=B.length:=by
   rw[<-hlen];exact List.length_filter_le _ _
  refine⟨hpre,?_⟩;have hg:B[m-1]?=A[m-1]?:=by
   have e1:(A.take m)[m-1]?=A[m-1]?:=List.getElem?_take_of_lt (by omega);have e2:(B.take m)[m-1]?=B[m-1]?:=List.getElem?_take_of_lt (by omega);rw[<-e1,<-e2,hpre]
  unfold rdS;rw[if_pos hl,if_pos hBl,hg]
 ·have er:rdS A s m=s:=by unfold rdS;rw[if_neg hl]
  rw[er,zNY hA,zNY hB] at h2;subst h2;exact⟨rfl,rfl⟩
end
end Go.Proofs.YtnboipekkahmnaaGreatDoor
