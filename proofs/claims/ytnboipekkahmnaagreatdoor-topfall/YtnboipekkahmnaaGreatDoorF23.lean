import Derived.Test.YtnboipekkahmnaaGreatDoorF22
set_option maxHeartbeats 8000000
set_option maxRecDepth 100000
namespace Go.Proofs.YtnboipekkahmnaaGreatDoor
open Obj renaming cells→o_
open World renaming cell?_of_block→b_,cell?_setCell_other→t_,cell?_setCell_same→u_,ownsRow.lt→l_
open Go.RowKit.Below renaming heap_setCell→h_,refl→r_
open Nat renaming le_refl→n_
open Tryz renaming prog→p_
open Value renaming string→v_,int→i_
open Go.Joins renaming below_alloc1→a_
section
open Go.RowKit Go.Joins Go.Shelf
theorem zG2 (x:ActL) (hn:0<x.sps.length):lK x=x.sps[0]:=by
 obtain⟨s,l,e⟩:=List.exists_cons_of_length_pos hn;unfold lK;simp[e]
theorem zJ4 (x:ActL) {B wb:Nat} {S:Nat->Prop} {P:Rws} {since:Sn} {chs:List Chg} {rds:Rws} (w:World) (h:QV w B wb S P since chs rds) (hl:fT x) (hxs:bY w x.sa x.sps):
  Calls p_ 39 #[.pointer (some ⟨wb,0,none⟩),.agg #[v_ x.kind,i_ .i64 x.a,i_ .i64 x.b,i_ .i64 x.c,i_ .u64 x.k,v_ x.s,v_ x.t,Value.slice x.ca x.chs.length x.cc,Value.slice x.sa x.sps.length x.sc]] w fun e w'=>e=.returned (.string (fY P chs rds x).1)/\ActQ w w' B wb S P since (fY P chs rds x).2.1 (fY P chs rds x).2.2:=by
 unfold fY isK;cases k0:(x.kind.toList==[99,114,101,97,116,101])
 case true=>exact zEN x w h k0 hl
 cases k1:(x.kind.toList==[115,101,110,100])
 case true=>exact zHZ x w h k0 k1 hl
 cases k2:(x.kind.toList==[114,101,99,101,105,118,101])
 case true=>exact zCA x w h k0 k1 k2 hl
 cases k3:(x.kind.toList==[97,99,107])
 case true=>exact zLf x w h k0 k1 k2 k3 hl
 cases k4:(x.kind.toList==[119,97,105,116])
 case true=>exact zI1 x w h k0 k1 k2 k3 k4 hl
 cases k5:(x.kind.toList==[112,117,116])
 case true=>exact zKJ x w h k0 k1 k2 k3 k4 k5 hl
 cases k6:(x.kind.toList==[100,101,108,101,116,101])
 case true=>exact zDX x w h k0 k1 k2 k3 k4 k5 k6 hl
 cases k7:(x.kind.toList==[103,101,116])
 case true=>exact zJW x w h k0 k1 k2 k3 k4 k5 k6 k7 hl
 cases k8:(x.kind.toList==[109,101,115,115,97,103,101,115])
 case true=>exact zCc x w h k0 k1 k2 k3 k4 k5 k6 k7 k8 hl
 by_cases hn:0<x.sps.length
 ·rcases hxs with e|⟨b,off,e,hsp⟩
  ·rw[e] at hn;simp at hn
  ·obtain⟨s0,s1⟩:=hsp 0 hn;simp only[Nat.zero_mul,Nat.add_zero] at s0 s1;have es:lK x=x.sps[0]:=zG2 x hn;rw[es];exact zAO x w h k0 k1 k2 k3 k4 k5 k6 k7 k8 hl (x.sps[0]) b off e hn s0 s1
 ·have e0:x.sps=[]:=List.length_eq_zero_iff.1 (by omega);have es:lK x=(⟨#[]⟩,⟨#[]⟩):=by
   unfold lK;rw[e0]
  rw[es];exact zAL x w h k0 k1 k2 k3 k4 k5 k6 k7 k8 hl hn
end
section
open Go.Lib
theorem zKU:(Tryz.prog.globals[3]?).map (·.type)=some 405:=by kernel_rfl
theorem zJp:Tryz.prog.cellsOf 405=20:=by kernel_rfl
theorem zI0:Tryz.prog.cellsOf 35=1:=by kernel_rfl
theorem zHV {W:World} {x y:String×DataW Unit} {zs:List Int} {rest:List (String×DataW Unit)}
  (h:laidMet p_ (x::y::("internal/strconv.uint64pow10",tabData .u64 zs)::rest) W):TabIs p_ W "internal/strconv.uint64pow10" .u64 zs:=by
 obtain⟨ps,⟨_,_,_,_,_,_,_,_,_,_,⟨_,_,_,_,_,_,_,_,_,_,⟨g',t',cs,fuel,p,q,hg',ht',hvar,hd,_,_⟩,_⟩,_⟩,_⟩:=h;obtain rfl:=Option.some.inj (zBT.symm.trans hg');obtain rfl:=Option.some.inj (zKU.symm.trans ht');have e:=cells_of_tab Tryz.underlying405 Tryz.underlying35 zI0 zJp hd;unfold TabIs;rw[hvar];congr 1;exact Array.ext' (by simpa using e)
theorem zJN:Lib.pow10Tab=[1,10,100,1000,10000,100000,1000000,10000000,100000000,1000000000,10000000000,100000000000,1000000000000,10000000000000,100000000000000,1000000000000000,10000000000000000,100000000000000000,1000000000000000000,10000000000000000000]:=by decide +kernel
theorem zKf:(Tryz.prog.globals[2]?).map (·.type)=some 42:=by kernel_rfl
theorem zK8:(Tryz.prog.globals[1]?).map (·.type)=some 42:=by kernel_rfl
theorem zGo {W:World} {x y z:String×DataW Unit} {nm:String} {d:DataW Unit} {rest:List (String×DataW Unit)}
  (h:laidMet p_ (x::y::z::("strconv.ErrRange",.iface nm d)::rest) W):zCq W "strconv.ErrRange":=by
 obtain⟨ps,⟨_,_,_,_,_,_,_,_,_,_,⟨_,_,_,_,_,_,_,_,_,_,⟨_,_,_,_,_,_,_,_,_,_,⟨g',t',cs,fuel,p,q,hg',ht',hvar,hd,_,_⟩,_⟩,_⟩,_⟩,_⟩:=h;obtain rfl:=Option.some.inj (zAY.symm.trans hg');obtain rfl:=Option.some.inj (zKf.symm.trans ht');obtain⟨_,u,v,hc,_,_⟩:=iface_of_trod Tryz.underlying42 hd;have e:cs=#[.iface u v]:=Array.ext' (by simpa using hc);exact⟨u,v,by rw[hvar,e]⟩
theorem zIU {W:World} {x y z a:String×DataW Unit} {nm:String} {d:DataW Unit} {rest:List (String×DataW Unit)}
  (h:laidMet p_ (x::y::z::a::("strconv.ErrSyntax",.iface nm d)::rest) W):zCq W "strconv.ErrSyntax":=by
 obtain⟨ps,⟨_,_,_,_,_,_,_,_,_,_,⟨_,_,_,_,_,_,_,_,_,_,⟨_,_,_,_,_,_,_,_,_,_,⟨_,_,_,_,_,_,_,_,_,_,⟨g',t',cs,fuel,p,q,hg',ht',hvar,hd,_,_⟩,_⟩,_⟩,_⟩,_⟩,_⟩:=h;obtain rfl:=Option.some.inj (zBP.symm.trans hg');obtain rfl:=Option.some.inj (zK8.symm.trans ht');obtain⟨_,u,v,hc,_,_⟩:=iface_of_trod Tryz.underlying42 hd;have e:cs=#[.iface u v]:=Array.ext' (by simpa using hc);exact⟨u,v,by rw[hvar,e]⟩
theorem zNs {n:Int} (h:(Lit.int .i64 n).wf=true):-9223372036854775808<=n/\n<=9223372036854775807:=by
 rw[Lit.wf,Bool.and_eq_true,decide_eq_true_eq,decide_eq_true_eq] at h;exact h
end
section
open Go.RowKit Go.Joins Go.Shelf
attribute [local go_sem ↓] Go.wp_at_zero Go.wp_at_succ
theorem zK1:(Tryz.prog.info? 39).map (fun i=>(i.zero,i.size,i.bytes))=some (some (.agg #[.string ⟨#[]⟩,.int .i64 0,.int .i64 0,.int .i64 0,.int .u64 0,.string ⟨#[]⟩,.string ⟨#[]⟩,.slice none 0 0,.slice none 0 0]),9,128):=by kernel_rfl
theorem zG1:(Tryz.prog.info? 73).map (fun i=>(i.zero,i.size,i.bytes))=some (some (.agg #[.int .i64 0,.bool false,.slice none 0 0,.slice none 0 0]),4,64):=by kernel_rfl
theorem EK.act {w w':World} {B:Nat} {m:EMem} {s:ESt} (h:EK w B m s) {i:Nat} {v:VwL} (hv:s.ses i=some v) (hi:i<4) {chs:List Chg} {rds:Rws} (ha:ActQ w w' B (m.W i).1 (inPV m i) v.P (snE B m s v.n) chs rds):ActE w w' B m s (jU s i v chs rds):=by
 obtain⟨S',hq,hst⟩:=ha;obtain⟨y,hy,k1,k2⟩:=h.view hv hi hq.pv hst;refine⟨_,k1,rfl,⟨rfl,fun j _=>?_⟩,k2⟩;show(updW m.W i y j).1=_;by_cases e:j=i
 ·subst e;rw[qH];exact hy
 ·rw[oV _ e]
theorem EK.qv {w:World} {B:Nat} {m:EMem} {s:ESt} (h:EK w B m s) (ok:EOk s) {i:Nat} {v:VwL} (hv:s.ses i=some v) (hc:s.c<=190) (hla:∀ W,Below B w W->Laid W):QV w B (m.W i).1 (inPV m i) v.P (snE B m s v.n) v.chs v.rds:=
 ⟨h.pv ok hv hc,(ok.ses i v hv).oq,hla⟩
theorem zMp {w:World} {B:Nat} {m:EMem} {s:ESt} (x:ActL) (h:EK w B m s) (ok:EOk s) {i:Nat} {v:VwL} (hv:s.ses i=some v) (hi:i<4) (hc:s.c<=190) (hla:∀ W,Below B w W->Laid W) (hl:fT x) (hxs:bY w x.sa x.sps):
  Calls p_ 39 #[.pointer (some ⟨(m.W i).1,0,none⟩),.agg #[v_ x.kind,i_ .i64 x.a,i_ .i64 x.b,i_ .i64 x.c,i_ .u64 x.k,v_ x.s,v_ x.t,Value.slice x.ca x.chs.length x.cc,Value.slice x.sa x.sps.length x.sc]] w fun e w'=>e=.returned (.string (fY v.P v.chs v.rds x).1)/\ActE w w' B m s (actE s i v x):=
 (zJ4 x w (h.qv ok hv hc hla) hl hxs).mono fun _ _ ⟨he,ha⟩=>⟨he,h.act hv hi ha⟩
theorem lU {s:ESt} {i j:Nat} (h:(endE s i).ses j≠none):s.ses j≠none/\j≠i:=by
 have h':setS s.ses i none j≠none:=h;unfold setS at h';split at h'
 ·exact absurd rfl h'
 ·rename_i e;exact⟨h',e⟩
theorem zKn {s:ESt} {i j:Nat} (h:(comE s i).2.ses j≠none):s.ses j≠none:=by
 unfold comE at h;split at h
 ·exact h
 ·split at h
  ·exact(lU h).1
  ·split at h
   ·exact(lU h).1
   ·split at h
    ·exact h
    ·exact(lU h).1
theorem zLg {s:ESt} {i j:Nat} {v:VwL} (hv:s.ses i=some v) (h0:(comE s i).1.2=0) (h:(comE s i).2.ses j≠none):s.ses j≠none/\j≠i:=by
 unfold comE at h h0;rw[hv] at h h0;dsimp only at h h0;split at h
 ·exact lU h
 ·rename_i q1;rw[if_neg q1] at h0;split at h
  ·exact lU h
  ·rename_i q2;rw[if_neg q2] at h0;split at h
   ·rename_i q3;rw[if_pos q3] at h0;exact absurd h0 q3
   ·exact lU h
theorem zFB {s:ESt} {i j:Nat} (h:(dS s i).2.ses j≠none):s.ses j≠none:=by
 unfold dS at h;split at h
 ·exact h
 ·exact(lU h).1
theorem zAP {s:ESt} {i j:Nat} (hj:j≠i) (h:s.ses j≠none):(endE s i).ses j≠none:=by
 show setS s.ses i none j≠none;rw[hU _ hj];exact h
theorem zIn {s:ESt} {i j:Nat} (hj:j≠i) (h:s.ses j≠none):(comE s i).2.ses j≠none:=by
 unfold comE;split
 ·exact h
 ·split
  ·exact zAP hj h
  ·split
   ·exact zAP hj h
   ·split
    ·exact h
    ·exact zAP (s:=addE s _) hj h
theorem zNB {s:ESt} {i j:Nat} (hj:j≠i) (h:s.ses j≠none):(dS s i).2.ses j≠none:=by
 unfold dS;split
 ·exact h
 ·exact zAP hj h
theorem zNk {f:Nat->Option VwL} {i j:Nat} {v:VwL} (h:f j≠none):setS f i (some v) j≠none:=by
 unfold setS;split
 ·exact nofun
 ·exact h
theorem zKI {s:ESt} {i j:Nat} {v u:VwL} {x:ActL} (hv:s.ses i=some u) (h:(actE s i v x).ses j≠none):s.ses j≠none:=by
 have h':setS s.ses i _ j≠none:=h;unfold setS at h';split at h'
 ·rename_i e;rw[e,hv];exact nofun
 ·exact h'
theorem zKm (l:List ActL) (ao:Option Addr) (cap:Nat) {B:Nat} {m0:EMem} {s0:ESt} (w:World) (h:EK w B m0 s0) (hll:l.length<=100) (hla:∀ W,Below B w W->Laid W)
  (hac:∀ W,(∀ k,k<w.heap.size->¬allF m0 s0.ses k->W.heap[k]?=w.heap[k]?)->iM W ao l/\∀ x∈l,bY W x.sa x.sps)
  (hli:∀ x∈l,fT x) (hQ0:∀ j,m0.Q j->s0.ses j≠none) (hQ:∀ x∈l,¬m0.Q (sesX x)) (hok:∀ k,k<l.length->EOk (hO s0 (l.take k)).e/\(hO s0 (l.take k)).e.c<=150):
  Calls p_ 37 #[.pointer (some ⟨m0.eb,0,none⟩),.slice ao l.length cap] w fun e w'=>∃ ov,e=.returned ov/\∃ pb m cur outs,dP w w' B m0 s0 pb ov (hO s0 l) m cur outs:=by
 have nn:=eG;have ne:=pX;have n1:=bM 114;have n2:=rD 114;have HAC:=hide hac;have HLI:=hide hli;have HQ:=hide hQ;have HQ0:=hide hQ0;have HOK:=hide hok;have HEK:=hide h;have HLA:=hide hla;clear hac hli hok h hla hQ hQ0;go_enter Tryz.func37,Tryz.ntmps37;go_wp2_with fail
 go_loopw [5,7] (fun ov iv wr=>∃ (k:Nat) (m:EMem) (cur:Nat->DVal) (outs:List DVal),k<=l.length/\iv=.int .i64 (k:Int)/\dP w wr B m0 s0 w.heap.size ov (hO s0 (l.take k)) m cur outs) (fun _ iv _=>l.length-(intOf iv).toNat)
 case atStart=>exact⟨0,m0,fun _=>noV,[],Nat.zero_le _,rfl,dP.start HEK.out HQ0.out⟩
 case round=>
  obtain⟨k,m,cur,outs,hk,rfl,hR⟩:=hrel;have HR:=hide hR;clear hR HEK;by_cases hlt:k<l.length
  ·have hlt':(k:Int)<(l.length:Int):=by omega
   have hk0:(0:Int)<=(k:Int):=by omega
   obtain⟨hha,hhs⟩:=HAC.out wr fun j hj hn=>(HR.out.st.far j hj hn).1;rcases hha with e|⟨b,off,e,hc⟩
   ·rw[e] at hlt;simp at hlt
   subst e;have hx:=hc k hlt;have HHS:Hid (∀ W,(∀ j,j<w.heap.size->¬allF m0 s0.ses j->W.heap[j]?=w.heap[j]?)->bY W l[k].sa l[k].sps):=fun W hW=>(HAC.out W hW).2 _ (List.getElem_mem hlt);have HLX:=hide (HLI.out _ (List.getElem_mem hlt));have HQX:Hid (∀ j,m0.Q j->j≠sesX l[k]):=fun j hj e=>HQ.out _ (List.getElem_mem hlt) (e▸hj);obtain⟨ok,hcc⟩:=HOK.out k hlt;have HOKK:=hide ok;have HPT:=hide (zGw (s:=s0) hlt);have hln:vK (hO s0 (l.take k)) 100:=by
    have:=zI2 s0 (l.take k);have h2:(l.take k).length<=100:=by rw[List.length_take];omega
    exact⟨Nat.le_trans this.1 h2,fun i=>⟨Nat.le_trans (this.2 i).1 h2,Nat.le_trans (this.2 i).2 h2⟩⟩
   have HLN:=hide hln;clear hc hhs ok hln;generalize l[k]=x at *;generalize hO s0 (l.take k)=p at *;have x0:=hx.kind;have x1:=hx.a;have x2:=hx.b;have x3:=hx.c;have x4:=hx.k;have x5:=hx.s;have x6:=hx.t;have x7:=hx.cl;have x8:=hx.sl;clear hx;have hse:=zL3 x;have hslt:=zFf x;have hs0:(0:Int)<=(sesX x:Int):=by omega
   have hs4:(sesX x:Int)<4:=by omega
   have hbX:=a_ wr (o_ #[.string x.kind,.int .i64 x.a,.int .i64 x.b,.int .i64 x.c,.int .u64 x.k,.string x.s,.string x.t,.slice x.ca x.chs.length x.cc,.slice x.sa x.sps.length x.sc] 39);have HRX:=hide (HR.out.on hbX);have hwx:wr.heap.size<(wr.alloc (o_ #[.string x.kind,.int .i64 x.a,.int .i64 x.b,.int .i64 x.c,.int .u64 x.k,.string x.s,.string x.t,.slice x.ca x.chs.length x.cc,.slice x.sa x.sps.length x.sc] 39)).heap.size:=by simp
   have HNB:Hid (∀ a,¬dH (allF m p.e.ses) w.heap.size (fun i=>p.e.ses i≠none) cur u5 a wr.heap.size):=fun a ha=>by have:=HR.out.pm.lt ha;omega
   have HWL:=hide HR.out.pm.wlo;have y0:(wr.alloc (o_ #[.string x.kind,.int .i64 x.a,.int .i64 x.b,.int .i64 x.c,.int .u64 x.k,.string x.s,.string x.t,.slice x.ca x.chs.length x.cc,.slice x.sa x.sps.length x.sc] 39)).cell? ⟨wr.heap.size,0,none⟩=some (.string x.kind):=aC _ _ _ 0;have y1:(wr.alloc (o_ #[.string x.kind,.int .i64 x.a,.int .i64 x.b,.int .i64 x.c,.int .u64 x.k,.string x.s,.string x.t,.slice x.ca x.chs.length x.cc,.slice x.sa x.sps.length x.sc] 39)).cell? ⟨wr.heap.size,1,none⟩=some (.int .i64 x.a):=aC _ _ _ 1;have y2:(wr.alloc (o_ #[.string x.kind,.int .i64 x.a,.int .i64 x.b,.int .i64 x.c,.int .u64 x.k,.string x.s,.string x.t,.slice x.ca x.chs.length x.cc,.slice x.sa x.sps.length x.sc] 39)).cell? ⟨wr.heap.size,2,none⟩=some (.int .i64 x.b):=aC _ _ _ 2;have y3:(wr.alloc (o_ #[.string x.kind,.int .i64 x.a,.int .i64 x.b,.int .i64 x.c,.int .u64 x.k,.string x.s,.string x.t,.slice x.ca x.chs.length x.cc,.slice x.sa x.sps.length x.sc] 39)).cell? ⟨wr.heap.size,3,none⟩=some (.int .i64 x.c):=aC _ _ _ 3;have y4:(wr.alloc (o_ #[.string x.kind,.int .i64 x.a,.int .i64 x.b,.int .i64 x.c,.int .u64 x.k,.string x.s,.string x.t,.slice x.ca x.chs.length x.cc,.slice x.sa x.sps.length x.sc] 39)).cell? ⟨wr.heap.size,4,none⟩=some (.int .u64 x.k):=aC _ _ _ 4;have y5:(wr.alloc (o_ #[.string x.kind,.int .i64 x.a,.int .i64 x.b,.int .i64 x.c,.int .u64 x.k,.string x.s,.string x.t,.slice x.ca x.chs.length x.cc,.slice x.sa x.sps.length x.sc] 39)).cell? ⟨wr.heap.size,5,none⟩=some (.string x.s):=aC _ _ _ 5;have y6:(wr.alloc (o_ #[.string x.kind,.int .i64 x.a,.int .i64 x.b,.int .i64 x.c,.int .u64 x.k,.string x.s,.string x.t,.slice x.ca x.chs.length x.cc,.slice x.sa x.sps.length x.sc] 39)).cell? ⟨wr.heap.size,6,none⟩=some (.string x.t):=aC _ _ _ 6;have y7:(wr.alloc (o_ #[.string x.kind,.int .i64 x.a,.int .i64 x.b,.int .i64 x.c,.int .u64 x.k,.string x.s,.string x.t,.slice x.ca x.chs.length x.cc,.slice x.sa x.sps.length x.sc] 39)).cell? ⟨wr.heap.size,7,none⟩=some (.slice x.ca x.chs.length x.cc):=aC _ _ _ 7;have y8:(wr.alloc (o_ #[.string x.kind,.int .i64 x.a,.int .i64 x.b,.int .i64 x.c,.int .u64 x.k,.string x.s,.string x.t,.slice x.ca x.chs.length x.cc,.slice x.sa x.sps.length x.sc] 39)).cell? ⟨wr.heap.size,8,none⟩=some (.slice x.sa x.sps.length x.sc):=aC _ _ _ 8;clear hbX HR;cases kb:(x.kind.toList==[98,101,103,105,110])
   case true=>
    cases hv:p.e.ses (sesX x) with
    | none=>
     have HBG:=hide (wB _ HRX.out.ek hslt hv);rw[HRX.out.eb] at HBG;have HPL:=hide (zAA kb hv);go_wp2_with fail;generalize wr.alloc (o_ #[.string x.kind,.int .i64 x.a,.int .i64 x.b,.int .i64 x.c,.int .u64 x.k,.string x.s,.string x.t,.slice x.ca x.chs.length x.cc,.slice x.sa x.sps.length x.sc] 39)=wx at *;refine HBG.out.mono ?_;rintro e w1 ⟨rfl,ha⟩;obtain⟨m',hA⟩:=HRX.out.after ha fun j _ h=>zNk h;obtain⟨z0,z1,z2,z3⟩:=hA.pm.cells _ hslt;have zf:=hA.pm.soft;have HRN:=hide (hA.begun hslt);clear ha hA HBG;go_wp2_with fail;exact⟨⟨k+1,_,_,_,by omega,by go_num,by rw[HPT.out,HPL.out];exact HRN.out⟩,by simp[intOf];omega⟩
    | some v=>
     have HBG:=hide (zDY _ HRX.out.ek hslt hv);rw[HRX.out.eb] at HBG;have HE7:Hid (errV 7=.iface 114 (.int .i64 7)):=rfl;rw[HE7.out] at HBG;have HPL:=hide (zAq kb hv);go_wp2_with fail;generalize wr.alloc (o_ #[.string x.kind,.int .i64 x.a,.int .i64 x.b,.int .i64 x.c,.int .u64 x.k,.string x.s,.string x.t,.slice x.ca x.chs.length x.cc,.slice x.sa x.sps.length x.sc] 39)=wx at *;refine HBG.out.mono ?_;rintro e w1 ⟨rfl,rfl⟩;go_wp2_with fail;exact⟨⟨k+1,_,_,_,by omega,by go_num,by rw[HPT.out,HPL.out];exact HRX.out⟩,by simp[intOf];omega⟩
   case false=>
    cases kc:(x.kind.toList==[99,111,109,109,105,116])
    case true=>
     cases hv:p.e.ses (sesX x) with
     | none=>
      have HDE:=hide (pC _ HRX.out.ek hslt hv);rw[HRX.out.eb] at HDE;have HE7:Hid (errV 7=.iface 114 (.int .i64 7)):=rfl;rw[HE7.out] at HDE;have HPL:=hide (zR kb kc hv);go_wp2_with fail;generalize wr.alloc (o_ #[.string x.kind,.int .i64 x.a,.int .i64 x.b,.int .i64 x.c,.int .u64 x.k,.string x.s,.string x.t,.slice x.ca x.chs.length x.cc,.slice x.sa x.sps.length x.sc] 39)=wx at *;refine HDE.out.mono ?_;rintro e w1 ⟨rfl,rfl⟩;go_wp2_with fail;exact⟨⟨k+1,_,_,_,by omega,by go_num,by rw[HPT.out,HPL.out];exact HRX.out⟩,by simp[intOf];omega⟩
     | some v=>
      have HDE:=hide (mT _ HRX.out.ek hslt hv);have hvo:=HOKK.out.ses _ v hv;have HCH:=hide (rF _ (HRX.out.ek.vw _ v hv) (by have:=hvo.ov.cn;omega));have HCM:Hid (∀ W,Below (wr.alloc (o_ #[.string x.kind,.int .i64 x.a,.int .i64 x.b,.int .i64 x.c,.int .u64 x.k,.string x.s,.string x.t,.slice x.ca x.chs.length x.cc,.slice x.sa x.sps.length x.sc] 39)).heap.size (wr.alloc (o_ #[.string x.kind,.int .i64 x.a,.int .i64 x.b,.int .i64 x.c,.int .u64 x.k,.string x.s,.string x.t,.slice x.ca x.chs.length x.cc,.slice x.sa x.sps.length x.sc] 39)) W->Calls p_ 20 #[.pointer (some ⟨m.eb,0,none⟩),.int .i64 (sesX x:Int)] W fun e w'=>e=.returned (.tuple #[.int .i64 ((comE p.e (sesX x)).1.1:Int),errV (comE p.e (sesX x)).1.2])/\ActE (wr.alloc (o_ #[.string x.kind,.int .i64 x.a,.int .i64 x.b,.int .i64 x.c,.int .u64 x.k,.string x.s,.string x.t,.slice x.ca x.chs.length x.cc,.slice x.sa x.sps.length x.sc] 39)) w' B m p.e (comE p.e (sesX x)).2):=fun W hb=>by
       refine(vX W (HRX.out.ek.on hb) HOKK.out hslt hcc).mono ?_;rintro e w' ⟨rfl,m',q1,q2,q3,q4⟩;exact⟨rfl,m',q1,q2,q3,(aG.on HRX.out.ek.blo hb).trans q4⟩
      rw[HRX.out.eb] at HDE HCM;have hcl:v.chs.length<=100:=by have:=hvo.ov.cn;omega
      by_cases h0:(comE p.e (sesX x)).1.2=0
      ·have HPL:=hide (zCe kb kc hv h0);have HLV:Hid (∀ j,(comE p.e (sesX x)).2.ses j≠none->p.e.ses j≠none/\j≠sesX x):=fun j=>zLg hv h0;rw[h0,aR] at HCM;obtain⟨i0,hi0,hz0,hz1,hz2⟩:=info_parts zG1;have hrd:((v.chs.length:Int)==0)=v.chs.isEmpty:=by
        cases v.chs with
        | nil=>rfl
        | cons c l=>simp;omega
       generalize v.chs.isEmpty=rd at *;have HKQ:Hid (∀ j,m0.Q j->p.e.ses j≠none->(comE p.e (sesX x)).2.ses j≠none):=fun j hj h=>zIn (HQX.out j hj) h;generalize (comE p.e (sesX x))=C at *;go_wp2_with fail;generalize wr.alloc (o_ #[.string x.kind,.int .i64 x.a,.int .i64 x.b,.int .i64 x.c,.int .u64 x.k,.string x.s,.string x.t,.slice x.ca x.chs.length x.cc,.slice x.sa x.sps.length x.sc] 39)=wx at *;refine HDE.out.mono ?_;rintro e w1 ⟨rfl,hw1⟩;rw[hw1];clear hw1 HDE;go_wp2_with fail;refine HCH.out.mono ?_;rintro e w2 ⟨cv,rfl,hoc,hb2⟩;obtain⟨ca,cc,rfl,_,_⟩:=pI hoc;have HC2:=hide (HCM.out w2 hb2);clear hoc hb2 HCH HCM;go_wp2_with fail;refine HC2.out.mono ?_;rintro e w3 ⟨rfl,ha⟩;obtain⟨m',hA⟩:=HRX.out.after ha HKQ.out;obtain⟨z0,z1,z2,z3⟩:=hA.pm.cells _ hslt;have zf:=hA.pm.soft;have HA:=hide hA;have hol:outs.length<=100:=by
        have:=congrArg List.length HRX.out.od;rw[List.length_map] at this;have:=HLN.out.1;omega
       have hLi:p.e.ses (sesX x)≠none:=by rw[hv];exact nofun
       have HT:Hid (∀ g gc w5,jI (((w3.setCell ⟨w.heap.size,sesX x*4,none⟩ (.int .i64 (C.1.1:Int))).setCell ⟨w.heap.size,sesX x*4+1,none⟩ (.bool rd)).alloc (.cells #[.int .i64 (C.1.1:Int),.bool rd,(cur (sesX x)).av,(cur (sesX x)).sv] 73)) w5 u5 g->w5.ownsRow w.heap.size 73 4 (.slice (some ⟨g,0,none⟩) (outs.length+1) gc) (outs.length+1) (outs.flatMap oF++[.int .i64 (C.1.1:Int),.bool rd,(cur (sesX x)).av,(cur (sesX x)).sv])->dP w w5 B m0 s0 w.heap.size (.slice (some ⟨g,0,none⟩) (outs.length+1) gc) (plyP p x) m' (setV cur (sesX x) ⟨{ (cur (sesX x)).d with at_:=C.1.1,reads:=rd },(cur (sesX x)).av,(cur (sesX x)).sv⟩) (outs++[⟨{ (cur (sesX x)).d with at_:=C.1.1,reads:=rd },(cur (sesX x)).av,(cur (sesX x)).sv⟩])):=fun g gc w5 hg ho=>by
        rw[HPL.out];exact hA.told hslt hLi HLV.out hg ho
       have hone:∀ u∈[i_ .i64 (C.1.1:Int),Value.bool rd,(cur (sesX x)).av,(cur (sesX x)).sv],u.oneCell'=true:=by
        obtain⟨r1,r2⟩:=hA.pm.rows _ hslt hLi;obtain⟨a1,c1,e1⟩:=iQ r1;obtain⟨a2,c2,e2⟩:=iQ r2;intro u hu;simp only[List.mem_cons,List.not_mem_nil,or_false] at hu;rcases hu with rfl|rfl|rfl|rfl
        ·rfl
        ·rfl
        ·rw[e1];rfl
        ·rw[e2];rfl
       have HONE:=hide hone;have q0:((w3.setCell ⟨w.heap.size,sesX x*4,none⟩ (.int .i64 (C.1.1:Int))).setCell ⟨w.heap.size,sesX x*4+1,none⟩ (.bool rd)).cell? ⟨w.heap.size,sesX x*4,none⟩=some (.int .i64 (C.1.1:Int)):=(t_ _ _ _ _ (by simp)).trans (u_ _ _ _ z0);have q1:((w3.setCell ⟨w.heap.size,sesX x*4,none⟩ (.int .i64 (C.1.1:Int))).setCell ⟨w.heap.size,sesX x*4+1,none⟩ (.bool rd)).cell? ⟨w.heap.size,sesX x*4+1,none⟩=some (.bool rd):=u_ _ _ _ ((t_ _ _ _ _ (by simp)).trans z1);have q2:((w3.setCell ⟨w.heap.size,sesX x*4,none⟩ (.int .i64 (C.1.1:Int))).setCell ⟨w.heap.size,sesX x*4+1,none⟩ (.bool rd)).cell? ⟨w.heap.size,sesX x*4+2,none⟩=some (cur (sesX x)).av:=(t_ _ _ _ _ (by simp)).trans ((t_ _ _ _ _ (by simp)).trans z2);have q3:((w3.setCell ⟨w.heap.size,sesX x*4,none⟩ (.int .i64 (C.1.1:Int))).setCell ⟨w.heap.size,sesX x*4+1,none⟩ (.bool rd)).cell? ⟨w.heap.size,sesX x*4+3,none⟩=some (cur (sesX x)).sv:=(t_ _ _ _ _ (by simp)).trans ((t_ _ _ _ _ (by simp)).trans z3);have hO5:((w3.setCell ⟨w.heap.size,sesX x*4,none⟩ (.int .i64 (C.1.1:Int))).setCell ⟨w.heap.size,sesX x*4+1,none⟩ (.bool rd)).ownsRow w.heap.size 73 4 u5 outs.length (outs.flatMap oF):=aI hA.pm.out fun j e=>by
        have hj:j≠w.heap.size:=fun e2=>by have:=hA.pm.ap 2 1 j e e2;omega
        exact(h_ _ _ _ _ hj).trans (h_ _ _ _ _ hj)
       have hbs:w.heap.size<=((w3.setCell ⟨w.heap.size,sesX x*4,none⟩ (.int .i64 (C.1.1:Int))).setCell ⟨w.heap.size,sesX x*4+1,none⟩ (.bool rd)).heap.size:=by have:=hA.pm.wlo;simp;omega
       have HO5:=hide hO5;clear ha hA HC2 hone hO5
       go_upto_region 24 with(fail)
       clear z0 z1 z2 z3 zf;generalize ((w3.setCell ⟨w.heap.size,sesX x*4,none⟩ (.int .i64 (C.1.1:Int))).setCell ⟨w.heap.size,sesX x*4+1,none⟩ (.bool rd))=X at *;have HNW:Hid (∀ j u,[i_ .i64 (C.1.1:Int),Value.bool rd,(cur (sesX x)).av,(cur (sesX x)).sv][j]?=some u->(X.alloc (o_ #[.int .i64 (C.1.1:Int),.bool rd,(cur (sesX x)).av,(cur (sesX x)).sv] 73)).cell? ((⟨X.heap.size,0,none⟩:Addr).add j)=some u):=World.news_of_block (cs:=#[i_ .i64 (C.1.1:Int),Value.bool rd,(cur (sesX x)).av,(cur (sesX x)).sv]) (t:=73) (fr:=(0,0)) (heap_alloc_new X _);generalize (cur (sesX x)).av=av at *;generalize (cur (sesX x)).sv=sv at *;go_wp2_with (at_builtin;refine wpList_append_lies _ rfl _ _ _ rfl w.heap.size 73 i0 _ 4 64 Tryz.underlying69 hi0 hz0 hz1 hz2 rfl (by omega) u5 outs.length (outs.flatMap oF) rfl (HO5.out.alloc _) ⟨X.heap.size,0,none⟩ 1 1 [i_ .i64 (C.1.1:Int),Value.bool rd,av,sv] rfl rfl HNW.out HONE.out (by omega) (by unfold maxLen;omega) (by omega) (by simp;omega) _ rfl ?_;intro g gc w5 ho5 hg5 hat5 hlt5)
       have HRN:=hide (HT.out g gc w5 ⟨hg5,hat5⟩ ho5);clear ho5 hg5 hat5 hlt5 HT;go_wp2_with fail;exact⟨⟨k+1,_,_,_,by omega,by go_num,by rw[HPT.out];exact HRN.out⟩,by simp[intOf];omega⟩
      ·have HPL:=hide (zAG kb kc hv h0);rw[aP h0] at HCM;have HLV:Hid (∀ j,(comE p.e (sesX x)).2.ses j≠none->p.e.ses j≠none):=fun j=>zKn;have HKQ:Hid (∀ j,m0.Q j->p.e.ses j≠none->(comE p.e (sesX x)).2.ses j≠none):=fun j hj h=>zIn (HQX.out j hj) h;generalize (comE p.e (sesX x))=C at *;go_wp2_with fail;generalize wr.alloc (o_ #[.string x.kind,.int .i64 x.a,.int .i64 x.b,.int .i64 x.c,.int .u64 x.k,.string x.s,.string x.t,.slice x.ca x.chs.length x.cc,.slice x.sa x.sps.length x.sc] 39)=wx at *;refine HDE.out.mono ?_;rintro e w1 ⟨rfl,hw1⟩;rw[hw1];clear hw1 HDE;go_wp2_with fail;refine HCH.out.mono ?_;rintro e w2 ⟨cv,rfl,hoc,hb2⟩;obtain⟨ca,cc,rfl,_,_⟩:=pI hoc;have HC2:=hide (HCM.out w2 hb2);clear hoc hb2 HCH HCM;go_wp2_with fail;refine HC2.out.mono ?_;rintro e w3 ⟨rfl,ha⟩;obtain⟨m',hA,_⟩:=HRX.out.eng ha HLV.out HKQ.out;have HRN:=hide hA;clear ha hA HC2;go_wp2_with fail;exact⟨⟨k+1,_,_,_,by omega,by go_num,by rw[HPT.out,HPL.out];exact HRN.out⟩,by simp[intOf];omega⟩
    case false=>
     cases ka:(x.kind.toList==[97,98,111,114,116])
     case true=>
      have HAB:=hide (yZ _ HRX.out.ek HOKK.out hslt hcc);rw[HRX.out.eb] at HAB;have HPL:=hide (zHL (p:=p) kb kc ka);go_wp2_with fail;generalize wr.alloc (o_ #[.string x.kind,.int .i64 x.a,.int .i64 x.b,.int .i64 x.c,.int .u64 x.k,.string x.s,.string x.t,.slice x.ca x.chs.length x.cc,.slice x.sa x.sps.length x.sc] 39)=wx at *;refine HAB.out.mono ?_;rintro e w3 ⟨rfl,ha⟩;obtain⟨m',hA,_⟩:=HRX.out.eng ha (fun j=>zFB) fun j hj h=>zNB (HQX.out j hj) h;have HRN:=hide hA;clear ha hA HAB;generalize errV (dS p.e (sesX x)).1=ev at *;go_wp2_with fail;exact⟨⟨k+1,_,_,_,by omega,by go_num,by rw[HPT.out,HPL.out];exact HRN.out⟩,by simp[intOf];omega⟩
     case false=>
      cases kv:(x.kind.toList==[118,97,99,117,117,109])
      case true=>
       have HAB:=hide (zC2 _ HRX.out.ek HOKK.out hcc);rw[HRX.out.eb] at HAB;have HPL:=hide (zGd (p:=p) kb kc ka kv);go_wp2_with fail;generalize wr.alloc (o_ #[.string x.kind,.int .i64 x.a,.int .i64 x.b,.int .i64 x.c,.int .u64 x.k,.string x.s,.string x.t,.slice x.ca x.chs.length x.cc,.slice x.sa x.sps.length x.sc] 39)=wx at *;refine HAB.out.mono ?_;rintro e w3 ⟨rfl,ha⟩;obtain⟨m',hA,_⟩:=HRX.out.eng ha (fun j hj=>hj) fun j _ h=>h;have HRN:=hide hA;clear ha hA HAB;go_wp2_with fail;exact⟨⟨k+1,_,_,_,by omega,by go_num,by rw[HPT.out,HPL.out];exact HRN.out⟩,by simp[intOf];omega⟩
      case false=>
       cases ks:(x.kind.toList==[115,97,118,101])
       case true=>
        have HAB:=hide (zKv _ HRX.out.ek HOKK.out);rw[HRX.out.eb] at HAB;have HPL:=hide (zKq (p:=p) kb kc ka kv ks);generalize errV (chkR p.e.x).1=ev at *;go_wp2_with fail;generalize wr.alloc (o_ #[.string x.kind,.int .i64 x.a,.int .i64 x.b,.int .i64 x.c,.int .u64 x.k,.string x.s,.string x.t,.slice x.ca x.chs.length x.cc,.slice x.sa x.sps.length x.sc] 39)=wx at *;refine HAB.out.mono ?_;rintro e w3 ⟨rfl,ha⟩;obtain⟨m',hA,_⟩:=HRX.out.eng ha (fun j hj=>hj) fun j _ h=>h;have HRN:=hide hA;clear ha hA HAB;go_wp2_with fail;exact⟨⟨k+1,_,_,_,by omega,by go_num,by rw[HPT.out,HPL.out];exact HRN.out⟩,by simp[intOf];omega⟩
       case false=>
        cases hv:p.e.ses (sesX x) with
        | none=>
         have HDE:=hide (pC _ HRX.out.ek hslt hv);rw[HRX.out.eb] at HDE;have HE7:Hid (errV 7=.iface 114 (.int .i64 7)):=rfl;rw[HE7.out] at HDE;have HPL:=hide (zB7 kb kc ka kv ks hv);go_wp2_with fail;generalize wr.alloc (o_ #[.string x.kind,.int .i64 x.a,.int .i64 x.b,.int .i64 x.c,.int .u64 x.k,.string x.s,.string x.t,.slice x.ca x.chs.length x.cc,.slice x.sa x.sps.length x.sc] 39)=wx at *;refine HDE.out.mono ?_;rintro e w1 ⟨rfl,rfl⟩;go_wp2_with fail;exact⟨⟨k+1,_,_,_,by omega,by go_num,by rw[HPT.out,HPL.out];exact HRX.out⟩,by simp[intOf];omega⟩
        | some v=>
         have HDE:=hide (mT _ HRX.out.ek hslt hv);rw[HRX.out.eb] at HDE;have HPL:=hide (zB8 kb kc ka kv ks hv);go_wp2_with fail;generalize wr.alloc (o_ #[.string x.kind,.int .i64 x.a,.int .i64 x.b,.int .i64 x.c,.int .u64 x.k,.string x.s,.string x.t,.slice x.ca x.chs.length x.cc,.slice x.sa x.sps.length x.sc] 39)=wx at *;refine HDE.out.mono ?_;rintro e w1 ⟨rfl,rfl⟩;have hLi:p.e.ses (sesX x)≠none:=by rw[hv];exact nofun
         obtain⟨z0,z1,z2,z3⟩:=HRX.out.pm.cells _ hslt;have zf:=HRX.out.pm.soft;have hpb:=HRX.out.pm.pblt;have hwl:=HRX.out.pm.wlo;have HOA:=hide (HRX.out.pm.rows _ hslt hLi).1;have hal:(cur (sesX x)).d.acts.length<=100:=by rw[HRX.out.cd _ hslt];exact(HLN.out.2 _).1
         have hsl:(cur (sesX x)).d.said.length<=100:=by rw[HRX.out.cd _ hslt];exact(HLN.out.2 _).2
         have hbA:=(a_ w1 (o_ #[.string x.kind,.int .i64 x.a,.int .i64 x.b,.int .i64 x.c,.int .u64 x.k,.string x.s,.string x.t,.slice x.ca x.chs.length x.cc,.slice x.sa x.sps.length x.sc] 39)).drew;have av1:some w.heap.size≠(cur (sesX x)).av.ownBlock:=fun e=>by have:=HRX.out.pm.ap 1 (2*sesX x+3) w.heap.size rfl (fP hslt hLi e.symm);omega
         have av2:some wr.heap.size≠(cur (sesX x)).av.ownBlock:=fun e=>HNB.out (2*sesX x+3) (fP hslt hLi e.symm);have nbp:wr.heap.size≠w.heap.size:=fun e=>HNB.out 1 e;have HA1:Hid (∀ g gc w5,jI (w1.alloc (o_ #[.string x.kind,.int .i64 x.a,.int .i64 x.b,.int .i64 x.c,.int .u64 x.k,.string x.s,.string x.t,.slice x.ca x.chs.length x.cc,.slice x.sa x.sps.length x.sc] 39)).drew w5 (cur (sesX x)).av g->w5.ownsRow w.heap.size 39 9 (.slice (some ⟨g,0,none⟩) ((cur (sesX x)).d.acts.length+1) gc) ((cur (sesX x)).d.acts.length+1) ((cur (sesX x)).d.acts.flatMap lO++lO x)->dP w (w5.setCell ⟨w.heap.size,sesX x*4+2,none⟩ (.slice (some ⟨g,0,none⟩) ((cur (sesX x)).d.acts.length+1) gc)) B m0 s0 w.heap.size u5 ⟨p.e,setP p.cur (sesX x) { p.cur (sesX x) with acts:=(p.cur (sesX x)).acts++[x] },p.out⟩ m (setV cur (sesX x) ⟨{ (cur (sesX x)).d with acts:=(cur (sesX x)).d.acts++[x] },.slice (some ⟨g,0,none⟩) ((cur (sesX x)).d.acts.length+1) gc,(cur (sesX x)).sv⟩) outs/\(w5.setCell ⟨w.heap.size,sesX x*4+2,none⟩ (.slice (some ⟨g,0,none⟩) ((cur (sesX x)).d.acts.length+1) gc)).heap[wr.heap.size]?=w1.heap[wr.heap.size]?):=fun g gc w5 hg ho=>by
          refine⟨HRX.out.acts hslt hLi hbA hg ho,?_⟩;exact((h_ _ _ _ _ nbp).trans (hg.far (Nat.lt_of_lt_of_le hwx hbA.size) fun e=>av2 e.symm).1).trans (hbA.block _ hwx)
         have HNW:Hid (∀ j u,(lO x)[j]?=some u->(w1.alloc (o_ #[.string x.kind,.int .i64 x.a,.int .i64 x.b,.int .i64 x.c,.int .u64 x.k,.string x.s,.string x.t,.slice x.ca x.chs.length x.cc,.slice x.sa x.sps.length x.sc] 39)).drew.cell? ((⟨w1.heap.size,0,none⟩:Addr).add j)=some u):=World.news_of_block (cs:=#[v_ x.kind,i_ .i64 x.a,i_ .i64 x.b,i_ .i64 x.c,i_ .u64 x.k,v_ x.s,v_ x.t,Value.slice x.ca x.chs.length x.cc,Value.slice x.sa x.sps.length x.sc]) (t:=39) (fr:=(0,0)) (heap_alloc_new w1 _);obtain⟨i0,hi0,hz0,hz1,hz2⟩:=info_parts zK1;have hfr:∀ o,(w1.alloc o).frozen? ⟨w.heap.size,sesX x*4+2,none⟩=false:=fun o=>aE (a_ _ _) hpb (zf _);have hsv:(cur (sesX x)).sv=(cur (sesX x)).sv:=rfl;clear hsv HDE;generalize hav:(cur (sesX x)).av=av at *;generalize hdd:(cur (sesX x)).d.acts=da at *
         go_upto_region 11 with(fail)
         go_cut [] (fun W=>∃ g gc,dP w W B m0 s0 w.heap.size u5 ⟨p.e,setP p.cur (sesX x) { p.cur (sesX x) with acts:=(p.cur (sesX x)).acts++[x] },p.out⟩ m (setV cur (sesX x) ⟨{ (cur (sesX x)).d with acts:=da++[x] },.slice (some ⟨g,0,none⟩) (da.length+1) gc,(cur (sesX x)).sv⟩) outs/\W.heap[wr.heap.size]?=w1.heap[wr.heap.size]?)
         case first=>
          go_region_law ((refine step_append_lies _ (by rfl) _ _ _ (by rfl) w.heap.size 39 i0 _ 9 128 Tryz.underlying22 hi0 hz0 hz1 hz2 rfl (by omega) av _ _ (by rfl) ((HOA.out.alloc _).drew) ⟨w1.heap.size,0,none⟩ 1 1 (lO x) (by rfl) (by rfl) HNW.out (zHw x) (by omega) (by unfold maxLen;omega) (by omega) (by simp;omega) (w1.heap.size+1) (by simp) ?_;intro g gc w5 ho5 hg5 hat5 hlt5;have k2:w5.cell? ⟨w.heap.size,sesX x*4+2,none⟩=some av:=hg5.cell (aA (a_ _ _).drew z2) av1;have k3:w5.frozen? ⟨w.heap.size,sesX x*4+2,none⟩=false:=(hg5.frozen_far _ (by simp;omega) av1).trans (hfr _);have HQ1:=hide (HA1.out g gc w5 ⟨hg5,by simpa using hat5⟩ ho5);clear ho5 hg5 hat5 hlt5))
          all_goals (go_wp2_with fail;go_meet;exact⟨g,gc,HQ1.out⟩)
         case rest=>
          obtain⟨g,gc,hR1,hbx⟩:=hcut;have w0c:=(b_ hbx).trans y0;have w1c:=(b_ hbx).trans y1;have w2c:=(b_ hbx).trans y2;have w3c:=(b_ hbx).trans y3;have w4c:=(b_ hbx).trans y4;have w5c:=(b_ hbx).trans y5;have w6c:=(b_ hbx).trans y6;have w7c:=(b_ hbx).trans y7;have w8c:=(b_ hbx).trans y8;obtain⟨_,_,_,z3c⟩:=hR1.pm.cells _ hslt;rw[cJ] at z3c;dsimp only at z3c;have hxs:bY wc.drew x.sa x.sps:=HHS.out _ fun j hj hn=>((r_ _ wc).drew.block j (Nat.lt_of_lt_of_le hj hR1.pm.wlo)).trans (hR1.st.far j hj hn).1;have hla2:∀ W,Below B wc.drew W->Laid W:=fun W hW=>HLA.out W ((hR1.st.bel.trans ((r_ B wc).drew)).trans hW);have htd:=zMp x (hR1.ek.on (r_ _ wc).drew) HOKK.out hv hslt (by show p.e.c<=190;omega) hla2 HLX.out hxs;have HTD:Hid (Calls p_ 39 #[.pointer (some ⟨(m.W (sesX x)).1,0,none⟩),.agg #[v_ x.kind,i_ .i64 x.a,i_ .i64 x.b,i_ .i64 x.c,i_ .u64 x.k,v_ x.s,v_ x.t,Value.slice x.ca x.chs.length x.cc,Value.slice x.sa x.sps.length x.sc]] wc.drew fun e w'=>e=.returned (.string (fY v.P v.chs v.rds x).1)/\ActE wc w' B m p.e (actE p.e (sesX x) v x)):=by
           refine htd.mono ?_;rintro e w' ⟨he,m',q1,q2,q3,q4⟩;exact⟨he,m',q1,q2,q3,(aG.on hR1.ek.blo (r_ _ wc).drew).trans q4⟩
          have HA2:Hid (∀ w6,ActE wc w6 B m p.e (actE p.e (sesX x) v x)->w6.cell? ⟨w.heap.size,sesX x*4+3,none⟩=some (cur (sesX x)).sv/\(∀ j,w6.frozen? ⟨w.heap.size,j,none⟩=false)/\w.heap.size<w6.heap.size/\zHb w6 w.heap.size (cur (sesX x)).sv (cur (sesX x)).d.said/\some w.heap.size≠(cur (sesX x)).sv.ownBlock/\∀ g gc w7,jI (w6.alloc (.cells #[.string (fY v.P v.chs v.rds x).1] 9)) w7 (cur (sesX x)).sv g->w7.ownsRow w.heap.size 9 1 (.slice (some ⟨g,0,none⟩) ((cur (sesX x)).d.said.length+1) gc) ((cur (sesX x)).d.said.length+1) ((cur (sesX x)).d.said.map v_++[.string (fY v.P v.chs v.rds x).1])->∃ m' cur',dP w (w7.setCell ⟨w.heap.size,sesX x*4+3,none⟩ (.slice (some ⟨g,0,none⟩) ((cur (sesX x)).d.said.length+1) gc)) B m0 s0 w.heap.size u5 (plyP p x) m' cur' outs):=fun w6 ha=>by
           obtain⟨m',hA⟩:=hR1.after ha fun j _ h=>zNk h;obtain⟨_,_,_,c3⟩:=hA.pm.cells _ hslt;have hr:=(hA.pm.rows _ hslt hLi).2;have hap:some w.heap.size≠(cur (sesX x)).sv.ownBlock:=fun e=>by
            have:=hA.pm.ap 1 (2*sesX x+1+3) w.heap.size rfl (gH hslt hLi (by rw[cJ];exact e.symm));omega
           rw[cJ] at c3 hr;refine⟨c3,hA.pm.soft,hA.pm.pblt,hr,hap,fun g2 gc2 w7 hg7 ho7=>?_⟩;have hs:=hA.said (w2:=w7) (W:=w6.alloc (.cells #[.string (fY v.P v.chs v.rds x).1] 9)) (g:=g2) (t:=(fY v.P v.chs v.rds x).1) (cap:=gc2) hslt hLi (fun j=>zKI hv) (a_ w6 _) (by rw[cJ];exact hg7) (by rw[cJ];exact ho7);rw[cJ] at hs;have e2:plyP p x=⟨actE p.e (sesX x) v x,setP (setP p.cur (sesX x) { p.cur (sesX x) with acts:=(p.cur (sesX x)).acts++[x] }) (sesX x) { setP p.cur (sesX x) { p.cur (sesX x) with acts:=(p.cur (sesX x)).acts++[x] } (sesX x) with said:=(setP p.cur (sesX x) { p.cur (sesX x) with acts:=(p.cur (sesX x)).acts++[x] } (sesX x)).said++[(fY v.P v.chs v.rds x).1] },p.out⟩:=by
            rw[HPL.out,kN];congr 1;funext j;by_cases e:j=sesX x
            ·subst e;rw[kN,kN]
            ·rw[iY _ e,iY _ e,iY _ e]
           rw[e2];exact⟨m',_,hs⟩
          obtain⟨i1,hi1,hy0,hy1,hy2⟩:=info_parts wE;clear hR1 hxs hla2 htd HA1 HRX HOA HNW HHS HNB hbx y0 y1 y2 y3 y4 y5 y6 y7 y8 z0 z1 z2 z3 zf hfr av1 av2 x0 x1 x2 x3 x4 x5 x6 x7 x8 hbA;generalize (fY v.P v.chs v.rds x).1=tx at *;generalize hsv:(cur (sesX x)).sv=sv at *;generalize hsd:(cur (sesX x)).d.said=sd at *;go_wp2_with fail
          go_region_law (first
           | (go_simp;go_at_call 39;refine HTD.out.mono ?_;rintro e w6 ⟨rfl,ha⟩;obtain⟨q3,qf,qp,qo,qs,qR⟩:=HA2.out w6 ha;have HO6:=hide qo;have HQR:=hide qR;clear ha qo qR)
           | (refine step_append_lies _ (by rfl) _ _ _ (by rfl) w.heap.size 9 i1 _ 1 16 Tryz.underlying71 hi1 hy0 hy1 hy2 rfl (by omega) sv _ _ (by rfl) (HO6.out.alloc _) ⟨w6.heap.size,0,none⟩ 1 1 [.string tx] (by rfl) (by rfl) (World.news_of_block (cs:=#[.string tx]) (t:=9) (fr:=(0,0)) (heap_alloc_new w6 _)) (by simp[Value.oneCell']) (by omega) (by unfold maxLen;omega) (by omega) (by simp;omega) (w6.heap.size+1) (by simp) ?_;intro g2 gc2 w7 ho7 hg7 hat7 hlt7;have k2:w7.cell? ⟨w.heap.size,sesX x*4+3,none⟩=some sv:=hg7.cell (aA (a_ _ _) q3) qs;have k3:w7.frozen? ⟨w.heap.size,sesX x*4+3,none⟩=false:=(hg7.frozen_far _ (by simp;omega) qs).trans (aE (a_ _ _) qp (qf _));have HQ2:=hide (HQR.out g2 gc2 w7 ⟨hg7,by simpa using hat7⟩ ho7);clear ho7 hg7 hat7 hlt7))
          all_goals
           obtain⟨m',cur',hRN⟩:=HQ2.out;have HRN:=hide hRN;clear hRN HQ2;go_wp2_with fail;exact⟨⟨k+1,m',cur',outs,by omega,by go_num,by rw[HPT.out];exact HRN.out⟩,by simp[intOf];omega⟩
  ·have ek:k=l.length:=by omega
   subst ek;rw[List.take_length] at HR;have hlt':¬(l.length:Int)<(l.length:Int):=by omega
   go_wp2;go_ret;exact⟨_,rfl,_,_,_,_,HR.out⟩
end
section
open Go.RowKit Go.Joins
structure Ok2 (P:Rws) (chs:List Chg) (rds:Rws):Prop where
 ov:OkV P chs rds
 oq:OkQ P chs
section
variable {P:Rws} {chs:List Chg} {rds:Rws}
theorem Ok2.alter (h:Ok2 P chs rds) (c:Chg):Ok2 P (bG chs c) rds:=⟨xQ h.ov lD,h.oq.alter c⟩
theorem Ok2.reads (h:Ok2 P chs rds) {r:Rws} (hr:r.length<=40):Ok2 P chs r:=⟨{ h.ov with rn:=hr },h.oq⟩
theorem Ok2.read (h:Ok2 P chs rds) (s:ByteArray×ByteArray):Ok2 P chs (gX rds s):=h.reads (pZ h.ov.rn)
theorem Ok2.get (h:Ok2 P chs rds) (key:ByteArray):Ok2 P chs (getL chs rds key):=h.reads (zDB h.ov.rn)
theorem Ok2.scan (h:Ok2 P chs rds) (L:Rws) (s:ByteArray×ByteArray) (m:Int):Ok2 P chs (eP L rds s m):=h.reads (zHk h.ov.rn)
theorem Ok2.find (h:Ok2 P chs rds) (name:ByteArray):Ok2 P chs (bC chs rds name):=by
 unfold bC;split
 ·exact h.get _
 ·exact h
theorem Ok2.first (h:Ok2 P chs rds) (L:Rws) (s:ByteArray×ByteArray):Ok2 P chs (rR L rds s):=h.read _
theorem Ok2.putQ (h:Ok2 P chs rds) (name:ByteArray) (x y:Int) (d:ByteArray):Ok2 P (qL chs name x y d) rds:=by
 unfold qL;split
 ·exact h.alter _
 ·exact h
theorem Ok2.putM (h:Ok2 P chs rds) (name:ByteArray) (k x y:Int) (d:ByteArray):Ok2 P (nA chs name k x y d) rds:=by
 unfold nA;split
 ·exact h.alter _
 ·exact h
theorem Ok2.add (h:Ok2 P chs rds) (name:ByteArray) (x y:Int) (d body:ByteArray) (u:Int):Ok2 P (addQ chs name x y d body u).2.2 rds:=by
 unfold addQ;split
 ·exact h
 ·split
  ·exact(h.putM ..).putQ ..
  ·exact h.putM ..
theorem Ok2.create (h:Ok2 P chs rds) (name:ByteArray) (tries:Int) (dead:ByteArray):Ok2 P (fD P chs rds name tries dead).2.1 (fD P chs rds name tries dead).2.2:=by
 unfold fD;split
 ·split
  ·exact h.find _
  ·split
   ·exact(h.find _).putQ ..
   ·split
    ·exact((h.find _).find _).putQ ..
    ·exact(h.find _).find _
 ·exact h.find _
theorem Ok2.send (h:Ok2 P chs rds) (name body:ByteArray) (u:Int):Ok2 P (fN P chs rds name body u).2.2.1 (fN P chs rds name body u).2.2.2:=by
 unfold fN;split
 ·split
  ·split
   ·exact(h.find _).add ..
   ·exact h.find _
  ·exact h.find _
 ·exact h.find _
theorem Ok2.held (h:Ok2 P chs rds) (name:ByteArray) (n tries:Int):Ok2 P chs (dQ P chs rds name n tries).2:=by
 unfold dQ;split
 ·split
  ·exact h.find _
  ·exact(h.find _).get _
 ·exact h.find _
theorem Ok2.ack (h:Ok2 P chs rds) (name:ByteArray) (n tries:Int):Ok2 P (ackQ P chs rds name n tries).2.1 (ackQ P chs rds name n tries).2.2:=by
 unfold ackQ;split
 ·exact(h.held ..).alter _
 ·exact h.held ..
theorem Ok2.wait (h:Ok2 P chs rds) (name:ByteArray) (n tries u:Int):Ok2 P (iZ P chs rds name n tries u).2.1 (iZ P chs rds name n tries u).2.2:=by
 unfold iZ;split
 ·split
  ·exact(h.held ..).putM ..
  ·exact h.held ..
 ·exact h.held ..
theorem Ok2.bury (h:Ok2 P chs rds) (key dead body:ByteArray):Ok2 P (iH P chs rds key dead body).2.1 (iH P chs rds key dead body).2.2:=by
 unfold iH;split
 ·split
  ·exact h.alter _
  ·split
   ·exact((h.alter _).find _).add ..
   ·exact(h.alter _).find _
 ·exact h.alter _
end
theorem Ok2.take {P:Rws} (name:ByteArray) (tries:Int) (dead:ByteArray) (now u:Int):∀ (k:Nat) (chs:List Chg) (rds:Rws) (at_:ByteArray),Ok2 P chs rds->Ok2 P (eO P name tries dead now u k chs rds at_).2.1 (eO P name tries dead now u k chs rds at_).2.2
 | 0,_,_,_,h=>h
 | k+1,chs,rds,at_,h=>by
  have ih:=Ok2.take (P:=P) name tries dead now u k;unfold eO;dsimp only;split
  ·split
   ·split
    ·exact ih _ _ _ (h.first ..)
    ·split
     ·exact(h.first ..).putM ..
     ·split
      ·exact ih _ _ _ ((h.first ..).bury ..)
      ·exact(h.first ..).bury ..
   ·exact h.first ..
  ·exact h.first ..
section
variable {P:Rws} {chs:List Chg} {rds:Rws}
theorem Ok2.receive (h:Ok2 P chs rds) (name:ByteArray) (now long:Int):Ok2 P (dK P chs rds name now long).2.1 (dK P chs rds name now long).2.2:=by
 unfold dK;split
 ·split
  ·have ht:=Ok2.take (P:=P) name (aN P chs rds name).2.1 (aN P chs rds name).2.2.1 now (now+long) 1000001 chs (bC chs rds name) (aZ name) (h.find _);split
   ·exact ht
   ·exact⟨{ h.ov with rn:=ht.ov.rn },h.oq⟩
  ·exact h.find _
 ·exact h.find _
theorem Ok2.messages (h:Ok2 P chs rds) (name:ByteArray):Ok2 P chs (cY P chs rds name).2.2:=by
 unfold cY;split
 ·split
  ·split
   ·dsimp only;exact(h.find _).scan _ _ _
   ·dsimp only;exact(h.find _).scan _ _ _
  ·dsimp only;exact(h.find _).scan _ _ _
 ·exact h.find _
theorem Ok2.told (h:Ok2 P chs rds) (x:ActL):Ok2 P (fY P chs rds x).2.1 (fY P chs rds x).2.2:=by
 unfold fY;split
 ·exact h.create ..
 ·split
  ·exact h.send ..
  ·split
   ·exact h.receive ..
   ·split
    ·exact h.ack ..
    ·split
     ·exact h.wait ..
     ·split
      ·exact h.alter _
      ·split
       ·exact h.alter _
       ·split
        ·exact h.get _
        ·split
         ·exact h.messages _
         ·exact h.scan ..
end
structure Fit (s:ESt) (n:Nat):Prop where
 ok:EOk s
 s4:S4 s
 left:s.x.d.left=-1
 len:s.x.d.now.length=n
end
section
open Go.RowKit Go.Joins Go.Shelf
attribute [local go_sem ↓] Go.wp_at_zero Go.wp_at_succ
theorem zFT {w W:World} {ao:Option Addr} {l:List Chg} (h:bW w ao l) (hk:∀ k,k<w.heap.size->W.heap[k]?=w.heap[k]?):bW W ao l:=by
 rcases h with h|⟨b,off,e,hc⟩
 ·exact .inl h
 ·refine .inr ⟨b,off,e,fun i hi=>?_⟩;obtain⟨q0,q1,q2⟩:=hc i hi;have hb:=hk b (World.block_lt_of_cell? w _ q0);exact⟨(b_ (a:=⟨b,_,none⟩) hb).trans q0,(b_ (a:=⟨b,_,none⟩) hb).trans q1,(b_ (a:=⟨b,_,none⟩) hb).trans q2⟩
theorem zGY {w W:World} {ao:Option Addr} {l:Rws} (h:bY w ao l) (hk:∀ k,k<w.heap.size->W.heap[k]?=w.heap[k]?):bY W ao l:=by
 rcases h with h|⟨b,off,e,hc⟩
 ·exact .inl h
 ·refine .inr ⟨b,off,e,fun i hi=>?_⟩;obtain⟨q0,q1⟩:=hc i hi;have hb:=hk b (World.block_lt_of_cell? w _ q0);exact⟨(b_ (a:=⟨b,_,none⟩) hb).trans q0,(b_ (a:=⟨b,_,none⟩) hb).trans q1⟩
theorem zFH {w W:World} {ao:Option Addr} {l:List ActL} (h:iM w ao l) (hk:∀ k,k<w.heap.size->W.heap[k]?=w.heap[k]?):iM W ao l:=by
 rcases h with h|⟨b,off,e,hc⟩
 ·exact .inl h
 ·refine .inr ⟨b,off,e,fun i hi=>?_⟩;have q:=hc i hi;have hb:=hk b (World.block_lt_of_cell? w _ q.kind);exact⟨(b_ (a:=⟨b,_,none⟩) hb).trans q.kind,(b_ (a:=⟨b,_,none⟩) hb).trans q.a,(b_ (a:=⟨b,_,none⟩) hb).trans q.b,(b_ (a:=⟨b,_,none⟩) hb).trans q.c,(b_ (a:=⟨b,_,none⟩) hb).trans q.k,(b_ (a:=⟨b,_,none⟩) hb).trans q.s,(b_ (a:=⟨b,_,none⟩) hb).trans q.t,(b_ (a:=⟨b,_,none⟩) hb).trans q.cl,(b_ (a:=⟨b,_,none⟩) hb).trans q.sl,zFT q.hc hk,zGY q.hs hk,q.ns,q.ai⟩
theorem zBU {w:World} {ao:Option Addr} {l:List ActL} (h:iM w ao l) {x:ActL} (hx:x∈l):∃ b off,vI w b off x:=by
 obtain⟨i,hi,rfl⟩:=List.getElem_of_mem hx;rcases h with h|⟨b,off,_,hc⟩
 ·rw[h] at hi;simp at hi
 ·exact⟨b,_,hc i hi⟩
theorem zIQ {w:World} {ao:Option Addr} {l:List ActL} {n:Nat} (h:iM w ao l) (hl:gT l n=true):l.length<=n/\∀ x∈l,fT x:=by
 simp only[gT,Bool.and_eq_true,decide_eq_true_eq,List.all_eq_true] at hl;refine⟨hl.1,fun x hx=>?_⟩;have h2:=hl.2 x hx;simp only[fE,Bool.and_eq_true,decide_eq_true_eq] at h2;obtain⟨b,off,ha⟩:=zBU h hx;exact⟨h2.1.1.1,h2.1.1.2,ha.ai⟩
structure RunE (w0 w:World) (B:Nat) (m:EMem) (s:ESt) (n:Nat):Prop where
 ek:EK w B m s
 fit:Fit s n
 bel:Below w0.heap.size w0 w
 lo:w0.heap.size<=B
 la:Laid w0
section
variable {w0 w w':World} {B n:Nat} {m:EMem} {s s':ESt}
theorem zEi (k:Nat) (w0 w:World) (h1:54<=k) (h2:k<=200) (hL:Laid w0) (hb:Below w0.heap.size w0 w):Calls p_ 15 #[.int .i64 (k:Int)] w fun e w'=>∃ db eb,e=.returned (.tuple #[.pointer (some ⟨db,0,none⟩),.pointer (some ⟨eb,0,none⟩),.bool true])/\∃ m s,RunE w0 w' w.heap.size m s k/\m.eb=eb/\m.db=db/\zDq s k:=by
 refine(vC k w h1 h2).mono ?_;rintro e w' ⟨db,eb,rfl,hst⟩;obtain⟨m,s,hek,he,hd,fr⟩:=hst.ex;exact⟨db,eb,rfl,m,s,⟨hek,⟨fr.ok,hek.s4,fr.left,fr.len⟩,aB hb (n_ _) hst.bel,hb.size,hL⟩,he,hd,fr⟩
end
end
section
open Go.RowKit Go.Joins Go.Shelf
theorem zNF {s:ESt} (h:EOk s):(aS s.x.rows).length<=40:=by unfold aS;rw[List.length_map];exact h.few
end
section
open Go.RowKit Go.Joins
structure xH (s:ESt) (n:Nat):Prop where
 ok:EOk s
 s4:S4 s
 len:s.x.d.now.length=n
def zNX (s:ESt) (x:ActL) (r:List Chg):Prop:=r=s.x.rows∨((x.kind.toList==kZ)=true/\∃ v,s.ses (sesX x)=some v/\r=aK s.x.rows v.chs)
def zHT (s s6:ESt) (n:Nat) (x:ActL):Prop:=s6.c<=s.c+1/\(xH s6 n∨(s6.x.d.down=true/\rN s6.x.d n (zNX s x)))
theorem xH.ended {s:ESt} {n:Nat} (h:xH s n) {i:Nat} (hi:i<4):xH (endE s i) n:=⟨h.ok.ended h.s4 i,h.s4.set hi none,h.len⟩
theorem xH.up {s:ESt} {n:Nat} (h:xH s n):s.x.d.down=false:=h.ok.g.down
theorem xH.com {s:ESt} {n:Nat} (h:xH s n) {x:ActL} (hk:(x.kind.toList==kZ)=true):zHT s (comE s (sesX x)).2 n x:=by
 have hi:=zFf x;unfold zHT comE
 cases hv:s.ses (sesX x) with
 | none=>exact⟨Nat.le_succ _,.inl h⟩
 | some v=>
  dsimp only;split
  ·exact⟨Nat.le_succ _,.inl (h.ended hi)⟩
  ·split
   ·exact⟨Nat.le_succ _,.inl (h.ended hi)⟩
   ·obtain⟨hlen,hcc⟩:=h.ok.g.commit v.chs;split
    ·rename_i hne;refine⟨Nat.le_succ _,?_⟩;rcases hcc with⟨a,_⟩|⟨_,_,c⟩|⟨_,_,c⟩
     ·exact absurd a hne
     ·left;have hx:({ s with x:=(comR s.x v.chs).2 }:ESt)={ s with x:=s.x }:=by rw[c]
      rw[hx];exact⟨h.ok.store h.ok.g rfl,h.s4,h.len⟩
     ·right;have c2:=h.len▸c;exact⟨c2.1,c2.mono fun r hr=>hr.elim .inl fun e=>.inr ⟨hk,v,hv,e⟩⟩
    ·rename_i hz;have hz':(comR s.x v.chs).1=0:=by simpa using hz
     have hf:xH (addE s v.chs) n:=⟨h.ok.add hz',h.s4,hlen.trans h.len⟩;exact⟨n_ _,.inl (hf.ended hi)⟩
theorem xH.ply {p:PSt} {n:Nat} (h:xH p.e n) (x:ActL):zHT p.e (plyP p x).e n x:=by
 have hi:=zFf x;unfold plyP;dsimp only;split
 ·split
  ·exact⟨Nat.le_succ _,.inl ⟨h.ok.begin _,h.s4.set hi _,h.len⟩⟩
  ·exact⟨Nat.le_succ _,.inl h⟩
 ·split
  ·rename_i hk;split
   ·exact⟨Nat.le_succ _,.inl h⟩
   ·split
    ·exact h.com hk
    ·exact h.com hk
  ·split
   ·refine⟨Nat.le_succ_of_le ?_,.inl ?_⟩
    ·show(dS p.e (sesX x)).2.c<=p.e.c;unfold dS
     cases p.e.ses (sesX x) with
     | none=>exact n_ _
     | some v=>exact n_ _
    ·show xH (dS p.e (sesX x)).2 n;unfold dS
     cases p.e.ses (sesX x) with
     | none=>exact h
     | some v=>exact h.ended hi
   ·split
    ·exact⟨n_ _,.inl ⟨h.ok.vac h.s4,h.s4,h.len⟩⟩
    ·split
     ·refine⟨Nat.le_succ _,?_⟩;obtain⟨k1,k2,k3⟩:=h.ok.g.chk;rcases k3 with⟨a,_⟩|⟨_,b⟩
      ·exact .inl ⟨h.ok.chk a,h.s4,k1.trans h.len⟩
      ·right;have b2:=h.len▸b;exact⟨b2.1,b2.mono fun r hr=>.inl hr⟩
     ·split
      ·exact⟨Nat.le_succ _,.inl h⟩
      ·rename_i v hv;have ho:=h.ok.ses _ v hv;have h2:=Ok2.told ⟨ho.ov,ho.oq⟩ x;exact⟨Nat.le_succ _,.inl ⟨h.ok.view hv h2.ov h2.oq,h.s4.set hi _,h.len⟩⟩
structure tG (w:World) (N:Nat) (T:Nat->Prop) (v:Value) (l:List (ByteArray×ByteArray)):Prop where
 own:ownP w N v l
 ap:∀ k,v.ownBlock=some k->¬T k
theorem tG.step {w w':World} {B N:Nat} {T T':Nat->Prop} {v:Value} {l:List (ByteArray×ByteArray)} (h:tG w N T v l) (hs:aG w w' B T T'):tG w' N T' v l:=
 ⟨aI h.own fun k e=>(hs.far k (l_ h.own k e).2 (h.ap k e)).1,fun k e=>(hs.far k (l_ h.own k e).2 (h.ap k e)).2⟩
theorem tG.on {w w':World} {N:Nat} {T:Nat->Prop} {v:Value} {l:List (ByteArray×ByteArray)} (h:tG w N T v l) (hb:Below w.heap.size w w'):tG w' N T v l:=⟨bQ h.own hb,h.ap⟩
theorem tG.less {w:World} {N:Nat} {T T':Nat->Prop} {v:Value} {l:List (ByteArray×ByteArray)} (h:tG w N T v l) (hs:∀ k,T' k->T k):tG w N T' v l:=⟨h.own,fun k e e2=>h.ap k e (hs k e2)⟩
theorem tG.form {w:World} {N:Nat} {T:Nat->Prop} {v:Value} {l:List (ByteArray×ByteArray)} (h:tG w N T v l):∃ ao cap,v=.slice ao l.length cap/\bY w ao l/\(ao=none->cap=0/\l=[]):=by
 rcases aX h.own with⟨e,e2⟩|⟨g,cap,e,_⟩
 ·exact⟨none,0,by rw[e,e2],.inl (List.length_eq_zero_iff.1 e2),fun _=>⟨rfl,List.length_eq_zero_iff.1 e2⟩⟩
 ·obtain⟨ao,cap',e',hh⟩:=lV h.own;rw[e] at e';cases e';exact⟨_,_,e,hh,fun e=>by cases e⟩
end
end Go.Proofs.YtnboipekkahmnaaGreatDoor
