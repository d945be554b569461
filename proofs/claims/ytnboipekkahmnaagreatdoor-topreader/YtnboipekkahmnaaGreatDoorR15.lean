import Derived.Test.YtnboipekkahmnaaGreatDoorR14
set_option maxHeartbeats 8000000
set_option maxRecDepth 100000
namespace Go.Proofs.YtnboipekkahmnaaGreatDoor
open Obj renaming cells→o_
open World renaming cell?_of_block→b_,cell?_setCell_other→t_,cell?_setCell_same→u_,ownsRow.lt→l_
open Go.RowKit.Below renaming heap_setCell→h_,refl→r_
open Nat renaming le_refl→n_
open Tryz renaming prog→p_
open Value renaming string→v_,int→i_
open Go.Joins renaming below_alloc1→a_
section
open Go.RowKit Go.Joins
def numK (k:ByteArray):Int:=(Lib.atoi (k.data.toList.drop (k.size-6))).getD 0
theorem zDT (q:ByteArray) {n:Nat} (hn:n<=999999):numK (msgB q n)=n:=by
 have ql:q.data.toList.length=q.size:=by rw[Array.length_toList];rfl
 unfold numK;rw[pS,mN,show q.size+9-6=q.size+3 by omega,<-ql];have d:(109::47::(q.data.toList++47::six n)).drop (q.data.toList.length+3)=six n:=by
  rw[List.drop_succ_cons,List.drop_succ_cons,List.drop_append];simp
 rw[d,zDN n hn];rfl
def kT (L rds:Rws) (s:ByteArray×ByteArray):Nat:=if cZ rds (rdS L s 1)=0 then (match L with|[]=>12|_::_=>0) else cZ rds (rdS L s 1)
def eE (L rds:Rws) (s:ByteArray×ByteArray):ByteArray×ByteArray:=if cZ rds (rdS L s 1)=0 then (match L with|[]=>(⟨#[]⟩,⟨#[]⟩)|r::_=>r) else (⟨#[]⟩,⟨#[]⟩)
def rR (L rds:Rws) (s:ByteArray×ByteArray):Rws:=gX rds (rdS L s 1)
theorem zKK {L rds:Rws} {s:ByteArray×ByteArray} (h:kT L rds s=0):eE L rds s∈L:=by
 unfold kT at h;unfold eE;split at h
 ·rename_i h0;rw[if_pos h0]
  cases L with
  | nil=>cases h
  | cons r L=>exact List.mem_cons_self ..
 ·rename_i h0;exact absurd h h0
def iH (P:Rws) (chs:List Chg) (rds:Rws) (key dead body:ByteArray):Nat×List Chg×Rws:=
 if cH chs ⟨key,⟨#[]⟩,true⟩=0 then
  if nilS dead=true then (0,bG chs ⟨key,⟨#[]⟩,true⟩,rds)
  else if (aN P (bG chs ⟨key,⟨#[]⟩,true⟩) rds dead).2.2.2=0 then
   ((addQ (bG chs ⟨key,⟨#[]⟩,true⟩) dead (aN P (bG chs ⟨key,⟨#[]⟩,true⟩) rds dead).1 (aN P (bG chs ⟨key,⟨#[]⟩,true⟩) rds dead).2.1 (aN P (bG chs ⟨key,⟨#[]⟩,true⟩) rds dead).2.2.1 body 0).2.1,
   (addQ (bG chs ⟨key,⟨#[]⟩,true⟩) dead (aN P (bG chs ⟨key,⟨#[]⟩,true⟩) rds dead).1 (aN P (bG chs ⟨key,⟨#[]⟩,true⟩) rds dead).2.1 (aN P (bG chs ⟨key,⟨#[]⟩,true⟩) rds dead).2.2.1 body 0).2.2,
   bC (bG chs ⟨key,⟨#[]⟩,true⟩) rds dead)
  else ((aN P (bG chs ⟨key,⟨#[]⟩,true⟩) rds dead).2.2.2,bG chs ⟨key,⟨#[]⟩,true⟩,bC (bG chs ⟨key,⟨#[]⟩,true⟩) rds dead)
 else (cH chs ⟨key,⟨#[]⟩,true⟩,bG chs ⟨key,⟨#[]⟩,true⟩,rds)
def eO (P:Rws) (name:ByteArray) (tries:Int) (dead:ByteArray) (now until_:Int):Nat->List Chg->Rws->ByteArray->Msg×List Chg×Rws
 | 0,chs,rds,_=>(noM 0,chs,rds)
 | k+1,chs,rds,at_=>
  let L:=aF P chs (at_,toB name)
  let rds1:=rR L rds (at_,toB name)
  if kT L rds (at_,toB name)=0 then
   let r:=eE L rds (at_,toB name)
   let m:=mOf r.2 (numK r.1)
   if m.2.2.2.2=0 then
    if now<m.2.2.1 then eO P name tries dead now until_ k chs rds1 (cX r.1)
    else if m.2.1<tries then ((m.1,m.2.1+1,until_,m.2.2.2.1,mK chs name m.1 (m.2.1+1) until_ m.2.2.2.1),nA chs name m.1 (m.2.1+1) until_ m.2.2.2.1,rds1)
    else if (iH P chs rds1 r.1 dead m.2.2.2.1).1=0 then eO P name tries dead now until_ k (iH P chs rds1 r.1 dead m.2.2.2.1).2.1 (iH P chs rds1 r.1 dead m.2.2.2.1).2.2 (cX r.1)
    else (noM (iH P chs rds1 r.1 dead m.2.2.2.1).1,(iH P chs rds1 r.1 dead m.2.2.2.1).2.1,(iH P chs rds1 r.1 dead m.2.2.2.1).2.2)
   else (noM m.2.2.2.2,chs,rds1)
  else (noM (kT L rds (at_,toB name)),chs,rds1)
def AtQ (name:ByteArray) (k:Nat) (at_:ByteArray):Prop:=(at_=aZ name/\1000001<=k)∨∃ n,n<=999999/\at_=cX (msgB name n)/\1000000-n<=k
theorem zAK {f t k:ByteArray} (h:hasS f t k=true):leS f k=true:=by unfold hasS at h;rw[Bool.and_eq_true] at h;exact h.1
theorem zDy (a b:ByteArray):leS (cX a) b=ltS a b:=by rw[mA,zLn,mA,Bool.not_not]
theorem AtQ.pos {name at_:ByteArray} {k:Nat} (h:AtQ name k at_):0<k:=by
 rcases h with⟨_,h⟩|⟨n,hn,_,h⟩<;>omega
theorem zKO {name:ByteArray} (hq:bK name.data.toList=true) (n:Nat):hasS (aZ name) (toB name) (msgB name n)=true:=by rw[zKW hq hq,xB]
theorem zID {a b c:ByteArray} (h:leS a b=true) (k:leS b c=true):leS a c=true:=by
 rw[jM] at *;rcases h with h|rfl
 ·rcases k with k|rfl
  ·exact .inl (cL h k)
  ·exact .inl h
 ·exact k
theorem AtQ.span {name at_ key:ByteArray} {k:Nat} (h:AtQ name k at_) (hq:bK name.data.toList=true) (hs:hasS at_ (toB name) key=true):hasS (aZ name) (toB name) key=true:=by
 rcases h with⟨rfl,_⟩|⟨n,hn,rfl,_⟩
 ·exact hs
 ·have h1:=zAK hs;rw[zDy] at h1;have h2:=zAK (zKO hq n);unfold hasS at hs ⊢;rw[Bool.and_eq_true] at hs ⊢;exact⟨zID h2 ((jM _ _).2 (.inl h1)),hs.2⟩
theorem AtQ.next {name at_ key:ByteArray} {k:Nat} (h:AtQ name (k+1) at_) (hq:bK name.data.toList=true) (hk:keyL key.data.toList=true) (hs:hasS at_ (toB name) key=true):∃ n,n<=999999/\key=msgB name n/\AtQ name k (cX key):=by
 obtain⟨n,hn,rfl⟩:=zJz hq hk (h.span hq hs);refine⟨n,hn,rfl,.inr ⟨n,hn,rfl,?_⟩⟩;rcases h with⟨_,h⟩|⟨m,hm,rfl,h⟩
 ·omega
 ·have h1:=zAK hs;rw[zDy,zM1 name hm hn,decide_eq_true_eq] at h1;omega
def dK (P:Rws) (chs:List Chg) (rds:Rws) (name:ByteArray) (now long:Int):Msg×List Chg×Rws:=
 if (aN P chs rds name).2.2.2=0 then
  if fC now=true/\fC long=true then
   if (eO P name (aN P chs rds name).2.1 (aN P chs rds name).2.2.1 now (now+long) 1000001 chs (bC chs rds name) (aZ name)).1.2.2.2.2=0 then eO P name (aN P chs rds name).2.1 (aN P chs rds name).2.2.1 now (now+long) 1000001 chs (bC chs rds name) (aZ name)
   else (noM (eO P name (aN P chs rds name).2.1 (aN P chs rds name).2.2.1 now (now+long) 1000001 chs (bC chs rds name) (aZ name)).1.2.2.2.2,chs,(eO P name (aN P chs rds name).2.1 (aN P chs rds name).2.2.1 now (now+long) 1000001 chs (bC chs rds name) (aZ name)).2.2)
  else (noM 1,chs,bC chs rds name)
 else (noM (aN P chs rds name).2.2.2,chs,bC chs rds name)
def eN:Rws->Nat
 | []=>0
 | r::l=>if (mOf r.2 (numK r.1)).2.2.2.2=0 then eN l else (mOf r.2 (numK r.1)).2.2.2.2
def jQ (l:Rws):List Msg:=l.map fun r=>mOf r.2 (numK r.1)
def cY (P:Rws) (chs:List Chg) (rds:Rws) (name:ByteArray):Nat×List Msg×Rws:=
 if (aN P chs rds name).2.2.2=0 then
  if dL (aF P chs (aZ name,toB name)) (bC chs rds name) (aZ name,toB name) 53=0 then
   if eN ((aF P chs (aZ name,toB name)).take 53)=0 then (0,jQ ((aF P chs (aZ name,toB name)).take 53),eP (aF P chs (aZ name,toB name)) (bC chs rds name) (aZ name,toB name) 53)
   else (eN ((aF P chs (aZ name,toB name)).take 53),[],eP (aF P chs (aZ name,toB name)) (bC chs rds name) (aZ name,toB name) 53)
  else (dL (aF P chs (aZ name,toB name)) (bC chs rds name) (aZ name,toB name) 53,[],eP (aF P chs (aZ name,toB name)) (bC chs rds name) (aZ name,toB name) 53)
 else ((aN P chs rds name).2.2.2,[],bC chs rds name)
end
section
open Go.RowKit Go.Joins Go.Shelf
attribute [local go_sem ↓] Go.wp_at_zero Go.wp_at_succ
section
variable {w w':World} {B wb:Nat} {S S':Nat->Prop} {P:Rws} {since:Sn} {chs:List Chg} {rds rds':Rws}
theorem QV.to (h:QV w B wb S P since chs rds) (hp:PV w' B wb S' P since chs rds') (hs:aG w w' B S S'):QV w' B wb S' P since chs rds':=⟨hp,h.ok,fun W hW=>h.la W (hs.bel.trans hW)⟩
theorem tS (L rds:Rws) (s:ByteArray×ByteArray):dL L rds s 1=cZ rds (rdS L s 1):=if_neg (by omega)
theorem zAW (L rds:Rws) (s:ByteArray×ByteArray):eP L rds s 1=gX rds (rdS L s 1):=if_neg (by omega)
theorem zBd (s:ByteArray×ByteArray) (m:Int) (w:World) (h:QV w B wb S P since chs rds) (hm:m<=9223372036854775807) (hf:dL (aF P chs s) rds s m≠0):
  Calls p_ 42 #[.pointer (some ⟨wb,0,none⟩),.agg #[.string s.1,.string s.2],.int .i64 m] w fun e w'=>e=.returned (.tuple #[.slice none 0 0,errV (dL (aF P chs s) rds s m)])/\ActQ w w' B wb S P since chs (eP (aF P chs s) rds s m):=
 (vM s m w h.pv hm).mono fun _ _ hv=>⟨(hv.2 hf).1,h.act h.ok (hv.2 hf).2⟩
def zM8 (w w':World) (v:Value) (B wb:Nat) (S:Nat->Prop) (P:Rws) (since:Sn) (chs:List Chg) (rds l:Rws):Prop:=
 ∃ ao cap S',v=.slice ao l.length cap/\l.length<=cap/\cap<=9223372036854775807/\bY w' ao l/\QV w' B wb S' P since chs rds/\aG w w' B S S'/\∀ b off,ao=some ⟨b,off,none⟩->w.heap.size<=b/\b<w'.heap.size/\¬S' b
theorem zDp (s:ByteArray×ByteArray) (m:Int) (w:World) (h:QV w B wb S P since chs rds) (hm:m<=9223372036854775807) (hf:dL (aF P chs s) rds s m=0):
  Calls p_ 42 #[.pointer (some ⟨wb,0,none⟩),.agg #[.string s.1,.string s.2],.int .i64 m] w fun e w'=>∃ v,e=.returned (.tuple #[v,.nilIface])/\zM8 w w' v B wb S P since chs (eP (aF P chs s) rds s m) ((aF P chs s).take m.toNat):=
 (vM s m w h.pv hm).mono fun _ _ hv=>by
  obtain⟨ao,cap,he,hc,hh,S',hp,hs,hn⟩:=hv.1 hf;exact⟨_,he,ao,cap,S',rfl,hc.1,hc.2,hh,h.to hp hs,hs,hn⟩
end
theorem zGg (s:ByteArray×ByteArray) {B wb:Nat} {S:Nat->Prop} {P:Rws} {since:Sn} {chs:List Chg} {rds:Rws} (w:World) (h:QV w B wb S P since chs rds):
  Calls p_ 175 #[.pointer (some ⟨wb,0,none⟩),.agg #[.string s.1,.string s.2]] w fun e w'=>e=.returned (.tuple #[.agg #[.string (eE (aF P chs s) rds s).1,.string (eE (aF P chs s) rds s).2],errV (kT (aF P chs s) rds s)])/\ActQ w w' B wb S P since chs (rR (aF P chs s) rds s):=by
 have n1:=bM 114;have hb1:=a_ w (o_ #[.string s.1,.string s.2] 80);have HX:=hide (BoxQ.start (h.on hb1) #[v_ ⟨#[]⟩,v_ ⟨#[]⟩] 165);have hz:(w.alloc (o_ #[.string s.1,.string s.2] 80)).heap.size=w.heap.size+1:=by simp
 have hb2:=a_ (w.alloc (o_ #[.string s.1,.string s.2] 80)) (o_ #[.string ⟨#[]⟩,v_ ⟨#[]⟩] 165);have HLO:=hide h.pv.lo;have HQ:=hide h;have HPRE:=hide (fun (w':World) (c:List Chg) (r:Rws)=>h.pre (w':=w') (chs':=c) (rds':=r) hb1);have s0:((w.alloc (o_ #[.string s.1,.string s.2] 80)).alloc (o_ #[.string ⟨#[]⟩,v_ ⟨#[]⟩] 165)).cell? ⟨w.heap.size,0,none⟩=some (.string s.1):=aA hb2 (aC w _ _ 0);have s1:((w.alloc (o_ #[.string s.1,.string s.2] 80)).alloc (o_ #[.string ⟨#[]⟩,v_ ⟨#[]⟩] 165)).cell? ⟨w.heap.size,1,none⟩=some (.string s.2):=aA hb2 (aC w _ _ 1);have r0:((w.alloc (o_ #[.string s.1,.string s.2] 80)).alloc (o_ #[.string ⟨#[]⟩,v_ ⟨#[]⟩] 165)).cell? ⟨w.heap.size+1,0,none⟩=some (.string ⟨#[]⟩):=by simp
 have r1:((w.alloc (o_ #[.string s.1,.string s.2] 80)).alloc (o_ #[.string ⟨#[]⟩,v_ ⟨#[]⟩] 165)).cell? ⟨w.heap.size+1,1,none⟩=some (.string ⟨#[]⟩):=by simp
 rw[hz] at HX;have HLO1:Hid (B<=(w.alloc (o_ #[.string s.1,.string s.2] 80)).heap.size):=hide (by rw[hz];have:=h.pv.lo;omega);by_cases hf:cZ rds (rdS (aF P chs s) s 1)=0
 ·have HSC:=hide (zDp s 1 _ HX.out.qv (by omega) ((tS _ _ _).trans hf));rw[zAW,show((1:Int).toNat)=1 from rfl] at HSC;unfold rR kT eE;rw[if_pos hf,if_pos hf];clear h hb1 hb2 HQ hf;generalize aF P chs s=L at *;generalize gX rds (rdS L s 1)=rds1 at *
  cases L with
  | nil=>
   dsimp only;rw[List.take_nil] at HSC;go_enter Tryz.func175,Tryz.ntmps175;go_wp2_with (first
    | (go_at_call 42;refine HSC.out.mono ?_;rintro e w2 ⟨v,rfl,ha⟩;obtain⟨ao,cap,S2,rfl,hc1,hc2,hh,hq2,hs2,hn2⟩:=ha;obtain⟨hx2,eb⟩:=HX.out.go hq2 hs2;have fz:=hx2.fz;replace r0:=(b_ eb).trans r0;replace r1:=(b_ eb).trans r1;have HX2:=hide hx2;clear hx2 eb hq2 hs2 hn2 hh;rw[List.length_nil])
    | fail)
   exact bodyPost_ret (v:=.tuple #[.agg #[.string ⟨#[]⟩,.string ⟨#[]⟩],errV 12]) (by simp[errV,results,Tryz.results175,go_sem,r0,r1]) rfl ⟨rfl,HPRE.out _ _ _ ((HX2.out.set HLO1.out 0 _).set HLO1.out 1 _).done⟩
  | cons r L=>
   dsimp only;rw[show(r::L).take 1=[r] from rfl] at HSC;go_enter Tryz.func175,Tryz.ntmps175;go_wp2_with (first
    | (go_at_call 42;refine HSC.out.mono ?_;rintro e w2 ⟨v,rfl,ha⟩;obtain⟨ao,cap,S2,rfl,hc1,hc2,hh,hq2,hs2,hn2⟩:=ha;obtain⟨hx2,eb⟩:=HX.out.go hq2 hs2;have fz:=hx2.fz;replace r0:=(b_ eb).trans r0;replace r1:=(b_ eb).trans r1;have HX2:=hide hx2;rcases hh with hh|⟨b,off,rfl,hh⟩;exact absurd hh (by simp);have a0:=(hh 0 (by simp)).1;have a1:=(hh 0 (by simp)).2;have hn3:=hn2 b off rfl;clear hx2 eb hq2 hs2 hn2 hh;rw[List.length_singleton];simp only[Nat.zero_mul,Nat.add_zero,List.getElem_cons_zero] at a0 a1)
    | fail)
   exact bodyPost_ret (v:=.tuple #[.agg #[.string r.1,.string r.2],errV 0]) (by simp[errV,results,Tryz.results175,go_sem,r0,r1]) rfl ⟨rfl,HPRE.out _ _ _ ((HX2.out.set HLO1.out 0 _).set HLO1.out 1 _).done⟩
 ·have HSC:=hide (zBd s 1 _ HX.out.qv (by omega) (fun e=>hf ((tS _ _ _).symm.trans e)));rw[zAW,tS] at HSC;unfold rR kT eE;rw[if_neg hf,if_neg hf];clear h hb1 hb2 HQ;generalize aF P chs s=L at *;generalize gX rds (rdS L s 1)=rds1 at *;generalize cZ rds (rdS L s 1)=f at *;have HE:=hide (bJ hf);clear hf;go_enter Tryz.func175,Tryz.ntmps175;go_wp2_with (first
   | (go_at_call 42;refine HSC.out.mono ?_;rintro e w2 ⟨rfl,ha⟩;obtain⟨S2,hx2,eb⟩:=HX.out.act ha;have fz:=hx2.fz;replace r0:=(b_ eb).trans r0;replace r1:=(b_ eb).trans r1;have HX2:=hide hx2;clear ha hx2 eb;rw[HE.out])
   | fail)
  exact bodyPost_ret (v:=.tuple #[.agg #[.string ⟨#[]⟩,.string ⟨#[]⟩],errV f]) (by simp[results,Tryz.results175,go_sem,r0,r1,HE.out]) rfl ⟨rfl,HPRE.out _ _ _ ((HX2.out.set HLO1.out 0 _).set HLO1.out 1 _).done⟩
end
end Go.Proofs.YtnboipekkahmnaaGreatDoor
namespace Go.Proofs
open Obj renaming cells→o_
open World renaming cell?_of_block→b_,cell?_setCell_other→t_,cell?_setCell_same→u_,ownsRow.lt→l_
open Go.RowKit.Below renaming heap_setCell→h_,refl→r_
open Nat renaming le_refl→n_
open Tryz renaming prog→p_
open Value renaming string→v_,int→i_
open Go.Joins renaming below_alloc1→a_
section
open Go.Shelf
def Tryz.lays149_ren:Go.Shelf.Ren:=⟨fun|149=>219|222=>257|n=>n,fun|9=>9|5=>5|3=>3|4=>4|n=>n,fun|n=>n⟩
theorem Tryz.lays149:Go.Proofs.Lays.n149 p_ Tryz.lays149_ren:={
 mixed:=by kernel_rfl
 f149:=Tryz.func219.trans (congrArg some (by kernel_rfl))
 f222:=Tryz.func257.trans (congrArg some (by kernel_rfl))
 t3:=Tryz.underlying3
 a3:=Tryz.isAgg3
 z3:=Tryz.sizeOf3
 v3:=Tryz.zeroValue3
 t4:=Tryz.underlying4
 a4:=Tryz.isAgg4
 z4:=Tryz.sizeOf4
 v4:=Tryz.zeroValue4
 t5:=Tryz.underlying5
 a5:=Tryz.isAgg5
 z5:=Tryz.sizeOf5
 v5:=Tryz.zeroValue5
 t9:=Tryz.underlying9
 a9:=Tryz.isAgg9
 z9:=Tryz.sizeOf9
 v9:=Tryz.zeroValue9 }
open Go.RowKit Go.Lib in
theorem Tryz.strings_LastIndexByte (s:ByteArray) (c:Int) (hs:s.size<4611686018427387904) (w:World):
  Calls p_ 219 #[.string s,.int .u8 c] w fun e w'=>e=.returned (.int .i64 (Lib.lastIndexByte s c))/\w'=w:=Any.strings_LastIndexByte Tryz.lays149 s c hs w
end
end Go.Proofs
namespace Go.Proofs.YtnboipekkahmnaaGreatDoor
open Obj renaming cells→o_
open World renaming cell?_of_block→b_,cell?_setCell_other→t_,cell?_setCell_same→u_,ownsRow.lt→l_
open Go.RowKit.Below renaming heap_setCell→h_,refl→r_
open Nat renaming le_refl→n_
open Tryz renaming prog→p_
open Value renaming string→v_,int→i_
open Go.Joins renaming below_alloc1→a_
section
open Go.RowKit Go.Joins Go.Shelf
attribute [local go_sem ↓] Go.wp_at_zero Go.wp_at_succ
theorem zJ5 (s:ByteArray) (n:Nat) (w:World) (hn:n<=999999) (hs:s.data.toList=six n):Calls p_ 220 #[.string s] w fun e w'=>e=.returned (.tuple #[.int .i64 n,.nilIface])/\Below w.heap.size w w':=
 (Tryz.strconv_Atoi s n (by rw[Lib.size_eq,hs];show 6<=_;omega) (by rw[hs];exact zDN n hn) w).mono fun e w' ⟨he,t,hw⟩=>
  ⟨he,by rw[hw];exact below_bytesWorld _ w 5 t (n_ _)⟩
theorem yN (q:ByteArray) (n:Nat) (val:ByteArray) (w:World) (hq:q.size<=1000) (hn:n<=999999) (hv:val.size<=100) (hL:∀ W,Below w.heap.size w W->Laid W):
  Calls p_ 158 #[.agg #[.string (msgB q n),.string val]] w fun e w'=>e=.returned (.tuple #[mV (mOf val n),errV (mOf val n).2.2.2.2])/\Below w.heap.size w w':=by
 have hks:=pS q n;have HLI:=hide (fun W=>sD (Tryz.strings_LastIndexByte (msgB q n) 47 (by omega) W) (congrArg (i_ .i64) (zEM (q:=q) n)));have HDG:=hide (zHI (q:=q) n);have hb1:=a_ w (o_ #[.string (msgB q n),.string val] 165);have hb2:=a_ (w.alloc (o_ #[.string (msgB q n),.string val] 165)) (o_ #[.int .i64 0,.int .i64 0,.int .i64 0,.string ⟨#[]⟩] 99);have HB:=hide (aB hb1 (n_ _) hb2);have HM:=hide (fun W (hW:Below w.heap.size w W)=>zDb val n hv W (hL W hW));have k0:((w.alloc (o_ #[.string (msgB q n),.string val] 165)).alloc (o_ #[.int .i64 0,.int .i64 0,.int .i64 0,.string ⟨#[]⟩] 99)).cell? ⟨w.heap.size,0,none⟩=some (.string (msgB q n)):=aA hb2 (aC w _ _ 0);have k1:((w.alloc (o_ #[.string (msgB q n),.string val] 165)).alloc (o_ #[.int .i64 0,.int .i64 0,.int .i64 0,.string ⟨#[]⟩] 99)).cell? ⟨w.heap.size,1,none⟩=some (.string val):=aA hb2 (aC w _ _ 1);have hz:(w.alloc (o_ #[.string (msgB q n),.string val] 165)).heap.size=w.heap.size+1:=by simp
 have r0:((w.alloc (o_ #[.string (msgB q n),.string val] 165)).alloc (o_ #[.int .i64 0,.int .i64 0,.int .i64 0,.string ⟨#[]⟩] 99)).cell? ⟨w.heap.size+1,0,none⟩=some (.int .i64 0):=by simp
 have r1:((w.alloc (o_ #[.string (msgB q n),.string val] 165)).alloc (o_ #[.int .i64 0,.int .i64 0,.int .i64 0,.string ⟨#[]⟩] 99)).cell? ⟨w.heap.size+1,1,none⟩=some (.int .i64 0):=by simp
 have r2:((w.alloc (o_ #[.string (msgB q n),.string val] 165)).alloc (o_ #[.int .i64 0,.int .i64 0,.int .i64 0,.string ⟨#[]⟩] 99)).cell? ⟨w.heap.size+1,2,none⟩=some (.int .i64 0):=by simp
 have r3:((w.alloc (o_ #[.string (msgB q n),.string val] 165)).alloc (o_ #[.int .i64 0,.int .i64 0,.int .i64 0,.string ⟨#[]⟩] 99)).cell? ⟨w.heap.size+1,3,none⟩=some (.string ⟨#[]⟩):=by simp
 have fz0:∀ j,((w.alloc (o_ #[.string (msgB q n),.string val] 165)).alloc (o_ #[.int .i64 0,.int .i64 0,.int .i64 0,.string ⟨#[]⟩] 99)).frozen? ⟨w.heap.size+1,j,none⟩=false:=by rw[<-hz];exact aQ _ _ _
 have hsz:((w.alloc (o_ #[.string (msgB q n),.string val] 165)).alloc (o_ #[.int .i64 0,.int .i64 0,.int .i64 0,.string ⟨#[]⟩] 99)).heap.size=w.heap.size+2:=by simp
 clear hb1 hb2 hz hL;generalize mOf val n=m at *;obtain⟨mk,mt,mu,md,em⟩:=m;dsimp only at HM ⊢;go_enter Tryz.func158,Tryz.ntmps158;go_wp2;generalize (w.alloc (o_ #[.string (msgB q n),.string val] 165)).alloc (o_ #[.int .i64 0,.int .i64 0,.int .i64 0,.string ⟨#[]⟩] 99)=X at *;generalize hK:msgB q n=K at *;clear hK;have nS:=OnW.some X;have n0:∀ m:OnW X,m.w.cell? ⟨w.heap.size,0,none⟩=some (.string K):=fun m=>m.cell k0;have hw1:IntKind.i64.wrap ((q.size:Int)+2+1)=(q.size:Int)+3:=by rw[IntKind.wrap_i64];omega
 have h03:(0:Int)<=(q.size:Int)+3:=by omega
 have h3l:(q.size:Int)+3<=(K.size:Int):=by omega
 have h3t:((q.size:Int)+3).toNat=q.size+3:=by omega
 refine dE (by kernel_rfl) (by kernel_rfl) ?_
 repeat (go_big_quiet_step ((first
  | (go_at_call 219;rename_i m;exact zLW (HLI.out _)))))
 refine wpQuiet_nil ?_;intro w3 hw3;replace hw3:=jG hw3;have HB3:=hide (aB HB.out (n_ _) hw3);have HS:=hide (show w.heap.size+1<X.heap.size by omega);replace k1:=aA hw3 k1;replace r0:=aA hw3 r0;replace r1:=aA hw3 r1;replace r2:=aA hw3 r2;replace r3:=aA hw3 r3;have fz3:∀ j,w3.frozen? ⟨w.heap.size+1,j,none⟩=false:=fun j=>aE hw3 HS.out (fz0 j);have hs3:w.heap.size+1<w3.heap.size:=Nat.lt_of_lt_of_le HS.out hw3.size;clear fz0 k0 n0 nS hw3 hsz;go_wp2_with (first
  | (go_at_call 220;refine(zJ5 _ n _ hn HDG.out).mono ?_;rintro e w4 ⟨rfl,hb4⟩;have HB4:=hide (aB HB3.out (n_ _) hb4);replace k1:=aA hb4 k1;replace r0:=aA hb4 r0;replace r1:=aA hb4 r1;replace r2:=aA hb4 r2;replace r3:=aA hb4 r3;have fz4:∀ j,w4.frozen? ⟨w.heap.size+1,j,none⟩=false:=fun j=>aE hb4 hs3 (fz3 j);have hs4:=Nat.lt_of_lt_of_le hs3 hb4.size;clear hb4 fz3 hs3)
  | (go_at_call 177;refine(HM.out _ HB4.out).mono ?_;rintro e w5 ⟨rfl,hb5⟩;have HB5:=hide (aB HB4.out (n_ _) hb5);replace r0:=aA hb5 r0;replace r1:=aA hb5 r1;replace r2:=aA hb5 r2;replace r3:=aA hb5 r3;have fz5:∀ j,w5.frozen? ⟨w.heap.size+1,j,none⟩=false:=fun j=>aE hb5 hs4 (fz4 j);clear hb5 fz4 hs4)
  | fail)
 exact bodyPost_ret (v:=.tuple #[mV (mk,mt,mu,md,em),errV em]) (by simp[results,Tryz.results158,go_sem,r0,r1,r2,r3]) rfl ⟨rfl,(((HB5.out.setCell (p:=⟨w.heap.size+1,0,none⟩) (Nat.le_succ _) _).setCell (p:=⟨w.heap.size+1,1,none⟩) (Nat.le_succ _) _).setCell (p:=⟨w.heap.size+1,2,none⟩) (Nat.le_succ _) _).setCell (p:=⟨w.heap.size+1,3,none⟩) (Nat.le_succ _) _⟩
theorem zJh (key dead body:ByteArray) {B wb:Nat} {S:Nat->Prop} {P:Rws} {since:Sn} {chs:List Chg} {rds:Rws} (w:World) (h:QV w B wb S P since chs rds) (hk:key.size<=maxLen) (hd:dead.size<=1000):
  Calls p_ 176 #[.pointer (some ⟨wb,0,none⟩),.string key,.string dead,.string body] w fun e w'=>e=.returned (errV (iH P chs rds key dead body).1)/\ActQ w w' B wb S P since (iH P chs rds key dead body).2.1 (iH P chs rds key dead body).2.2:=by
 have n1:=bM 114;have HD:=hide (uA key w h hk);have HF:=hide (fun (S1:Nat->Prop) (W:World) (hW:QV W B wb S1 P since (bG chs ⟨key,⟨#[]⟩,true⟩) rds)=>kK dead W hW hd);have HFO:=hide (fun h=>xJ (P:=P) (chs:=bG chs ⟨key,⟨#[]⟩,true⟩) (rds:=rds) (name:=dead) h);unfold iH;clear h;generalize cH chs ⟨key,⟨#[]⟩,true⟩=f1 at *;generalize bG chs ⟨key,⟨#[]⟩,true⟩=chs1 at *;generalize aN P chs1 rds dead=q at *;generalize bC chs1 rds dead=rds1 at *;obtain⟨qx,qy,qd,er⟩:=q;dsimp only at HF HFO ⊢;by_cases h1:f1=0
 ·subst h1;rw[if_pos rfl];have HE1:=hide bX
  cases hde:nilS dead with
  | true=>
   have hde':(dead.toList==[])=true:=by rw[List.isEmpty_iff.1 hde];rfl
   rw[if_pos rfl];clear hde;go_enter Tryz.func176,Tryz.ntmps176;go_wp2_with (first
    | (go_at_call 86;refine HD.out.mono ?_;rintro e w1 ⟨rfl,ha⟩;have HA:=hide ha;clear ha;rw[HE1.out])
    | fail)
   go_ret;exact⟨rfl,HA.out⟩
  | false=>
   have hde':(dead.toList==[])=false:=by unfold nilS at hde;cases e:dead.toList with|nil=>rw[e] at hde;cases hde|cons a l=>rfl
   rw[if_neg (by simp)];clear hde;by_cases h2:er=0
   ·subst h2;rw[if_pos rfl];have HE2:=hide bX;obtain⟨hx0,hx1,hd6,_,_⟩:=HFO.out rfl;have HADD:=hide (fun (S2:Nat->Prop) (W:World) (hW:QV W B wb S2 P since chs1 rds1)=>zDU dead qx qy qd body 0 W hW hd (by omega) hx0 hx1);clear HFO;generalize addQ chs1 dead qx qy qd body 0=r at *;go_enter Tryz.func176,Tryz.ntmps176;go_wp2_with (first
     | (go_at_call 86;refine HD.out.mono ?_;rintro e w1 ⟨rfl,ha⟩;obtain⟨S1,hq1,hs1⟩:=ha;have HQ1:=hide hq1;have HS1:=hide hs1;clear hq1 hs1;rw[HE1.out])
     | (go_at_call 83;refine(HF.out _ _ HQ1.out).mono ?_;rintro e w2 ⟨rfl,ha⟩;obtain⟨S2,hq2,hs2⟩:=ha;have hbA:=a_ w2 (o_ #[.int .i64 qx,.int .i64 qy,.string qd] 145);have HQ2:=hide (hq2.on hbA);have HS2:=hide ((HS1.out.trans hs2).trans (.on hq2.pv.lo hbA));clear hq2 hs2 hbA;rw[HE2.out])
     | (go_at_call 115;refine(HADD.out _ _ HQ2.out).mono ?_;rintro e w3 ⟨rfl,ha⟩;have HA:=hide (ActQ.after HS2.out ha);clear ha)
     | fail)
    go_ret;exact⟨rfl,HA.out⟩
   ·rw[if_neg h2];have HE2:=hide (bJ h2);clear h2 HFO;go_enter Tryz.func176,Tryz.ntmps176;go_wp2_with (first
     | (go_at_call 86;refine HD.out.mono ?_;rintro e w1 ⟨rfl,ha⟩;obtain⟨S1,hq1,hs1⟩:=ha;have HQ1:=hide hq1;have HS1:=hide hs1;clear hq1 hs1;rw[HE1.out])
     | (go_at_call 83;refine(HF.out _ _ HQ1.out).mono ?_;rintro e w2 ⟨rfl,ha⟩;obtain⟨S2,hq2,hs2⟩:=ha;have hbA:=a_ w2 (o_ #[.int .i64 qx,.int .i64 qy,.string qd] 145);have HQ2:=hide (hq2.on hbA);have HS2:=hide ((HS1.out.trans hs2).trans (.on hq2.pv.lo hbA));clear hq2 hs2 hbA;rw[HE2.out])
     | fail)
    go_ret;exact⟨HE2.out▸rfl,_,HQ2.out,HS2.out⟩
 ·rw[if_neg h1];have HE1:=hide (bJ h1);clear h1 HFO;go_enter Tryz.func176,Tryz.ntmps176;go_wp2_with (first
   | (go_at_call 86;refine HD.out.mono ?_;rintro e w1 ⟨rfl,ha⟩;have HA:=hide ha;clear ha;rw[HE1.out])
   | fail)
  go_ret;exact⟨HE1.out▸rfl,HA.out⟩
end
section
open Go.RowKit Go.Joins Go.Shelf
structure OwnQ (w W:World) (B wb:Nat) (O S S':Nat->Prop) (P:Rws) (since:Sn) (chs:List Chg) (rds:Rws):Prop where
 qv:QV W B wb S' P since chs rds
 st:aG w W B S S'
 ow:∀ b,O b->¬S' b/\w.heap.size<=b/\b<W.heap.size/\∀ j,W.frozen? ⟨b,j,none⟩=false
section
variable {w w1 w2:World} {B wb:Nat} {O O' S S' S2:Nat->Prop} {P:Rws} {since:Sn} {chs chs':List Chg} {rds rds':Rws}
theorem OwnQ.start (h:QV w B wb S P since chs rds):OwnQ w w B wb (fun _=>False) S S P since chs rds:=⟨h,.refl h.pv.lo,fun _ h=>h.elim⟩
theorem OwnQ.on (h:OwnQ w w1 B wb O S S' P since chs rds) (hb:Below w1.heap.size w1 w2):OwnQ w w2 B wb O S S' P since chs rds:=
 ⟨h.qv.on hb,h.st.trans (.on h.qv.pv.lo hb),fun b ho=>by
  obtain⟨a,b1,c,d⟩:=h.ow b ho;exact⟨a,b1,Nat.lt_of_lt_of_le c hb.size,fun j=>aE hb c (d j)⟩⟩
theorem OwnQ.box (h:OwnQ w w1 B wb O S S' P since chs rds) (vs:Array Value) (t:TypeId):OwnQ w (w1.alloc (.cells vs t)) B wb (fun b=>b=w1.heap.size∨O b) S S' P since chs rds:=by
 have hb:=a_ w1 (.cells vs t);have h1:=h.on hb;refine⟨h1.qv,h1.st,fun b ho=>?_⟩;rcases ho with rfl|ho
 ·refine⟨fun e=>by have:=h.qv.pv.lt e;omega,?_,by simp,fun j=>aQ _ _ _ j⟩;have:=h.st.bel.size;exact this
 ·exact h1.ow b ho
theorem OwnQ.keep (h:OwnQ w w1 B wb O S S' P since chs rds) (hq:QV w2 B wb S2 P since chs' rds') (hs:aG w1 w2 B S' S2):OwnQ w w2 B wb O S S2 P since chs' rds'/\∀ b,O b->w2.heap[b]?=w1.heap[b]?:=
 ⟨⟨hq,h.st.trans hs,fun b ho=>by
  obtain⟨a,b1,c,d⟩:=h.ow b ho;obtain⟨e,n⟩:=hs.far b c a;exact⟨n,b1,Nat.lt_of_lt_of_le c hs.bel.size,fun j=>(World.frozen?_of_block (w:=w1) e).trans (d j)⟩⟩,fun b ho=>by
  obtain⟨a,b1,c,d⟩:=h.ow b ho;exact(hs.far b c a).1⟩
theorem OwnQ.act (h:OwnQ w w1 B wb O S S' P since chs rds) (ha:ActQ w1 w2 B wb S' P since chs' rds'):∃ S2,OwnQ w w2 B wb O S S2 P since chs' rds'/\∀ b,O b->w2.heap[b]?=w1.heap[b]?:=by
 obtain⟨S2,hq,hs⟩:=ha;exact⟨S2,h.keep hq hs⟩
theorem OwnQ.set (h:OwnQ w w1 B wb O S S' P since chs rds) (hB:B<=w.heap.size) {b:Nat} (ho:O b) (j:Nat) (v:Value):OwnQ w (w1.setCell ⟨b,j,none⟩ v) B wb O S S' P since chs rds:=by
 have hs:∀ k,k≠b->(w1.setCell ⟨b,j,none⟩ v).heap[k]?=w1.heap[k]?:=fun k hk=>h_ _ _ _ _ hk;obtain⟨a,b1,c,d⟩:=h.ow b ho;refine⟨⟨h.qv.pv.kept (by simp) fun k hk=>hs k fun e=>a (e▸hk),h.qv.ok,fun W hW=>h.qv.la W (((r_ B w1).setCell (p:=⟨b,j,none⟩) (by show B<=b;omega) v).trans hW)⟩,⟨h.st.bel.setCell (p:=⟨b,j,none⟩) (by show B<=b;omega) v,fun k hk hn=>?_⟩,fun b' ho'=>?_⟩
 ·obtain⟨x,y⟩:=h.st.far k hk hn;exact⟨(hs k (by omega)).trans x,y⟩
 ·obtain⟨a',b1',c',d'⟩:=h.ow b' ho';exact⟨a',b1',by simpa using c',fun k=>by rw[World.frozen?_setCell];exact d' k⟩
theorem OwnQ.less (h:OwnQ w w1 B wb O S S' P since chs rds) (hs:∀ b,O' b->O b):OwnQ w w1 B wb O' S S' P since chs rds:=⟨h.qv,h.st,fun b hb=>h.ow b (hs b hb)⟩
theorem OwnQ.done (h:OwnQ w w1 B wb O S S' P since chs rds):ActQ w w1 B wb S P since chs rds:=⟨S',h.qv,h.st⟩
end
end
section
open Go.RowKit Go.Joins Go.Shelf
attribute [local go_sem ↓] Go.wp_at_zero Go.wp_at_succ
theorem zA9 {P:Rws} {chs:List Chg} {s r:ByteArray×ByteArray} (hp:bV P) (h:r∈aF P chs s):hasS s.1 s.2 r.1=true:=by
 unfold aF at h;rw[zFl chs hp s] at h;exact(List.mem_filter.1 h).2
structure mY (W:World) (b0 b1 b2:Nat) (qx tries:Int) (dead at_ to_:ByteArray):Prop where
 q0:W.cell? ⟨b0,0,none⟩=some (.int .i64 qx)
 q1:W.cell? ⟨b0,1,none⟩=some (.int .i64 tries)
 q2:W.cell? ⟨b0,2,none⟩=some (.string dead)
 r0:W.cell? ⟨b1,0,none⟩=some (.int .i64 0)
 r1:W.cell? ⟨b1,1,none⟩=some (.int .i64 0)
 r2:W.cell? ⟨b1,2,none⟩=some (.int .i64 0)
 r3:W.cell? ⟨b1,3,none⟩=some (.string ⟨#[]⟩)
 s0:W.cell? ⟨b2,0,none⟩=some (.string at_)
 s1:W.cell? ⟨b2,1,none⟩=some (.string to_)
theorem mY.keep {W W':World} {b0 b1 b2:Nat} {qx tries:Int} {dead at_ to_:ByteArray} (h:mY W b0 b1 b2 qx tries dead at_ to_) (hk:∀ b,(b=b0∨b=b1∨b=b2)->W'.heap[b]?=W.heap[b]?):mY W' b0 b1 b2 qx tries dead at_ to_:=
 have k0:W'.heap[b0]?=W.heap[b0]?:=hk b0 (.inl rfl);have k1:W'.heap[b1]?=W.heap[b1]?:=hk b1 (.inr (.inl rfl));have k2:W'.heap[b2]?=W.heap[b2]?:=hk b2 (.inr (.inr rfl))
 ⟨(b_ k0).trans h.q0,(b_ k0).trans h.q1,(b_ k0).trans h.q2,(b_ k1).trans h.r0,(b_ k1).trans h.r1,(b_ k1).trans h.r2,(b_ k1).trans h.r3,(b_ k2).trans h.s0,(b_ k2).trans h.s1⟩
theorem mY.on {W W':World} {b0 b1 b2:Nat} {qx tries:Int} {dead at_ to_:ByteArray} (h:mY W b0 b1 b2 qx tries dead at_ to_) (hb:Below W.heap.size W W'):mY W' b0 b1 b2 qx tries dead at_ to_:=
 ⟨aA hb h.q0,aA hb h.q1,aA hb h.q2,aA hb h.r0,aA hb h.r1,aA hb h.r2,aA hb h.r3,aA hb h.s0,aA hb h.s1⟩
theorem mY.next {W:World} {b0 b1 b2:Nat} {qx tries:Int} {dead at_ to_:ByteArray} (h:mY W b0 b1 b2 qx tries dead at_ to_) (h0:b0≠b2) (h1:b1≠b2) (v:ByteArray):mY (W.setCell ⟨b2,0,none⟩ (.string v)) b0 b1 b2 qx tries dead v to_:=by
 have far:∀ (b j:Nat),b≠b2->(W.setCell ⟨b2,0,none⟩ (.string v)).cell? ⟨b,j,none⟩=W.cell? ⟨b,j,none⟩:=fun b j hb=>t_ _ _ _ _ (fun e=>hb (congrArg Addr.block e).symm);exact⟨(far _ _ h0).trans h.q0,(far _ _ h0).trans h.q1,(far _ _ h0).trans h.q2,(far _ _ h1).trans h.r0,(far _ _ h1).trans h.r1,(far _ _ h1).trans h.r2,(far _ _ h1).trans h.r3,u_ _ _ _ h.s0,(t_ _ _ _ _ (fun e=>by cases e)).trans h.s1⟩
def zNe (b0 b1 b2:Nat) (b:Nat):Prop:=b=b0∨b=b1∨b=b2
def zLG (w W:World) (B wb b0 b1 b2:Nat) (S:Nat->Prop) (P:Rws) (since:Sn) (name:ByteArray) (qx tries:Int) (dead:ByteArray) (now until_:Int) (R:Msg×List Chg×Rws) (k:Nat):Prop:=
 ∃ S' chs rds at_,OwnQ w W B wb (zNe b0 b1 b2) S S' P since chs rds/\AtQ name k at_/\eO P name tries dead now until_ k chs rds at_=R/\mY W b0 b1 b2 qx tries dead at_ (toB name)
theorem zHu (name:ByteArray) (qx tries:Int) (dead:ByteArray) (now until_:Int) {B wb:Nat} {S:Nat->Prop} {P:Rws} {since:Sn} {chs:List Chg} {rds:Rws} (w:World) (h:QV w B wb S P since chs rds) (hn:bK name.data.toList=true) (hd:dead.size<=1000) (ht:tries<=9):
  Calls p_ 118 #[.pointer (some ⟨wb,0,none⟩),.string name,.agg #[.int .i64 qx,.int .i64 tries,.string dead],.int .i64 now,.int .i64 until_] w fun e w'=>e=.returned (.tuple #[mV (eO P name tries dead now until_ 1000001 chs rds (aZ name)).1,errV (eO P name tries dead now until_ 1000001 chs rds (aZ name)).1.2.2.2.2])/\ActQ w w' B wb S P since (eO P name tries dead now until_ 1000001 chs rds (aZ name)).2.1 (eO P name tries dead now until_ 1000001 chs rds (aZ name)).2.2:=by
 have n1:=bM 114;have hns:=zBk hn;have HLO:=hide h.pv.lo;have HN:=hide hn;have HOa:=hide ((OwnQ.start h).box #[i_ .i64 qx,i_ .i64 tries,v_ dead] 145);have HOb:=hide (HOa.out.box #[i_ .i64 0,i_ .i64 0,i_ .i64 0,v_ ⟨#[]⟩] 99);have hb2:=a_ (w.alloc (o_ #[.int .i64 qx,.int .i64 tries,.string dead] 145)) (o_ #[.int .i64 0,.int .i64 0,.int .i64 0,.string ⟨#[]⟩] 99);have q0:=aA hb2 (aC w #[i_ .i64 qx,i_ .i64 tries,v_ dead] 145 0);have q1:=aA hb2 (aC w #[i_ .i64 qx,i_ .i64 tries,v_ dead] 145 1);have q2:=aA hb2 (aC w #[i_ .i64 qx,i_ .i64 tries,v_ dead] 145 2);have r0:((w.alloc (o_ #[.int .i64 qx,.int .i64 tries,.string dead] 145)).alloc (o_ #[.int .i64 0,.int .i64 0,.int .i64 0,.string ⟨#[]⟩] 99)).cell? ⟨w.heap.size+1,0,none⟩=some (.int .i64 0):=by simp
 have r1:((w.alloc (o_ #[.int .i64 qx,.int .i64 tries,.string dead] 145)).alloc (o_ #[.int .i64 0,.int .i64 0,.int .i64 0,.string ⟨#[]⟩] 99)).cell? ⟨w.heap.size+1,1,none⟩=some (.int .i64 0):=by simp
 have r2:((w.alloc (o_ #[.int .i64 qx,.int .i64 tries,.string dead] 145)).alloc (o_ #[.int .i64 0,.int .i64 0,.int .i64 0,.string ⟨#[]⟩] 99)).cell? ⟨w.heap.size+1,2,none⟩=some (.int .i64 0):=by simp
 have r3:((w.alloc (o_ #[.int .i64 qx,.int .i64 tries,.string dead] 145)).alloc (o_ #[.int .i64 0,.int .i64 0,.int .i64 0,.string ⟨#[]⟩] 99)).cell? ⟨w.heap.size+1,3,none⟩=some (.string ⟨#[]⟩):=by simp
 have hz:(w.alloc (o_ #[.int .i64 qx,.int .i64 tries,.string dead] 145)).heap.size=w.heap.size+1:=by simp
 rw[hz] at HOb;clear h hn HOa hb2 hz;generalize hR0:eO P name tries dead now until_ 1000001 chs rds (aZ name)=R;have HR0:=hide hR0;clear hR0;go_enter Tryz.func118,Tryz.ntmps118;go_wp2_with (first
  | (go_at_call 157;refine(pM name _ (by omega)).mono ?_;rintro e w1 ⟨rfl,hb1⟩;have HNE:Hid (w.heap.size≠w1.heap.size/\w.heap.size+1≠w1.heap.size):=hide (by have:=hb1.size;simp at this;omega);have HO1:=hide ((HOb.out.on hb1).box #[v_ (aZ name),v_ (toB name)] 80);have hb3:=a_ w1 (o_ #[.string (aZ name),.string (toB name)] 80);have HC:=hide (mY.mk (aA hb3 (aA hb1 q0)) (aA hb3 (aA hb1 q1)) (aA hb3 (aA hb1 q2)) (aA hb3 (aA hb1 r0)) (aA hb3 (aA hb1 r1)) (aA hb3 (aA hb1 r2)) (aA hb3 (aA hb1 r3)) (aC w1 #[v_ (aZ name),v_ (toB name)] 80 0) (aC w1 #[v_ (aZ name),v_ (toB name)] 80 1));clear q0 q1 q2 r0 r1 r2 r3 HOb hb1 hb3)
  | fail)
 have HI:Hid (zLG w (w1.alloc (o_ #[.string (aZ name),.string (toB name)] 80)) B wb w.heap.size (w.heap.size+1) w1.heap.size S P since name qx tries dead now until_ R 1000001):=hide ⟨S,chs,rds,aZ name,HO1.out.less (fun b hb=>by rcases hb with rfl|rfl|rfl;exact .inr (.inr (.inl rfl));exact .inr (.inl rfl);exact .inl rfl),.inl ⟨rfl,n_ _⟩,HR0.out,HC.out⟩;clear HR0 HO1 HC;generalize (w1.alloc (o_ #[.string (aZ name),.string (toB name)] 80))=W0 at *;generalize w1.heap.size=b2 at *
 go_loopg [] 1000001 (fun k wr=>zLG w wr B wb w.heap.size (w.heap.size+1) b2 S P since name qx tries dead now until_ R k)
 case atStart=>exact HI.out
 case round=>
  clear HI;obtain⟨S',chs,rds,at_,ho,hat,hR,hC⟩:=hrel;obtain⟨k,rfl⟩:∃ k,gk=k+1:=⟨gk-1,by have:=hat.pos;omega⟩;have HF:=hide (zGg (at_,toB name) wr ho.qv);have HK:Hid (kT (aF P chs (at_,toB name)) rds (at_,toB name)=0->∃ n,n<=999999/\(eE (aF P chs (at_,toB name)) rds (at_,toB name)).1=msgB name n/\AtQ name k (cX (eE (aF P chs (at_,toB name)) rds (at_,toB name)).1)/\(eE (aF P chs (at_,toB name)) rds (at_,toB name)).2.size<=40):=hide (fun hf=>by
   have hm:=zKK hf;obtain⟨h1,h2⟩:=tB ho.qv.ok (at_,toB name) _ hm;obtain⟨n,hn,e,ha⟩:=hat.next HN.out h1 (zA9 ho.qv.pv.ok.rise hm);exact⟨n,hn,e,ha,h2⟩)
  rw[eO] at hR;dsimp only at hR HF;generalize rR (aF P chs (at_,toB name)) rds (at_,toB name)=rds1 at *;generalize kT (aF P chs (at_,toB name)) rds (at_,toB name)=f at *;generalize eE (aF P chs (at_,toB name)) rds (at_,toB name)=r at *;obtain⟨rk,rv⟩:=r;have HO:=hide ho;have HC:=hide hC;clear ho hat;have c:=hC;obtain⟨q0,q1,q2,r0,r1,r2,r3,s0,s1⟩:=hC;by_cases hf:f=0
  ·subst hf;rw[if_pos rfl] at hR;obtain⟨n,hn9,hrk,hat,hrv⟩:=HK.out rfl;dsimp only at hrk hat hrv;have HP:Hid (∀ W:World,(∀ W',Below W.heap.size W W'->Laid W')->Calls p_ 158 #[.agg #[.string rk,.string rv]] W fun e w'=>e=.returned (.tuple #[mV (mOf rv n),errV (mOf rv n).2.2.2.2])/\Below W.heap.size W w'):=hide (by rw[hrk];exact fun W hL=>yN name n rv W (by omega) hn9 (by omega) hL);have hnk:numK rk=n:=by rw[hrk];exact zDT name hn9
   have hrs:rk.size<=1000:=by rw[hrk,pS];omega
   rw[hnk] at hR;have HMF:Hid ((mOf rv n).2.2.2.2=0->(mOf rv n).1=n/\0<=(mOf rv n).2.1/\(mOf rv n).2.1<=9):=hide (fun he=>by
    rcases oB rv n with⟨t,u,d,e,hm,_⟩|⟨e,_⟩
    ·rw[e];exact⟨rfl,Int.natCast_nonneg _,by have:=hm.1;show(t:Int)<=9;omega⟩
    ·rw[e] at he;cases he)
   have HE1:=hide bX;have HAT:=hide hat;clear hnk hrk hat HK hrv;generalize mOf rv n=m at *;obtain⟨mk,mt,mu,md,em⟩:=m;dsimp only at hR HP HMF;by_cases hem:em=0
   ·subst hem;rw[if_pos rfl] at hR;have HEM:=hide bX;obtain⟨hmk,hmt0,hmt9⟩:=HMF.out rfl;generalize hn':(n:Int)=nn at *;subst hmk;have hmk0:0<=mk:=by omega
    have hmk1:mk<=999999:=by omega
    clear hn';clear HMF;by_cases hu:now<mu
    ·rw[if_pos hu] at hR;have HR:=hide hR;have d1:decide (now<mu)=true:=by simpa using hu
     clear hR hu;go_wp2_with (fail)
     go_at_call 175
     refine HF.out.mono ?_;rintro e w2 ⟨rfl,ha⟩;obtain⟨S2,ho2,kp⟩:=HO.out.act ha;have hbR:=a_ w2 (o_ #[.string rk,.string rv] 165);have HC1:=hide (HC.out.keep kp);have HC2:=hide (HC1.out.on hbR);clear q0 q1 q2 r0 r1 r2 r3 s0 s1;obtain⟨q0,q1,q2,r0,r1,r2,r3,s0,s1⟩:=HC2.out;have hlt2:=(ho2.ow b2 (.inr (.inr rfl))).2.2.1;have hne:w2.heap.size≠b2:=by omega
     have fz2:=((ho2.on hbR).ow b2 (.inr (.inr rfl))).2.2.2;have hz2:(w2.setCell ⟨b2,0,none⟩ (.string (rk++⟨#[0]⟩))).heap.size=w2.heap.size:=by simp
     have HO3:=hide ((ho2.set HLO.out (b:=b2) (.inr (.inr rfl)) 0 (.string (rk++⟨#[0]⟩))).box #[v_ rk,v_ rv] 165);rw[hz2] at HO3;have HC3:=hide ((HC1.out.next HNE.out.1 HNE.out.2 (rk++⟨#[0]⟩)).on (a_ _ (o_ #[.string rk,.string rv] 165)));have u0:((w2.setCell ⟨b2,0,none⟩ (.string (rk++⟨#[0]⟩))).alloc (o_ #[.string rk,.string rv] 165)).cell? ⟨w2.heap.size,0,none⟩=some (.string rk):=by rw[<-hz2]<;>exact aC _ _ _ 0
     have u1:((w2.setCell ⟨b2,0,none⟩ (.string (rk++⟨#[0]⟩))).alloc (o_ #[.string rk,.string rv] 165)).cell? ⟨w2.heap.size,1,none⟩=some (.string rv):=by rw[<-hz2]<;>exact aC _ _ _ 1
     clear ha ho2 kp hbR hz2;rw[HE1.out];go_wp2_with (fail)
     go_at_call 158
     refine(HP.out _ (fun W' hW'=>HO3.out.qv.la W' (hW'.mono HO3.out.qv.pv.lo))).mono ?_;rintro e w4 ⟨rfl,hb4⟩;have hbM:=a_ w4 (o_ #[.int .i64 mk,.int .i64 mt,.int .i64 mu,.string md] 99);have HO3b:=hide (HO3.out.on hb4);have HC3b:=hide (HC3.out.on hb4);have HO4:=hide (HO3b.out.box #[i_ .i64 mk,i_ .i64 mt,i_ .i64 mu,v_ md] 99);have HC4:=hide (HC3b.out.on hbM);clear q0 q1 q2 r0 r1 r2 r3 s0 s1;obtain⟨q0,q1,q2,r0,r1,r2,r3,s0,s1⟩:=HC4.out;replace u0:=aA hbM (aA hb4 u0);replace u1:=aA hbM (aA hb4 u1);have fz1:=(HO4.out.ow (w.heap.size+1) (.inr (.inr (.inr (.inl rfl))))).2.2.2;have fzm:=(HO4.out.ow w4.heap.size (.inl rfl)).2.2.2;clear fz2 hb4 hbM;rw[HEM.out];go_wp2_with (fail)
     go_roundg k
     case measure=>omega
     case rel=>exact⟨S2,chs,rds1,cX rk,HO4.out.less (fun b hb=>.inr (.inr hb)),HAT.out,HR.out,HC4.out⟩
    ·rw[if_neg hu] at hR;have d1:decide (now<mu)=false:=by simpa using hu
     clear hu;by_cases hmt:mt<tries
     ·rw[if_pos hmt] at hR;have d2:decide (mt<tries)=true:=by simpa using hmt
      have hw1:IntKind.i64.wrap (mt+1)=mt+1:=by rw[IntKind.wrap_i64];omega
      have HPM:=hide (fun (S1:Nat->Prop) W (hW:QV W B wb S1 P since chs rds1)=>mI name mk (mt+1) until_ md W hW (by omega) (by omega) (by omega));subst hR;clear hmt;go_wp2_with (fail)
      go_at_call 175
      refine HF.out.mono ?_;rintro e w2 ⟨rfl,ha⟩;obtain⟨S2,ho2,kp⟩:=HO.out.act ha;have hbR:=a_ w2 (o_ #[.string rk,.string rv] 165);have HC1:=hide (HC.out.keep kp);have HC2:=hide (HC1.out.on hbR);clear q0 q1 q2 r0 r1 r2 r3 s0 s1;obtain⟨q0,q1,q2,r0,r1,r2,r3,s0,s1⟩:=HC2.out;have hlt2:=(ho2.ow b2 (.inr (.inr rfl))).2.2.1;have hne:w2.heap.size≠b2:=by omega
      have fz2:=((ho2.on hbR).ow b2 (.inr (.inr rfl))).2.2.2;have hz2:(w2.setCell ⟨b2,0,none⟩ (.string (rk++⟨#[0]⟩))).heap.size=w2.heap.size:=by simp
      have HO3:=hide ((ho2.set HLO.out (b:=b2) (.inr (.inr rfl)) 0 (.string (rk++⟨#[0]⟩))).box #[v_ rk,v_ rv] 165);rw[hz2] at HO3;have HC3:=hide ((HC1.out.next HNE.out.1 HNE.out.2 (rk++⟨#[0]⟩)).on (a_ _ (o_ #[.string rk,.string rv] 165)));have u0:((w2.setCell ⟨b2,0,none⟩ (.string (rk++⟨#[0]⟩))).alloc (o_ #[.string rk,.string rv] 165)).cell? ⟨w2.heap.size,0,none⟩=some (.string rk):=by rw[<-hz2]<;>exact aC _ _ _ 0
      have u1:((w2.setCell ⟨b2,0,none⟩ (.string (rk++⟨#[0]⟩))).alloc (o_ #[.string rk,.string rv] 165)).cell? ⟨w2.heap.size,1,none⟩=some (.string rv):=by rw[<-hz2]<;>exact aC _ _ _ 1
      clear ha ho2 kp hbR hz2;rw[HE1.out];go_wp2_with (fail)
      go_at_call 158
      refine(HP.out _ (fun W' hW'=>HO3.out.qv.la W' (hW'.mono HO3.out.qv.pv.lo))).mono ?_;rintro e w4 ⟨rfl,hb4⟩;have hbM:=a_ w4 (o_ #[.int .i64 mk,.int .i64 mt,.int .i64 mu,.string md] 99);have HO3b:=hide (HO3.out.on hb4);have HC3b:=hide (HC3.out.on hb4);have HO4:=hide (HO3b.out.box #[i_ .i64 mk,i_ .i64 mt,i_ .i64 mu,v_ md] 99);have HC4:=hide (HC3b.out.on hbM);clear q0 q1 q2 r0 r1 r2 r3 s0 s1;obtain⟨q0,q1,q2,r0,r1,r2,r3,s0,s1⟩:=HC4.out;replace u0:=aA hbM (aA hb4 u0);replace u1:=aA hbM (aA hb4 u1);have fz1:=(HO4.out.ow (w.heap.size+1) (.inr (.inr (.inr (.inl rfl))))).2.2.2;have fzm:=(HO4.out.ow w4.heap.size (.inl rfl)).2.2.2;clear fz2 hb4 hbM;rw[HEM.out];go_wp2_with (fail)
      have HO5:=hide (HO3b.out.box #[i_ .i64 mk,i_ .i64 (mt+1),i_ .i64 until_,v_ md] 99);have HC5:=hide (HC3b.out.on (a_ w4 (o_ #[.int .i64 mk,.int .i64 (mt+1),.int .i64 until_,.string md] 99)));have v0:=aC w4 #[i_ .i64 mk,i_ .i64 (mt+1),i_ .i64 until_,v_ md] 99 0;have v1:=aC w4 #[i_ .i64 mk,i_ .i64 (mt+1),i_ .i64 until_,v_ md] 99 1;have v2:=aC w4 #[i_ .i64 mk,i_ .i64 (mt+1),i_ .i64 until_,v_ md] 99 2;have v3:=aC w4 #[i_ .i64 mk,i_ .i64 (mt+1),i_ .i64 until_,v_ md] 99 3;clear q0 q1 q2 r0 r1 r2 r3 s0 s1 u0 u1 fz1 fzm;obtain⟨q0,q1,q2,r0,r1,r2,r3,s0,s1⟩:=HC5.out;have fz1:=(HO5.out.ow (w.heap.size+1) (.inr (.inr (.inr (.inl rfl))))).2.2.2;have hb1:=(HO5.out.ow (w.heap.size+1) (.inr (.inr (.inr (.inl rfl))))).2.2.1;have hbm:=(HO5.out.ow w4.heap.size (.inl rfl)).2.2.1;clear HC4 HO4 HC3b HO3b;generalize (w4.alloc (o_ #[.int .i64 mk,.int .i64 (mt+1),.int .i64 until_,.string md] 99))=W5 at *;generalize w4.heap.size=mb at *;clear q0 q1 q2 s0 s1
      go_region_with (first
       | (go_at_call 148;refine(HPM.out _ _ (HO5.out.qv.on (r_ _ _).drew)).mono ?_;rintro e w6 ⟨rfl,ha⟩;obtain⟨S6,ho6,kp6⟩:=(HO5.out.on (r_ _ _).drew).act ha;have v0':w6.cell? ⟨mb,0,none⟩=_:=(b_ (kp6 mb (.inl rfl))).trans v0;have v1':w6.cell? ⟨mb,1,none⟩=_:=(b_ (kp6 mb (.inl rfl))).trans v1;have v2':w6.cell? ⟨mb,2,none⟩=_:=(b_ (kp6 mb (.inl rfl))).trans v2;have v3':w6.cell? ⟨mb,3,none⟩=_:=(b_ (kp6 mb (.inl rfl))).trans v3;have r0':w6.cell? ⟨w.heap.size+1,0,none⟩=_:=(b_ (kp6 (w.heap.size+1) (.inr (.inr (.inr (.inl rfl)))))).trans r0;have r1':w6.cell? ⟨w.heap.size+1,1,none⟩=_:=(b_ (kp6 (w.heap.size+1) (.inr (.inr (.inr (.inl rfl)))))).trans r1;have r2':w6.cell? ⟨w.heap.size+1,2,none⟩=_:=(b_ (kp6 (w.heap.size+1) (.inr (.inr (.inr (.inl rfl)))))).trans r2;have r3':w6.cell? ⟨w.heap.size+1,3,none⟩=_:=(b_ (kp6 (w.heap.size+1) (.inr (.inr (.inr (.inl rfl)))))).trans r3;have fz6:=(ho6.ow (w.heap.size+1) (.inr (.inr (.inr (.inl rfl))))).2.2.2;have HO6:=hide ho6;clear ha ho6 kp6)
       | fail)
      all_goals
       go_wp2;exact bodyPost_ret (v:=.tuple #[mV (mk,mt+1,until_,md,mK chs name mk (mt+1) until_ md),errV (mK chs name mk (mt+1) until_ md)]) (by simp[results,Tryz.results118,go_sem,r0',r1',r2',r3']) rfl ⟨rfl,((((HO6.out.set HLO.out (b:=w.heap.size+1) (.inr (.inr (.inr (.inl rfl)))) 0 _).set HLO.out (b:=w.heap.size+1) (.inr (.inr (.inr (.inl rfl)))) 1 _).set HLO.out (b:=w.heap.size+1) (.inr (.inr (.inr (.inl rfl)))) 2 _).set HLO.out (b:=w.heap.size+1) (.inr (.inr (.inr (.inl rfl)))) 3 _).done⟩
     ·rw[if_neg hmt] at hR;have d2:decide (mt<tries)=false:=by simpa using hmt
      have HBU:=hide (fun (S1:Nat->Prop) W (hW:QV W B wb S1 P since chs rds1)=>zJh rk dead md W hW (by unfold maxLen;omega) hd);clear hmt;generalize iH P chs rds1 rk dead md=bq at *;obtain⟨bf,bchs,brds⟩:=bq;dsimp only at hR HBU;by_cases hbf:bf=0
      ·subst hbf;rw[if_pos rfl] at hR;have HR:=hide hR;have HEB:=hide bX;clear hR;go_wp2_with (fail)
       go_at_call 175
       refine HF.out.mono ?_;rintro e w2 ⟨rfl,ha⟩;obtain⟨S2,ho2,kp⟩:=HO.out.act ha;have hbR:=a_ w2 (o_ #[.string rk,.string rv] 165);have HC1:=hide (HC.out.keep kp);have HC2:=hide (HC1.out.on hbR);clear q0 q1 q2 r0 r1 r2 r3 s0 s1;obtain⟨q0,q1,q2,r0,r1,r2,r3,s0,s1⟩:=HC2.out;have hlt2:=(ho2.ow b2 (.inr (.inr rfl))).2.2.1;have hne:w2.heap.size≠b2:=by omega
       have fz2:=((ho2.on hbR).ow b2 (.inr (.inr rfl))).2.2.2;have hz2:(w2.setCell ⟨b2,0,none⟩ (.string (rk++⟨#[0]⟩))).heap.size=w2.heap.size:=by simp
       have HO3:=hide ((ho2.set HLO.out (b:=b2) (.inr (.inr rfl)) 0 (.string (rk++⟨#[0]⟩))).box #[v_ rk,v_ rv] 165);rw[hz2] at HO3;have HC3:=hide ((HC1.out.next HNE.out.1 HNE.out.2 (rk++⟨#[0]⟩)).on (a_ _ (o_ #[.string rk,.string rv] 165)));have u0:((w2.setCell ⟨b2,0,none⟩ (.string (rk++⟨#[0]⟩))).alloc (o_ #[.string rk,.string rv] 165)).cell? ⟨w2.heap.size,0,none⟩=some (.string rk):=by rw[<-hz2]<;>exact aC _ _ _ 0
       have u1:((w2.setCell ⟨b2,0,none⟩ (.string (rk++⟨#[0]⟩))).alloc (o_ #[.string rk,.string rv] 165)).cell? ⟨w2.heap.size,1,none⟩=some (.string rv):=by rw[<-hz2]<;>exact aC _ _ _ 1
       clear ha ho2 kp hbR hz2;rw[HE1.out];go_wp2_with (fail)
       go_at_call 158
       refine(HP.out _ (fun W' hW'=>HO3.out.qv.la W' (hW'.mono HO3.out.qv.pv.lo))).mono ?_;rintro e w4 ⟨rfl,hb4⟩;have hbM:=a_ w4 (o_ #[.int .i64 mk,.int .i64 mt,.int .i64 mu,.string md] 99);have HO3b:=hide (HO3.out.on hb4);have HC3b:=hide (HC3.out.on hb4);have HO4:=hide (HO3b.out.box #[i_ .i64 mk,i_ .i64 mt,i_ .i64 mu,v_ md] 99);have HC4:=hide (HC3b.out.on hbM);clear q0 q1 q2 r0 r1 r2 r3 s0 s1;obtain⟨q0,q1,q2,r0,r1,r2,r3,s0,s1⟩:=HC4.out;replace u0:=aA hbM (aA hb4 u0);replace u1:=aA hbM (aA hb4 u1);have fz1:=(HO4.out.ow (w.heap.size+1) (.inr (.inr (.inr (.inl rfl))))).2.2.2;have fzm:=(HO4.out.ow w4.heap.size (.inl rfl)).2.2.2;clear fz2 hb4 hbM;rw[HEM.out];go_wp2_with (fail)
       go_at_call 176
       refine(HBU.out _ _ HO4.out.qv).mono ?_;rintro e w6 ⟨rfl,ha⟩;obtain⟨S6,ho6,kp6⟩:=HO4.out.act ha;have HO6:=hide ho6;have HC6:=hide (HC4.out.keep fun b hb=>kp6 b (.inr (.inr hb)));clear q0 q1 q2 r0 r1 r2 r3 s0 s1 u0 u1 fz1 fzm;obtain⟨q0,q1,q2,r0,r1,r2,r3,s0,s1⟩:=HC6.out;have fz1:=(HO6.out.ow (w.heap.size+1) (.inr (.inr (.inr (.inl rfl))))).2.2.2;clear ha ho6 kp6;rw[HEB.out];go_wp2_with (fail)
       go_roundg k
       case measure=>omega
       case rel=>exact⟨S6,bchs,brds,cX rk,HO6.out.less (fun b hb=>.inr (.inr hb)),HAT.out,HR.out,HC6.out⟩
      ·rw[if_neg hbf] at hR;subst hR;have HEB:=hide (bJ hbf);clear hbf;go_wp2_with (fail)
       go_at_call 175
       refine HF.out.mono ?_;rintro e w2 ⟨rfl,ha⟩;obtain⟨S2,ho2,kp⟩:=HO.out.act ha;have hbR:=a_ w2 (o_ #[.string rk,.string rv] 165);have HC1:=hide (HC.out.keep kp);have HC2:=hide (HC1.out.on hbR);clear q0 q1 q2 r0 r1 r2 r3 s0 s1;obtain⟨q0,q1,q2,r0,r1,r2,r3,s0,s1⟩:=HC2.out;have hlt2:=(ho2.ow b2 (.inr (.inr rfl))).2.2.1;have hne:w2.heap.size≠b2:=by omega
       have fz2:=((ho2.on hbR).ow b2 (.inr (.inr rfl))).2.2.2;have hz2:(w2.setCell ⟨b2,0,none⟩ (.string (rk++⟨#[0]⟩))).heap.size=w2.heap.size:=by simp
       have HO3:=hide ((ho2.set HLO.out (b:=b2) (.inr (.inr rfl)) 0 (.string (rk++⟨#[0]⟩))).box #[v_ rk,v_ rv] 165);rw[hz2] at HO3;have HC3:=hide ((HC1.out.next HNE.out.1 HNE.out.2 (rk++⟨#[0]⟩)).on (a_ _ (o_ #[.string rk,.string rv] 165)));have u0:((w2.setCell ⟨b2,0,none⟩ (.string (rk++⟨#[0]⟩))).alloc (o_ #[.string rk,.string rv] 165)).cell? ⟨w2.heap.size,0,none⟩=some (.string rk):=by rw[<-hz2]<;>exact aC _ _ _ 0
       have u1:((w2.setCell ⟨b2,0,none⟩ (.string (rk++⟨#[0]⟩))).alloc (o_ #[.string rk,.string rv] 165)).cell? ⟨w2.heap.size,1,none⟩=some (.string rv):=by rw[<-hz2]<;>exact aC _ _ _ 1
       clear ha ho2 kp hbR hz2;rw[HE1.out];go_wp2_with (fail)
       go_at_call 158
       refine(HP.out _ (fun W' hW'=>HO3.out.qv.la W' (hW'.mono HO3.out.qv.pv.lo))).mono ?_;rintro e w4 ⟨rfl,hb4⟩;have hbM:=a_ w4 (o_ #[.int .i64 mk,.int .i64 mt,.int .i64 mu,.string md] 99);have HO3b:=hide (HO3.out.on hb4);have HC3b:=hide (HC3.out.on hb4);have HO4:=hide (HO3b.out.box #[i_ .i64 mk,i_ .i64 mt,i_ .i64 mu,v_ md] 99);have HC4:=hide (HC3b.out.on hbM);clear q0 q1 q2 r0 r1 r2 r3 s0 s1;obtain⟨q0,q1,q2,r0,r1,r2,r3,s0,s1⟩:=HC4.out;replace u0:=aA hbM (aA hb4 u0);replace u1:=aA hbM (aA hb4 u1);have fz1:=(HO4.out.ow (w.heap.size+1) (.inr (.inr (.inr (.inl rfl))))).2.2.2;have fzm:=(HO4.out.ow w4.heap.size (.inl rfl)).2.2.2;clear fz2 hb4 hbM;rw[HEM.out];go_wp2_with (fail)
       go_at_call 176
       refine(HBU.out _ _ HO4.out.qv).mono ?_;rintro e w6 ⟨rfl,ha⟩;obtain⟨S6,ho6,kp6⟩:=HO4.out.act ha;have HO6:=hide ho6;have HC6:=hide (HC4.out.keep fun b hb=>kp6 b (.inr (.inr hb)));clear q0 q1 q2 r0 r1 r2 r3 s0 s1 u0 u1 fz1 fzm;obtain⟨q0,q1,q2,r0,r1,r2,r3,s0,s1⟩:=HC6.out;have fz1:=(HO6.out.ow (w.heap.size+1) (.inr (.inr (.inr (.inl rfl))))).2.2.2;clear ha ho6 kp6;rw[HEB.out];go_wp2_with (fail)
       exact bodyPost_ret (v:=.tuple #[mV (noM bf),errV bf]) (by simp[results,Tryz.results118,go_sem,r0,r1,r2,r3,HEB.out]) rfl ⟨rfl,((((HO6.out.set HLO.out (b:=w.heap.size+1) (.inr (.inr (.inr (.inl rfl)))) 0 _).set HLO.out (b:=w.heap.size+1) (.inr (.inr (.inr (.inl rfl)))) 1 _).set HLO.out (b:=w.heap.size+1) (.inr (.inr (.inr (.inl rfl)))) 2 _).set HLO.out (b:=w.heap.size+1) (.inr (.inr (.inr (.inl rfl)))) 3 _).done⟩
   ·rw[if_neg hem] at hR;subst hR;have HEM:=hide (bJ hem);clear hem HMF;go_wp2_with (fail)
    go_at_call 175
    refine HF.out.mono ?_;rintro e w2 ⟨rfl,ha⟩;obtain⟨S2,ho2,kp⟩:=HO.out.act ha;have hbR:=a_ w2 (o_ #[.string rk,.string rv] 165);have HC1:=hide (HC.out.keep kp);have HC2:=hide (HC1.out.on hbR);clear q0 q1 q2 r0 r1 r2 r3 s0 s1;obtain⟨q0,q1,q2,r0,r1,r2,r3,s0,s1⟩:=HC2.out;have hlt2:=(ho2.ow b2 (.inr (.inr rfl))).2.2.1;have hne:w2.heap.size≠b2:=by omega
    have fz2:=((ho2.on hbR).ow b2 (.inr (.inr rfl))).2.2.2;have hz2:(w2.setCell ⟨b2,0,none⟩ (.string (rk++⟨#[0]⟩))).heap.size=w2.heap.size:=by simp
    have HO3:=hide ((ho2.set HLO.out (b:=b2) (.inr (.inr rfl)) 0 (.string (rk++⟨#[0]⟩))).box #[v_ rk,v_ rv] 165);rw[hz2] at HO3;have HC3:=hide ((HC1.out.next HNE.out.1 HNE.out.2 (rk++⟨#[0]⟩)).on (a_ _ (o_ #[.string rk,.string rv] 165)));have u0:((w2.setCell ⟨b2,0,none⟩ (.string (rk++⟨#[0]⟩))).alloc (o_ #[.string rk,.string rv] 165)).cell? ⟨w2.heap.size,0,none⟩=some (.string rk):=by rw[<-hz2]<;>exact aC _ _ _ 0
    have u1:((w2.setCell ⟨b2,0,none⟩ (.string (rk++⟨#[0]⟩))).alloc (o_ #[.string rk,.string rv] 165)).cell? ⟨w2.heap.size,1,none⟩=some (.string rv):=by rw[<-hz2]<;>exact aC _ _ _ 1
    clear ha ho2 kp hbR hz2;rw[HE1.out];go_wp2_with (fail)
    go_at_call 158
    refine(HP.out _ (fun W' hW'=>HO3.out.qv.la W' (hW'.mono HO3.out.qv.pv.lo))).mono ?_;rintro e w4 ⟨rfl,hb4⟩;have hbM:=a_ w4 (o_ #[.int .i64 mk,.int .i64 mt,.int .i64 mu,.string md] 99);have HO3b:=hide (HO3.out.on hb4);have HC3b:=hide (HC3.out.on hb4);have HO4:=hide (HO3b.out.box #[i_ .i64 mk,i_ .i64 mt,i_ .i64 mu,v_ md] 99);have HC4:=hide (HC3b.out.on hbM);clear q0 q1 q2 r0 r1 r2 r3 s0 s1;obtain⟨q0,q1,q2,r0,r1,r2,r3,s0,s1⟩:=HC4.out;replace u0:=aA hbM (aA hb4 u0);replace u1:=aA hbM (aA hb4 u1);have fz1:=(HO4.out.ow (w.heap.size+1) (.inr (.inr (.inr (.inl rfl))))).2.2.2;have fzm:=(HO4.out.ow w4.heap.size (.inl rfl)).2.2.2;clear fz2 hb4 hbM;rw[HEM.out];go_wp2_with (fail)
    exact bodyPost_ret (v:=.tuple #[mV (noM em),errV em]) (by simp[results,Tryz.results118,go_sem,r0,r1,r2,r3,HEM.out]) rfl ⟨rfl,((((HO4.out.set HLO.out (b:=w.heap.size+1) (.inr (.inr (.inr (.inl rfl)))) 0 _).set HLO.out (b:=w.heap.size+1) (.inr (.inr (.inr (.inl rfl)))) 1 _).set HLO.out (b:=w.heap.size+1) (.inr (.inr (.inr (.inl rfl)))) 2 _).set HLO.out (b:=w.heap.size+1) (.inr (.inr (.inr (.inl rfl)))) 3 _).done⟩
  ·rw[if_neg hf] at hR;subst hR;have HE:=hide (bJ hf);clear hf HK c q0 q1 q2 r0 r1 r2 r3;go_wp2_with (first
    | (go_at_call 175;refine HF.out.mono ?_;rintro e w2 ⟨rfl,ha⟩;obtain⟨S2,ho2,kp⟩:=HO.out.act ha;have hbR:=a_ w2 (o_ #[.string rk,.string rv] 165);have HO2:=hide (ho2.on hbR);have HC2:=hide ((HC.out.keep kp).on hbR);clear s0 s1;obtain⟨q0,q1,q2,r0,r1,r2,r3,s0,s1⟩:=HC2.out;have fz1:=(HO2.out.ow (w.heap.size+1) (.inr (.inl rfl))).2.2.2;clear ha ho2 kp hbR;rw[HE.out])
    | fail)
   exact bodyPost_ret (v:=.tuple #[mV (noM f),errV f]) (by simp[results,Tryz.results118,go_sem,r0,r1,r2,r3,HE.out]) rfl ⟨rfl,((((HO2.out.set HLO.out (b:=w.heap.size+1) (.inr (.inl rfl)) 0 _).set HLO.out (b:=w.heap.size+1) (.inr (.inl rfl)) 1 _).set HLO.out (b:=w.heap.size+1) (.inr (.inl rfl)) 2 _).set HLO.out (b:=w.heap.size+1) (.inr (.inl rfl)) 3 _).done⟩
theorem zEU {a0 a1 a2 a3 a4:Value} {m:Msg} {chs':List Chg} {rds':Rws} {B wb:Nat} {S:Nat->Prop} {P:Rws} {since:Sn} {chs:List Chg} {rds:Rws} (w:World) (h:QV w B wb S P since chs rds)
  (hc:∀ W,Below w.heap.size w W->Calls p_ 117 #[a0,a1,a2,a3,a4] W fun e w'=>e=.returned (.tuple #[mV m,errV m.2.2.2.2])/\ActQ W w' B wb S P since chs' rds'):
  Calls p_ 116 #[.pointer (some ⟨wb,0,none⟩),.func (.func 117) #[] #[a0,a1,a2,a3,a4]] w fun e w'=>e=.returned (.tuple #[mV (if m.2.2.2.2=0 then m else noM m.2.2.2.2),errV m.2.2.2.2])/\ActQ w w' B wb S P since (if m.2.2.2.2=0 then chs' else chs) rds':=by
 have n1:=bM 114;have HQ:=hide h;have HC:=hide hc;have HLO:=hide h.pv.lo;have hbR:=a_ w (o_ #[.int .i64 0,.int .i64 0,.int .i64 0,.string ⟨#[]⟩] 99);have HX:=hide (BoxQ.start h #[i_ .i64 0,i_ .i64 0,i_ .i64 0,v_ ⟨#[]⟩] 99);have HBR:=hide hbR;have HMK:=hide (zFs _ HX.out.qv.pv);have r0:(w.alloc (o_ #[.int .i64 0,.int .i64 0,.int .i64 0,.string ⟨#[]⟩] 99)).cell? ⟨w.heap.size,0,none⟩=some (i_ .i64 0):=by simp
 have r1:(w.alloc (o_ #[.int .i64 0,.int .i64 0,.int .i64 0,.string ⟨#[]⟩] 99)).cell? ⟨w.heap.size,1,none⟩=some (i_ .i64 0):=by simp
 have r2:(w.alloc (o_ #[.int .i64 0,.int .i64 0,.int .i64 0,.string ⟨#[]⟩] 99)).cell? ⟨w.heap.size,2,none⟩=some (i_ .i64 0):=by simp
 have r3:(w.alloc (o_ #[.int .i64 0,.int .i64 0,.int .i64 0,.string ⟨#[]⟩] 99)).cell? ⟨w.heap.size,3,none⟩=some (v_ ⟨#[]⟩):=by simp
 obtain⟨mk,mt,mu,md,em⟩:=m;dsimp only at HC ⊢;clear h hc hbR;by_cases hf:em=0
 ·subst hf;rw[if_pos rfl,if_pos rfl];go_enter Tryz.func116,Tryz.ntmps116;go_wp2_with (first
   | (go_at_call 173;refine HMK.out.mono ?_;rintro e w1 ⟨mv,rfl,ho,hb1⟩;obtain⟨ma1,mc1,hmv,_,_⟩:=qP ho;subst hmv;have HB1:=hide hb1;have HX1:=hide (HX.out.on hb1);replace r0:=aA hb1 r0;replace r1:=aA hb1 r1;replace r2:=aA hb1 r2;replace r3:=aA hb1 r3;clear ho hb1)
   | (go_at_call 117;refine(HC.out _ (aB HBR.out (n_ _) HB1.out)).mono ?_;rintro e w2 ⟨rfl,ha⟩;obtain⟨S2,hx2,eb⟩:=HX1.out.act ha;have hbA:=a_ w2 (o_ #[.int .i64 mk,.int .i64 mt,.int .i64 mu,.string md] 99);have HX2:=hide (hx2.on hbA);have fz:=HX2.out.fz;replace r0:=aA hbA ((b_ eb).trans r0);replace r1:=aA hbA ((b_ eb).trans r1);replace r2:=aA hbA ((b_ eb).trans r2);replace r3:=aA hbA ((b_ eb).trans r3);clear ha hx2 eb hbA;rw[bX])
   | fail)
  exact bodyPost_ret (v:=.tuple #[mV (mk,mt,mu,md,0),errV 0]) (by simp[errV,results,Tryz.results116,go_sem,r0,r1,r2,r3]) rfl ⟨rfl,((((HX2.out.set HLO.out 0 _).set HLO.out 1 _).set HLO.out 2 _).set HLO.out 3 _).done⟩
 ·rw[if_neg hf,if_neg hf];have HE:=hide (bJ hf);clear hf;go_enter Tryz.func116,Tryz.ntmps116;go_wp2_with (first
   | (go_at_call 173;refine HMK.out.mono ?_;rintro e w1 ⟨mv,rfl,ho,hb1⟩;obtain⟨ma1,mc1,hmv,_,_⟩:=qP ho;subst hmv;have HB1:=hide hb1;have HO:=hide ho;have HX1:=hide (HX.out.on hb1);replace r0:=aA hb1 r0;replace r1:=aA hb1 r1;replace r2:=aA hb1 r2;replace r3:=aA hb1 r3;clear ho hb1)
   | (go_at_call 117;refine(HC.out _ (aB HBR.out (n_ _) HB1.out)).mono ?_;rintro e w2 ⟨rfl,ha⟩;obtain⟨S2,hq2,hs2⟩:=ha;have HO2:=hide (aI HO.out fun k e=>((HX.out.qv.new hs2 (l_ HO.out k e).1 (l_ HO.out k e).2).1));obtain⟨hx2,eb⟩:=HX1.out.go hq2 hs2;have hbA:=a_ w2 (o_ #[.int .i64 mk,.int .i64 mt,.int .i64 mu,.string md] 99);have HX2:=hide (hx2.on hbA);have HO3:=hide (bQ HO2.out hbA);replace r0:=aA hbA ((b_ eb).trans r0);replace r1:=aA hbA ((b_ eb).trans r1);replace r2:=aA hbA ((b_ eb).trans r2);replace r3:=aA hbA ((b_ eb).trans r3);clear hq2 hs2 hx2 eb hbA;rw[HE.out])
   | (go_at_call 174;refine(zFb _ HX2.out.qv HO3.out HQ.out.pv.ok.cn HQ.out.pv.ok.ck HQ.out.pv.ok.cr HQ.out.ok).mono ?_;rintro e w3 ⟨rfl,ha⟩;obtain⟨S3,hx3,eb⟩:=HX2.out.act ha;have hbA:=a_ w3 (o_ #[.int .i64 0,.int .i64 0,.int .i64 0,.string ⟨#[]⟩] 99);have HX3:=hide (hx3.on hbA);have fz:=HX3.out.fz;replace r0:=aA hbA ((b_ eb).trans r0);replace r1:=aA hbA ((b_ eb).trans r1);replace r2:=aA hbA ((b_ eb).trans r2);replace r3:=aA hbA ((b_ eb).trans r3);clear ha hx3 eb hbA)
   | fail)
  exact bodyPost_ret (v:=.tuple #[mV (noM em),errV em]) (by simp[results,Tryz.results116,go_sem,r0,r1,r2,r3,HE.out]) rfl ⟨rfl,((((HX3.out.set HLO.out 0 _).set HLO.out 1 _).set HLO.out 2 _).set HLO.out 3 _).done⟩
end
end Go.Proofs.YtnboipekkahmnaaGreatDoor
