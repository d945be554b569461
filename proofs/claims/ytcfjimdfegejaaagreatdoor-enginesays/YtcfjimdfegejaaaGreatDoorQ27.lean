import Derived.Test.YtcfjimdfegejaaaGreatDoorQ23
set_option maxHeartbeats 8000000
set_option maxRecDepth 100000
namespace Go.Proofs.YtcfjimdfegejaaaGreatDoor
open List renaming length→Z7,length_eq_zero_iff→E0,length_map→RZ,mem_map_of_mem→y_
open Nat renaming le_trans→BZ,lt_of_lt_of_le→UY
open Go.Proofs.Tryz
open World renaming ownsRow.lt→l_
open Go.RowKit.Below renaming heap_setCell→h_,refl→r_
open Nat renaming le_refl→n_
open Go.Proofs.Tryz renaming prog→p_
open Go.Joins renaming below_alloc1→a_
variable {i B n:Nat} {v:Mc} {w:World} {l:List ma} {R:ByteArray->List yb} {s:Cc}
section
open Go.RowKit Go.Joins
attribute [local go_sem ↓] Go.wp_at_zero Go.wp_at_succ
section
variable {B:Nat} {m:Ic} {s:Cc}
theorem wB (w:World) (h:EK w B m s) (hi:i<4) (hv:s.Da i=none):
  Calls p_ 9 #[.pointer (some ⟨m.eb,0,none⟩),.int .i64 (i:Int)] w fun e w'=>e=.returned .nilIface/\Je w w' B m s (dX s i):=by
 have c:=h.cell hi;rw[kI hv] at c;have c1:=h.Li;have h1:(0:Int)<=(i:Int):=by omega
 have h2:(i:Int)<4:=by omega
 have Qv:=h.lt h.xx;have fz:=fun j=>(h.hi.rest j).2;have HN:Hid (∀ W,Below w.heap.size w W->Calls p_ 34 #[.pointer (some ⟨m.vb,0,none⟩)] W fun e w'=>∃ wb,e=.returned (.pointer (some ⟨wb,0,none⟩))/\VW w' W.heap.size wb m.vb s.now (.slice none 0 0) (.slice none 0 0) [] []/\Below W.heap.size W w'):=fun W hb=>zLr W (h.vs.on hb);have HE:Hid (∀ w1 wb,VW w1 w.heap.size wb m.vb s.now (.slice none 0 0) (.slice none 0 0) [] []->Below w.heap.size w w1->Je w (w1.setCell ⟨m.eb,3+i,none⟩ (.pointer (some ⟨wb,0,none⟩))) B m s (dX s i)):=fun w1 wb bn hb=>by
  obtain⟨q1,q2⟩:=h.begun hi hv bn hb;exact⟨_,q1,rfl,⟨rfl,fun j hj=>by show(Yb m.W i _ j).1=_;rw[oV _ (show j≠i from fun e=>hj (by rw[e];exact hv))]⟩,q2⟩
 clear h;generalize m.eb=eb at *;generalize m.vb=vb at *;go_enter func9,ntmps9;go_wp2_with fail;refine(lM i hi w).mono ?_;rintro e w1 ⟨rfl,rfl⟩;go_wp2_with fail
 go_region_with (first
  | (go_at_call 34;refine(HN.out _ (r_ _ _).drew).mono ?_;rintro e w2 ⟨wb,rfl,bn,za⟩;have Zg:=aB (r_ _ w1).drew (n_ _) za;have HR:=aa (HE.out w2 wb (bn.down (n_ _)) Zg);have c2:=aA Zg c;have PM:=aE Zg Qv (fz (3+i));clear bn za Zg)
  | fail)
 all_goals
  go_wp2;go_ret;exact⟨rfl,HR.out⟩
theorem zDY (w:World) (h:EK w B m s) (hi:i<4) (hv:s.Da i=some v):
  Calls p_ 9 #[.pointer (some ⟨m.eb,0,none⟩),.int .i64 (i:Int)] w fun e w'=>e=.returned (pa 7)/\w'=w:=by
 have c:=h.cell hi;rw[kE hv] at c;have h1:(0:Int)<=(i:Int):=by omega
 have h2:(i:Int)<4:=by omega
 have HE:Hid (pa 7=.iface 77 (.int .i64 7)):=rfl;rw[HE.out];clear h;go_enter func9,ntmps9;go_wp2_with fail;refine(lM i hi w).mono ?_;rintro e w1 ⟨rfl,rfl⟩;go_wp2;go_ret;exact⟨rfl,rfl⟩
def zLO (w w':World) (B:Nat) (m:Ic) (s:Cc) (i:Nat):Prop:=Je w w' B m s (Gd s i)/\(∀ a k,a≠0->Lb m s.Da a k->w'.heap[k]?=w.heap[k]?)
theorem tE (w:World) (h:EK w B m s) (ok:Ed s) (hi:i<4) (hc:s.c<=190):
  Calls p_ 36 #[.pointer (some ⟨m.eb,0,none⟩),.int .i64 (i:Int)] w fun e w'=>e=.returned (.tuple #[])/\zLO w w' B m s i:=by
 have c:=h.cell hi;have h1:(0:Int)<=(i:Int):=by omega
 have h2:(i:Int)<4:=by omega
 have fz:=(h.hi.rest (3+i)).2;obtain⟨hd,Zb⟩:=h.drop hi;have hlen:m.dv.length<=1000:=by
  have e1:=congrArg Z7 h.ds;have e2:=ok.dl;have:=ok.nc;unfold xb at e1;rw[RZ] at e1;omega
 have Zi:gS (xb m.dv):=by rw[h.ds];exact ok.rd
 have ic:∀ a k,a≠0->Lb m s.Da a k->(w.setCell ⟨m.eb,3+i,none⟩ (.pointer none)).heap[k]?=w.heap[k]?:=fun a k ha hk=>h_ _ _ _ _ fun e=>ha (h.ap a 0 k hk (by rw[e];exact h.xx));have WE:∀ a k,a≠0->Lb m s.Da a k->¬jn m.eb m.hv m.dv k:=fun a k ha hk e=>ha (h.ap a 0 k hk e);have YE:∀ a k,Lb m s.Da a k->k<w.heap.size:=fun a k e=>h.lt e;have hss:(w.setCell ⟨m.eb,3+i,none⟩ (.pointer none)).heap.size=w.heap.size:=by simp
 have HO:Hid (∀ W,Below (w.setCell ⟨m.eb,3+i,none⟩ (.pointer none)).heap.size (w.setCell ⟨m.eb,3+i,none⟩ (.pointer none)) W->Calls p_ 44 #[.pointer (some ⟨m.eb,0,none⟩)] W fun e w'=>e=.returned (.int .i64 (cI (nU s i):Int))/\w'=W):=fun W hb=>wN W (hd.on hb);have HF:Hid (∀ W,Below (w.setCell ⟨m.eb,3+i,none⟩ (.pointer none)).heap.size (w.setCell ⟨m.eb,3+i,none⟩ (.pointer none)) W->Calls p_ 82 #[.pointer (some ⟨m.eb,2,none⟩),.int .i64 (cI (nU s i):Int)] W fun e w'=>e=.returned (.tuple #[])/\zLO w w' B m s i):=fun W hb=>by
  have YN:=hd.on hb;refine(zG9 m.dv B m.eb m.hv (cI (nU s i):Int) W YN.hi Zi YN.tk hlen).mono ?_;rintro e w' ⟨rfl,v',Ai,hH,Bq,zq,Gu⟩;have jl:xb Ai=(Gd s i).ds:=by
   show _=s.ds.drop (cR s.ds (cI (nU s i)));rw[Bq,<-h.ds];unfold xb;rw[List.map_drop]
  obtain⟨q1,q2,q3⟩:=YN.FD hH zq Gu jl;refine⟨rfl,⟨_,q1,rfl,⟨rfl,fun _ _=>rfl⟩,(Zb.trans (.on hd.tk hb)).trans q2⟩,fun a k ha hk=>?_⟩;have Pn:k<(w.setCell ⟨m.eb,3+i,none⟩ (.pointer none)).heap.size:=by rw[hss];exact YE a k hk
  exact((Gu k (UY Pn hb.size) (WE a k ha hk)).1.trans (hb.block k Pn)).trans (ic a k ha hk)
 clear h hd Zb ic WE YE hss Zi hlen;generalize cI (nU s i)=old at *;generalize a0u:m.eb=eb at *;go_enter func36,ntmps36;go_wp2_with fail;generalize w.setCell ⟨eb,3+i,none⟩ (.pointer none)=W0 at *
 go_region_with (first
  | (go_at_call 44;refine(HO.out _ (r_ _ _).drew).mono ?_;rintro e w2 ⟨rfl,rfl⟩)
  | (go_at_call 82;refine(HF.out _ (r_ _ _).drew).mono ?_;rintro e w2 ⟨rfl,ha⟩;have HR:=aa ha;clear ha)
  | fail)
 all_goals
  go_wp2;go_end0;exact⟨rfl,HR.out⟩
end
def zI (s:Cc) (l:List ma):Cc:=if (Ha s.x l).1=0 then Le s l else { s with x:=(Ha s.x l).2 }
section
variable {B:Nat} {m:Ic} {s:Cc}
theorem vY {w':World} {ao:Option Addr} (h:bW w ao l) (hk:l≠[]->∀ b off,ao=some ⟨b,off,none⟩->w'.heap[b]?=w.heap[b]?):bW w' ao l:=by
 by_cases h0:l=[]
 ·exact .inl h0
 ·exact zCH h fun b off e _=>hk h0 b off e
theorem zLc (l:List ma) (ao:Option Addr) (cap:Nat) (w:World) (h:EK w B m s) (ok:Ed s) (hc:s.c<=190) (hl:bW w ao l) (sg:l≠[]->∀ b off,ao=some ⟨b,off,none⟩->¬Tb m s.Da b) (kh:∀ c∈l,aD c=0) (Mp:Pc l) (hn:l.length<=12):
  Calls p_ 40 #[.pointer (some ⟨m.eb,0,none⟩),.slice ao l.length cap] w fun e w'=>e=.returned (.tuple #[.int .i64 (if (Ha s.x l).1=0 then ((s.now+1:Nat):Int) else 0),pa (Ha s.x l).1])/\Je w w' B m s (zI s l):=by
 have c0:=h.cell0;have c1:=h.Li;have mi:∀ c∈l,c.key.size<=60:=fun c hc=>lD (kh c hc);have Gj:∀ c∈l,c.val.size<=40:=fun c hc=>(oO (kh c hc)).2;have Mu:=ok.nc;have jf:apart m.Ts ao l:=by
  by_cases h0:l=[]
  ·exact .inl h0
  ·rcases hl with e|⟨b,off,e,_⟩
   ·exact absurd e h0
   ·refine .inr fun a ea=>?_;rw[e] at ea;cases ea;exact fun hT=>sg h0 b off e ⟨1,hT⟩
 have Yl:l≠[]->∀ b off,ao=some ⟨b,off,none⟩->b<w.heap.size:=fun h0=>zU hl h0;have HS:=aa (zEV l ao cap w h.sa ok.g hl jf (by omega) fun c hc=>⟨by have:=mi c hc;omega,by have:=Gj c hc;omega⟩);have HK:=aa h;clear h;unfold zI;by_cases h0:(Ha s.x l).1=0
 ·rw[h0,if_pos rfl,aR];rw[h0,aR] at HS;have HD:=aa (zEX kh Mp);have HV:Hid (∀ w1,Dh w w1 B m.sb m.db m.Ts (Ha s.x l).2->w1.cell? ⟨m.eb,1,none⟩=some (.pointer (some ⟨m.vb,0,none⟩))/\Calls p_ 89 #[.pointer (some ⟨m.vb,0,none⟩),.slice ao l.length cap] w1 fun e w2=>e=.returned (.tuple #[.int .i64 ((s.now:Int)+1),.nilIface])/\Calls p_ 90 #[.pointer (some ⟨m.eb,2,none⟩),.int .i64 ((s.now:Int)+1),.slice ao l.length cap] w2 fun e w3=>e=.returned (.tuple #[])/\Je w w3 B m s (Le s l)):=fun w1 ha=>by
   obtain⟨T',k1,k2,k3⟩:=HK.out.store ha;have Rr:l≠[]->∀ b off,ao=some ⟨b,off,none⟩->¬Tb { m with Ts:=T' } s.Da b:=fun h0 b off e=>(k2.Ma b (Yl h0 b off e) (sg h0 b off e)).2;have jm:bW w1 ao l:=vY hl fun h0 b off e=>(k2.Ma b (Yl h0 b off e) (sg h0 b off e)).1;refine⟨k1.Li,(zEa l ao cap w1 k1.vs k1.tk jm (by omega) (fun c hc=>by have:=mi c hc;omega) (fun h0 b off e Ig=>Rr h0 b off e ⟨2,Ig⟩) (by show(0:Int)<=(s.now:Int);omega) (by show(s.now:Int)<=1000000;omega) (by have:=HK.out.mn;show m.many<=1000000;omega) (fun key=>by have:=ok.rl key;show(s.R key).length<=1000000;omega) HD.out).mono ?_⟩;rintro e w2 ⟨rfl,D',g',Jg,za,Ld⟩;refine⟨rfl,?_⟩;have CQ:VS w2 B m.vb m.mb ((s.now+1:Nat):Int) (m.many+l.length) D' g' (cW s.R ((s.now:Int)+1) l):=Jg;obtain⟨p1,p2,p3⟩:=k1.YF (c':=s.c+1) CQ za Ld (by have:=HK.out.mn;show m.many+l.length<=2000*(s.c+1+1);omega);have ME:=k2.Ia.size;have Vv:l≠[]->∀ b off,ao=some ⟨b,off,none⟩->¬Tb { m with Ts:=T',many:=m.many+l.length,D:=D',g:=g' } s.Da b:=fun h0 b off e=>(p2.Ma b (UY (Yl h0 b off e) ME) (Rr h0 b off e)).2;have Jh:bW w2 ao l:=vY jm fun h0 b off e=>(p2.Ma b (UY (Yl h0 b off e) ME) (Rr h0 b off e)).1;have jl:xb m.dv=s.ds:=HK.out.ds;have hlen:m.dv.length<=1000:=by
    have e1:=congrArg Z7 jl;have e2:=ok.dl;unfold xb at e1;rw[RZ] at e1;omega
   refine(zJF m.dv B m.eb m.hv ((s.now:Int)+1) ao cap l w2 p1.hi (by rw[jl];exact ok.rd) (by rw[jl];intro d hd;have:=ok.dn d hd;omega) p1.tk hlen Jh (by omega) fun h0 b off e=>⟨fun e2=>Vv h0 b off e ⟨0,.inl e2⟩,fun e2=>Vv h0 b off e ⟨0,.inr (.inl e2.symm)⟩⟩).mono ?_;rintro e w3 ⟨rfl,v',Ai,hH,Bq,Ra,RC⟩;obtain⟨r1,r2,_⟩:=p1.FD hH Ra RC (ds':=s.ds++[⟨(s.now:Int)+1,l.map (·.key)⟩]) (by rw[Bq,jl];rfl);exact⟨rfl,_,r1,rfl,⟨rfl,fun _ _=>rfl⟩,(k2.trans p2).trans r2⟩
  have hw:wrap64 ((s.now:Int)+1)=((s.now+1:Nat):Int):=by unfold wrap64;omega
  have e1:((s.now:Int)+1)=((s.now+1:Nat):Int):=by omega
  rw[e1] at HV;clear HK hl sg jf Yl kh Mp HD mi Gj;generalize (s.now+1:Nat)=nn at *;generalize Ha s.x l=R at *;generalize m.eb=eb at *;generalize m.vb=vb at *;go_enter func40,ntmps40;go_wp2_with fail;refine HS.out.mono ?_;rintro e w1 ⟨rfl,ha⟩;obtain⟨En,hvc⟩:=HV.out w1 ha;have EW:=aa hvc;clear HV HS ha hvc c0 c1;go_wp2_with fail;refine EW.out.mono ?_;rintro e w2 ⟨rfl,Uv⟩;have jt:=aa Uv;clear Uv EW En;go_wp2_with fail;refine jt.out.mono ?_;rintro e w3 ⟨rfl,ha⟩;have HR:=aa ha;clear ha jt;go_wp2;go_ret2;exact⟨rfl,HR.out⟩
 ·rw[if_neg h0,if_neg h0,aP h0];rw[aP h0] at HS;have HR:Hid (∀ w1,Dh w w1 B m.sb m.db m.Ts (Ha s.x l).2->Je w w1 B m s { s with x:=(Ha s.x l).2 }):=fun w1 ha=>by
   obtain⟨T',k1,k2,k3⟩:=HK.out.store ha;exact⟨_,k1,rfl,⟨rfl,fun _ _=>rfl⟩,k2⟩
  clear HK hl sg jf Yl kh Mp mi Gj;generalize Ha s.x l=R at *;go_enter func40,ntmps40;go_wp2_with fail;refine HS.out.mono ?_;rintro e w1 ⟨rfl,ha⟩;have HQ:=aa (HR.out w1 ha);clear HR HS ha c0 c1;go_wp2;go_ret2;exact⟨rfl,HQ.out⟩
end
theorem pI {N:Nat} {v:Value} (h:bO w N v l):∃ ao cap,v=.slice ao l.length cap/\bW w ao l/\∀ b off,ao=some ⟨b,off,none⟩->N<=b:=by
 rcases aX h with⟨e,e2⟩|⟨g,cap,e,_⟩
 ·exact⟨none,0,by rw[e,e2],.inl (E0.1 e2),fun b off e=>by cases e⟩
 ·refine⟨some ⟨g,0,none⟩,cap,e,.inr ⟨g,0,rfl,eW l 0 fun j u hj=>?_⟩,fun b off e'=>?_⟩
  ·have:=World.ownsRow.cells h (g:=g) (by rw[e];rfl) j u hj;rwa [Go.WideShapes.add_plain] at this
  ·cases e';exact(l_ h g (by rw[e];rfl)).1
section
variable {B:Nat} {m:Ic} {s:Cc}
theorem yZ (w:World) (h:EK w B m s) (ok:Ed s) (hi:i<4) (hc:s.c<=150):
  Calls p_ 13 #[.pointer (some ⟨m.eb,0,none⟩),.int .i64 (i:Int)] w fun e w'=>e=.returned (pa (dS s i).1)/\Je w w' B m s (dS s i).2:=by
 have nn:=eG;have n1:=bM 77;unfold dS
 cases hv:s.Da i with
 | none=>
  dsimp only;have HE:Hid (pa 7=.iface 77 (.int .i64 7)):=rfl;have HD:=aa (pC w h hi hv);have HS:=aa (h.stay (r_ _ w));rw[HE.out] at HD ⊢;clear h;go_enter func13,ntmps13;go_wp2_with fail;refine HD.out.mono ?_;rintro e w1 ⟨rfl,rfl⟩;go_wp2;go_ret;exact⟨rfl,HS.out⟩
 | some v=>
  dsimp only;have HD:=aa (mT w h hi hv);have HS:=aa (tE w h ok hi (by omega));rw[aR];clear h;go_enter func13,ntmps13;go_wp2_with fail;refine HD.out.mono ?_;rintro e w1 ⟨rfl,rfl⟩;go_wp2_with fail;refine HS.out.mono ?_;rintro e w2 ⟨rfl,ha⟩;have HR:=aa ha.1;clear ha;go_wp2;go_ret;exact⟨rfl,HR.out⟩
theorem zC5 (w:World) (h:EK w B m s) (ok:Ed s) (hi:i<4) (hc:s.c<=150) (hv:s.Da i=some v):
  Calls p_ 11 #[.pointer (some ⟨m.eb,0,none⟩),.int .i64 (i:Int)] w fun e w'=>e=.returned (.tuple #[.int .i64 ((Ac s i).1.1:Int),pa (Ac s i).1.2])/\Je w w' B m s (Ac s i).2:=by
 have nn:=eG;have n1:=bM 77;have gw:=ok.Da i v hv;have bn:=h.vw i v hv;have zr:=gw.ov.cn;have uz:=gw.ov.rn;have HD:=aa (mT w h hi hv);have gq:=aa (rF w bn (by omega));have eC:Ac s i=if v.ba=[] then ((v.n,0),Gd s i) else if lC s.ds v.ga v.n=false then ((0,9),Gd s i) else if (Ha s.x v.ba).1≠0 then ((0,(Ha s.x v.ba).1),{ s with x:=(Ha s.x v.ba).2 }) else ((s.now+1,0),Gd (Le s v.ba) i):=by
  unfold Ac;rw[hv]
 rw[eC];clear eC;have Mu:=ok.nc;by_cases h0:v.ba=[]
 ·rw[if_pos h0];dsimp only;rw[aR];have jq:Hid (∀ W,Below w.heap.size w W->Calls p_ 36 #[.pointer (some ⟨m.eb,0,none⟩),.int .i64 (i:Int)] W fun e w'=>e=.returned (.tuple #[])/\Je w w' B m s (Gd s i)/\Calls p_ 37 #[.pointer (some ⟨(m.W i).1,0,none⟩)] w' fun e w2=>e=.returned (.int .i64 (v.n:Int))/\w2=w'):=fun W hb=>by
   refine(tE W (h.on hb) ok hi (by omega)).mono ?_;rintro e w' ⟨rfl,⟨m',q1,q2,q3,q4⟩,ic⟩;refine⟨rfl,⟨m',q1,q2,q3,(aG.on h.tk hb).trans q4⟩,xR w' ((bn.on hb).kept fun k e=>ic (i+3) k (by omega) ⟨by rw[hv];exact nofun,e⟩)⟩
  rw[h0] at gq;clear h bn;go_enter func11,ntmps11;go_wp2_with fail;refine HD.out.mono ?_;rintro e w1 ⟨rfl,rfl⟩;go_wp2_with fail;refine gq.out.mono ?_;rintro e w2 ⟨cv,rfl,ho,za⟩;obtain⟨ao,cap,rfl,_,_⟩:=pI ho;have Bd:=aa (jq.out w2 za);clear ho za jq gq HD;go_wp2_with fail;refine Bd.out.mono ?_;rintro e w3 ⟨rfl,ha,hsi⟩;have HA:=aa ha;have LA:=aa hsi;clear ha hsi Bd;go_wp2_with fail;refine LA.out.mono ?_;rintro e w4 ⟨rfl,ti⟩;rw[ti];clear ti;go_wp2;go_ret2;exact⟨rfl,HA.out⟩
 ·rw[if_neg h0];have MD:¬(v.ba.length:Int)=0:=fun e=>h0 (E0.1 (by omega));have a0d:((v.ba.length:Int)==0)=false:=by simpa using MD
  have jl:xb m.dv=s.ds:=h.ds;have zg:m.dv.length<=1000:=by
   have e1:=congrArg Z7 jl;have e2:=ok.dl;unfold xb at e1;rw[RZ] at e1;omega
  have di:Hid (∀ W,Below w.heap.size w W->Calls p_ 39 #[.pointer (some ⟨(m.W i).1,0,none⟩)] W fun e w'=>∃ rv,e=.returned rv/\lL w' W.heap.size rv v.ga/\Below W.heap.size W w'):=fun W hb=>zIP W (bn.on hb) (by omega);have LA:Hid (∀ W,Below w.heap.size w W->Calls p_ 37 #[.pointer (some ⟨(m.W i).1,0,none⟩)] W fun e w'=>e=.returned (.int .i64 (v.n:Int))/\w'=W):=fun W hb=>xR W (bn.on hb);have Ys:Hid (∀ W ao cap,Below w.heap.size w W->bY W ao v.ga->Calls p_ 38 #[.pointer (some ⟨m.eb,2,none⟩),.slice ao v.ga.length cap,.int .i64 (v.n:Int)] W fun e w'=>e=.returned (.bool (lC s.ds v.ga v.n))/\Below W.heap.size W w'):=fun W ao cap hb hh=>by
   have:=zIq m.dv B m.eb m.hv (v.n:Int) v.ga ao cap W (h.on hb).hi (by rw[jl];exact ok.rd) zg (fun p hp=>by
    have:=ok.dk p.1 (by rw[<-jl];exact y_ hp);omega) hh (by unfold maxLen;omega)
   rw[jl] at this;exact this
  by_cases Ee:lC s.ds v.ga v.n=false
  ·rw[if_pos Ee];dsimp only;rw[Ee] at Ys;have VK:Hid (pa 9=.iface 77 (.int .i64 9)):=rfl;rw[VK.out];have jq:Hid (∀ W,Below w.heap.size w W->Calls p_ 36 #[.pointer (some ⟨m.eb,0,none⟩),.int .i64 (i:Int)] W fun e w'=>e=.returned (.tuple #[])/\Je w w' B m s (Gd s i)):=fun W hb=>by
    refine(tE W (h.on hb) ok hi (by omega)).mono ?_;rintro e w' ⟨rfl,⟨m',q1,q2,q3,q4⟩,ic⟩;exact⟨rfl,m',q1,q2,q3,(aG.on h.tk hb).trans q4⟩
   clear h bn jl;go_enter func11,ntmps11;go_wp2_with fail;refine HD.out.mono ?_;rintro e w1 ⟨rfl,rfl⟩;go_wp2_with fail;refine gq.out.mono ?_;rintro e w2 ⟨cv,rfl,ho,za⟩;obtain⟨ao,cap,rfl,_,_⟩:=pI ho;clear ho gq HD;go_wp2_with fail
   go_region_with (first
    | (go_at_call 39;refine(di.out _ ?_).mono ?_;exact za.drew;rintro e w3 ⟨rv,rfl,vm,Ra⟩;obtain⟨ra,rc,rfl,Vh,_⟩:=sI vm;have Zc:=aa (aB za.drew (n_ _) Ra);clear vm Ra)
    | (go_at_call 37;refine(LA.out _ ?_).mono ?_;(first|exact za.drew|exact Zc.out);rintro e w4 ⟨rfl,ti⟩;subst ti)
    | (go_at_call 38;refine(Ys.out _ ra rc Zc.out Vh).mono ?_;rintro e w5 ⟨rfl,qe⟩;have Wf:=aa (aB Zc.out (n_ _) qe);clear qe)
    | fail)
   all_goals
    have Bd:=aa (jq.out _ Wf.out);clear Wf;go_wp2_with fail;refine Bd.out.mono ?_;rintro e w6 ⟨rfl,ha⟩;have HA:=aa ha;clear ha Bd;go_wp2;go_ret2;exact⟨rfl,HA.out⟩
  ·rw[if_neg Ee];have Nn:lC s.ds v.ga v.n=true:=by simpa using Ee
   rw[Nn] at Ys;have Uk:Hid (∀ W ao cap,Below w.heap.size w W->bW W ao v.ba->(∀ b off,ao=some ⟨b,off,none⟩->w.heap.size<=b)->Calls p_ 40 #[.pointer (some ⟨m.eb,0,none⟩),.slice ao v.ba.length cap] W fun e w'=>e=.returned (.tuple #[.int .i64 (if (Ha s.x v.ba).1=0 then ((s.now+1:Nat):Int) else 0),pa (Ha s.x v.ba).1])/\Je w w' B m s (zI s v.ba)):=fun W ao cap hb hh xd=>by
    refine(zLc v.ba ao cap W (h.on hb) ok (by omega) hh (fun _ b off e Ig=>by
     obtain⟨a,ha⟩:=Ig;have:=h.lt ha;have:=xd b off e;omega) gw.oq.cf gw.ov.cr zr).mono ?_
    rintro e w' ⟨rfl,m',q1,q2,q3,q4⟩;exact⟨rfl,m',q1,q2,q3,(aG.on h.tk hb).trans q4⟩
   unfold zI at Uk;by_cases hR:(Ha s.x v.ba).1≠0
   ·rw[if_pos hR];dsimp only;rw[if_neg hR,if_neg hR] at Uk;rw[aP hR] at Uk ⊢;clear h bn jl;generalize Ha s.x v.ba=R at *;go_enter func11,ntmps11;go_wp2_with fail;refine HD.out.mono ?_;rintro e w1 ⟨rfl,rfl⟩;go_wp2_with fail;refine gq.out.mono ?_;rintro e w2 ⟨cv,rfl,ho,za⟩;obtain⟨ao,cap,rfl,Bf,xd⟩:=pI ho;clear ho gq HD;go_wp2_with fail
    go_region_with (first
     | (go_at_call 39;refine(di.out _ ?_).mono ?_;exact za.drew;rintro e w3 ⟨rv,rfl,vm,Ra⟩;obtain⟨ra,rc,rfl,Vh,_⟩:=sI vm;have Zc:=aa (aB za.drew (n_ _) Ra);have Lm:=aa (eA (aB (r_ _ w2).drew (n_ _) Ra) Bf);clear vm Ra)
     | (go_at_call 37;refine(LA.out _ ?_).mono ?_;(first|exact za.drew|exact Zc.out);rintro e w4 ⟨rfl,ti⟩;subst ti)
     | (go_at_call 38;refine(Ys.out _ ra rc Zc.out Vh).mono ?_;rintro e w5 ⟨rfl,qe⟩;have Wf:=aa (aB Zc.out (n_ _) qe);have Ut:=aa (eA qe Lm.out);clear qe)
     | fail)
    all_goals
     have Bd:=aa (Uk.out _ ao cap Wf.out Ut.out xd);clear Wf Ut;go_wp2_with fail;refine Bd.out.mono ?_;rintro e w6 ⟨rfl,ha⟩;have HA:=aa ha;clear ha Bd;go_wp2;go_ret2;exact⟨rfl,HA.out⟩
   ·rw[if_neg hR];have vt:(Ha s.x v.ba).1=0:=by simpa using hR
    dsimp only;rw[vt] at Uk;simp only[if_true] at Uk;rw[aR] at Uk ⊢;have Lt:=ok.add vt;have jq:Hid (∀ W,Je w W B m s (Le s v.ba)->Calls p_ 36 #[.pointer (some ⟨m.eb,0,none⟩),.int .i64 (i:Int)] W fun e w'=>e=.returned (.tuple #[])/\Je w w' B m s (Gd (Le s v.ba) i)):=fun W ha=>by
     obtain⟨m1,p1,p2,p3,p4⟩:=ha;have:=tE W p1 Lt hi (by show s.c+1<=190;omega);rw[p2] at this;refine this.mono ?_;rintro e w' ⟨rfl,⟨m',q1,q2,q3,q4⟩,ic⟩;exact⟨rfl,m',q1,q2.trans p2,⟨q3.1.trans p3.1,fun j hj=>(q3.2 j hj).trans (p3.2 j hj)⟩,p4.trans q4⟩
    clear h bn jl Lt;generalize (s.now+1:Nat)=nn1 at *;go_enter func11,ntmps11;go_wp2_with fail;refine HD.out.mono ?_;rintro e w1 ⟨rfl,rfl⟩;go_wp2_with fail;refine gq.out.mono ?_;rintro e w2 ⟨cv,rfl,ho,za⟩;obtain⟨ao,cap,rfl,Bf,xd⟩:=pI ho;clear ho gq HD;go_wp2_with fail
    go_region_with (first
     | (go_at_call 39;refine(di.out _ ?_).mono ?_;exact za.drew;rintro e w3 ⟨rv,rfl,vm,Ra⟩;obtain⟨ra,rc,rfl,Vh,_⟩:=sI vm;have Zc:=aa (aB za.drew (n_ _) Ra);have Lm:=aa (eA (aB (r_ _ w2).drew (n_ _) Ra) Bf);clear vm Ra)
     | (go_at_call 37;refine(LA.out _ ?_).mono ?_;(first|exact za.drew|exact Zc.out);rintro e w4 ⟨rfl,ti⟩;subst ti)
     | (go_at_call 38;refine(Ys.out _ ra rc Zc.out Vh).mono ?_;rintro e w5 ⟨rfl,qe⟩;have Wf:=aa (aB Zc.out (n_ _) qe);have Ut:=aa (eA qe Lm.out);clear qe)
     | fail)
    all_goals
     have Bd:=aa (Uk.out _ ao cap Wf.out Ut.out xd);clear Wf Ut;go_wp2_with fail;refine Bd.out.mono ?_;rintro e w6 ⟨rfl,ha⟩;have Pm:=aa (jq.out _ ha);clear ha Bd;go_wp2_with fail;refine Pm.out.mono ?_;rintro e w7 ⟨rfl,ha⟩;have HA:=aa ha;clear ha Pm;go_wp2;go_ret2;exact⟨rfl,HA.out⟩
theorem zCO (w:World) (h:EK w B m s) (hi:i<4) (hv:s.Da i=none):
  Calls p_ 11 #[.pointer (some ⟨m.eb,0,none⟩),.int .i64 (i:Int)] w fun e w'=>e=.returned (.tuple #[.int .i64 ((Ac s i).1.1:Int),pa (Ac s i).1.2])/\Je w w' B m s (Ac s i).2:=by
 have nn:=eG;have n1:=bM 77;have eC:Ac s i=((0,7),s):=by unfold Ac;rw[hv]
 rw[eC];dsimp only;have HE:Hid (pa 7=.iface 77 (.int .i64 7)):=rfl;have HD:=aa (pC w h hi hv);have HS:=aa (h.stay (r_ _ w));rw[HE.out] at HD ⊢;clear h;go_enter func11,ntmps11;go_wp2_with fail;refine HD.out.mono ?_;rintro e w1 ⟨rfl,rfl⟩;go_wp2;go_ret2;exact⟨rfl,HS.out⟩
theorem vX (w:World) (h:EK w B m s) (ok:Ed s) (hi:i<4) (hc:s.c<=150):
  Calls p_ 11 #[.pointer (some ⟨m.eb,0,none⟩),.int .i64 (i:Int)] w fun e w'=>e=.returned (.tuple #[.int .i64 ((Ac s i).1.1:Int),pa (Ac s i).1.2])/\Je w w' B m s (Ac s i).2:=by
 cases hv:s.Da i with
 | none=>exact zCO w h hi hv
 | some v=>exact zC5 w h ok hi hc hv
end
theorem zCA (i:Int) (hi:i<0∨3<i) (w:World):Calls p_ 33 #[.int .i64 i] w fun e w'=>e=.returned (.bool false)/\w'=w:=by
 by_cases h1:(0:Int)<=i
 ·have h2:¬i<4:=by omega
  go_enter func33,ntmps33;go_wp2;go_ret;exact⟨rfl,rfl⟩
 ·go_enter func33,ntmps33;go_wp2;go_ret;exact⟨rfl,rfl⟩
theorem zNS (eb:Nat) (i:Int) (hi:i<0∨3<i) (w:World):Calls p_ 9 #[.pointer (some ⟨eb,0,none⟩),.int .i64 i] w fun e w'=>e=.returned (pa 1)/\w'=w:=by
 have HE:Hid (pa 1=.iface 77 (.int .i64 1)):=rfl;rw[HE.out];have HI:=aa (zCA i hi w);clear hi;go_enter func9,ntmps9;go_wp2_with fail;refine HI.out.mono ?_;rintro e w1 ⟨rfl,rfl⟩;go_wp2;go_ret;exact⟨rfl,rfl⟩
theorem PS (eb:Nat) (i:Int) (hi:i<0∨3<i) (w:World):Calls p_ 19 #[.pointer (some ⟨eb,0,none⟩),.int .i64 i] w fun e w'=>e=.returned (.tuple #[.pointer none,pa 1])/\w'=w:=by
 have HE:Hid (pa 1=.iface 77 (.int .i64 1)):=rfl;rw[HE.out];have HI:=aa (zCA i hi w);clear hi;go_enter func19,ntmps19;go_wp2_with fail;refine HI.out.mono ?_;rintro e w1 ⟨rfl,rfl⟩;go_wp2;go_ret2;exact⟨rfl,rfl⟩
theorem zNy (eb:Nat) (i:Int) (hi:i<0∨3<i) (w:World):Calls p_ 11 #[.pointer (some ⟨eb,0,none⟩),.int .i64 i] w fun e w'=>e=.returned (.tuple #[.int .i64 0,pa 1])/\w'=w:=by
 have n1:=bM 77;have HE:Hid (pa 1=.iface 77 (.int .i64 1)):=rfl;have HI:=aa (PS eb i hi w);rw[HE.out] at HI ⊢;clear hi;go_enter func11,ntmps11;go_wp2_with fail;refine HI.out.mono ?_;rintro e w1 ⟨rfl,rfl⟩;go_wp2;go_ret2;exact⟨rfl,rfl⟩
theorem zNR (eb:Nat) (i:Int) (hi:i<0∨3<i) (w:World):Calls p_ 13 #[.pointer (some ⟨eb,0,none⟩),.int .i64 i] w fun e w'=>e=.returned (pa 1)/\w'=w:=by
 have n1:=bM 77;have HE:Hid (pa 1=.iface 77 (.int .i64 1)):=rfl;have HI:=aa (PS eb i hi w);rw[HE.out] at HI ⊢;clear hi;go_enter func13,ntmps13;go_wp2_with fail;refine HI.out.mono ?_;rintro e w1 ⟨rfl,rfl⟩;go_wp2;go_ret;exact⟨rfl,rfl⟩
section
variable {B:Nat} {m:Ic} {s:Cc}
theorem zC2 (w:World) (h:EK w B m s) (ok:Ed s) (hc:s.c<=150):
  Calls p_ 15 #[.pointer (some ⟨m.eb,0,none⟩)] w fun e w'=>e=.returned (.tuple #[])/\Je w w' B m s (Jj s):=by
 have c1:=h.Li;have hmn:=h.mn;have Mu:=ok.nc;have HO:Hid (∀ W,Below w.heap.size w W->Calls p_ 44 #[.pointer (some ⟨m.eb,0,none⟩)] W fun e w'=>e=.returned (.int .i64 (cI s:Int))/\w'=W):=fun W hb=>wN W (h.on hb);have HV:Hid (∀ W,Below w.heap.size w W->Calls p_ 43 #[.pointer (some ⟨m.vb,0,none⟩),.int .i64 (cI s:Int)] W fun e w'=>e=.returned (.tuple #[])/\Je w w' B m s (Jj s)):=fun W hb=>by
  have hW:=h.on hb;refine(zGK (cI s:Int) W hW.vs hW.tk (by omega) (fun key=>by have:=ok.rl key;omega)).mono ?_;rintro e w' ⟨rfl,K,n',D',g',hK,yl,Ro,Sd,Cq⟩;have KB:K.length<=2000:=by
   obtain⟨L,YM,LB⟩:=ok.kl;have:=zBQ hK.1 fun k hk=>LB k ((hK.2 k).1 hk).2;omega
  rw[zMn hK] at Ro;obtain⟨q1,q2,_⟩:=hW.YF (c':=s.c+1) Ro Sd Cq (by omega);exact⟨rfl,_,q1,rfl,⟨rfl,fun _ _=>rfl⟩,(aG.on h.tk hb).trans q2⟩
 clear h;generalize cI s=old at *;generalize m.eb=eb at *;generalize m.vb=vb at *;go_enter func15,ntmps15
 go_region_with (first
  | (go_at_call 44;refine(HO.out _ (r_ _ _).drew).mono ?_;rintro e w2 ⟨rfl,rfl⟩)
  | (go_at_call 43;refine(HV.out _ (r_ _ _).drew).mono ?_;rintro e w2 ⟨rfl,ha⟩;have HR:=aa ha;clear ha)
  | fail)
 all_goals
  go_wp2;go_end0;exact⟨rfl,HR.out⟩
theorem zKv (w:World) (h:EK w B m s) (ok:Ed s):
  Calls p_ 17 #[.pointer (some ⟨m.eb,0,none⟩)] w fun e w'=>e=.returned (pa (zc s.x).1)/\Je w w' B m s (ir s):=by
 have c0:=h.cell0;have HC:Hid (Calls p_ 46 #[.pointer (some ⟨m.sb,0,none⟩)] w fun e w'=>e=.returned (pa (zc s.x).1)/\Je w w' B m s (ir s)):=by
  refine(zDC w h.sa ok.g).mono ?_;rintro e w' ⟨rfl,ha⟩;obtain⟨T',k1,k2,_⟩:=h.store ha;exact⟨rfl,_,k1,rfl,⟨rfl,fun _ _=>rfl⟩,k2⟩
 clear h;generalize pa (zc s.x).1=ev at *;go_enter func17,ntmps17;go_wp2_with fail;refine HC.out.mono ?_;rintro e w1 ⟨rfl,ha⟩;have HR:=aa ha;clear ha;go_wp2;go_ret;exact⟨rfl,HR.out⟩
theorem zHT (w:World) (h:EK w B m s) (ok:Ed s) (hc:s.c<=190):
  Calls p_ 16 #[.pointer (some ⟨m.eb,0,none⟩)] w fun e w'=>∃ K,e=.returned (.int .i64 (Hf s.R K:Nat))/\keysV s.R K/\Below w.heap.size w w':=by
 have c1:=h.Li;have hmn:=h.mn;have Mu:=ok.nc;have HC:=aa (zL4 w h.vs (by omega) (fun key=>by have:=ok.rl key;omega));clear h;go_enter func16,ntmps16;go_wp2_with fail;refine HC.out.mono ?_;rintro e w1 ⟨K,rfl,hK,hb⟩;go_wp2;go_ret;exact⟨K,rfl,hK,hb⟩
end
theorem VS.down {B' vb mb:Nat} {now:Int} {D:DataW Value} {g:ByteArray->Value} (h:VS w B vb mb now n D g R) (hB:B'<=B):VS w B' vb mb now n D g R:=
 { h with rows:=fun key=>ownsRow_le (h.rows key) hB,Cm:=BZ hB h.Cm,Bm:=BZ hB h.Bm }
structure VJ (w w':World) (B eb db:Nat) (S:Nat->Prop) (s:Cc):Prop where
 ex:∃ m,EK w' B m s/\m.eb=eb/\m.db=db/\∀ k,Tb m s.Da k->S k∨w.heap.size<=k
 Ia:Below w.heap.size w w'
theorem zIf {db:Nat} {S:Nat->Prop} {d:Bb} {ia first u:Nat} {rows:List ma} (w:World) (hk:DK w B db S d) (hr:cQ d ia first u rows):
  Calls p_ 18 #[.pointer (some ⟨db,0,none⟩)] w fun e w'=>∃ eb,e=.returned (.tuple #[.pointer (some ⟨eb,0,none⟩),.nilIface])/\VJ w w' B eb db S (Qu d ia first u rows):=by
 have nn:=eG;have ee:=hr.Mi;have Dr:=hr.we;have hBw:=hk.lo;have a0l:∀ k,S k->k<w.heap.size:=fun k e=>hk.lt e;have HO:=aa (zFO w hk hr);have Xq:Hid ((aS rows).length<=1000/\∀ r∈aS rows,r.1.size<=1000000):=by
  have ov:=yA Dr ee;have h1:=ov.len;refine⟨by omega,fun r hr=>?_⟩;have:=ov.keys r hr;omega
 clear hk;go_enter func18,ntmps18;go_wp2_with fail;refine HO.out.mono ?_;rintro e w1 ⟨sb,rfl,Lu⟩;obtain⟨T,si,hT⟩:=Lu.sa;have Ba:=Lu.Ia;have JA:=aa (zBm w1 si (by show rows.length<=1000;omega));have vo:=aa si;have HT:=aa hT;have zb:=aa Ba;clear Lu si hT Ba HO;go_wp2_with fail;refine JA.out.mono ?_;rintro e w2 ⟨rv,rfl,ho,za⟩;obtain⟨ra,rc,rfl,Vh⟩:=lV ho;have FV:=aa (zMl (aS rows) ra rc w2 Vh Xq.out.1 Xq.out.2);have Cb:=aa za;clear ho za Vh JA;go_wp2_with fail;refine FV.out.mono ?_;rintro e w3 ⟨vb,rfl,Ra,mb,D,g,Kk⟩;have HV:=aa Kk;have Zc:=aa Ra;clear Kk Ra FV;go_wp2;go_ret2;refine⟨_,rfl,?_⟩;have Ja:=a_ w3 (LY (some ⟨sb,0,none⟩) (some ⟨vb,0,none⟩));have s1:=zb.out.size;have s2:=Cb.out.size;have s3:=Zc.out.size;have NN:=aB Cb.out (n_ _) Zc.out;have BC:=aB NN (n_ _) Ja
 let m:Ic:=⟨w3.heap.size,sb,db,vb,mb,(aS rows).length,D,g,.slice none 0 0,[],fun _=>(0,.slice none 0 0,.slice none 0 0),T,fun _=>False⟩
 have CN:∀ k,T k->k<w1.heap.size:=fun k e=>vo.out.lt e;have SB:∀ k,Gb vb mb g k->w2.heap.size<=k:=by
  rintro k (rfl|rfl|⟨key,e⟩)
  ·exact HV.out.Cm
  ·exact HV.out.Bm
  ·exact(l_ (HV.out.rows key) k e).1
 have EN:∀ k,Gb vb mb g k->k<w3.heap.size:=fun k e=>HV.out.lt e;have hH:∀ k,jn w3.heap.size (.slice none 0 0) [] k->k=w3.heap.size:=by
  rintro k (rfl|e|⟨p,hp,_⟩)
  ·rfl
  ·cases e
  ·cases hp
 refine⟨⟨m,⟨?_,(vo.out.on BC),?_,(fun i v hv=>by cases hv),rfl,?_,?_,fun _ _=>rfl⟩,rfl,rfl,?_⟩,?_⟩
 ·exact {
   cell:=aC _ _ _ 2
   soft:=aQ _ _ _ 2
   lo:=by show B<=w3.heap.size;omega
   own:=World.ownsRow_nil _ _ _ _
   keys:=by intro p hp;cases hp
   off:=by simp[m,Value.ownBlock]
   vf:=by intro p hp;cases hp
   apart:=by intro p hp;cases hp
   pair:=List.Pairwise.nil
   rest:=fun j=>⟨fun hj=>by
    show(w3.alloc _).cell? ⟨w3.heap.size,j,none⟩=_;rw[aC];have Td:j=0∨j=1∨j=3∨j=4∨j=5∨j=6∨7<=j:=by omega
    rcases Td with rfl|rfl|rfl|rfl|rfl|rfl|h7
    ·rfl
    ·rfl
    ·rfl
    ·rfl
    ·rfl
    ·rfl
    ·unfold Sg;rw[if_neg (by omega),if_neg (by omega),if_neg (by omega)];exact Array.getElem?_eq_none h7,aQ _ _ _ j⟩ }
 ·exact(HV.out.on Ja).down (by omega)
 ·have Bh:∀ i k,Lb m (Qu d ia first u rows).Da i k->(i=0/\k=w3.heap.size)∨(i=1/\k<w1.heap.size)∨(i=2/\w2.heap.size<=k/\k<w3.heap.size):=by
   intro i k hk
   match i,hk with
   | 0,hk=>exact .inl ⟨rfl,hH k hk⟩
   | 1,hk=>exact .inr (.inl ⟨rfl,CN k hk⟩)
   | 2,hk=>exact .inr (.inr ⟨rfl,SB k hk,EN k hk⟩)
   | i+3,hk=>exact absurd rfl hk.1
  intro i j k h1 h2;rcases Bh i k h1 with⟨a,b⟩|⟨a,b⟩|⟨a,b,c⟩<;>rcases Bh j k h2 with⟨a',b'⟩|⟨a',b'⟩|⟨a',b',c'⟩<;>omega
 ·have:=Xq.out.1;show(aS rows).length<=2000*(0+1);omega
 ·rintro k ⟨i,hk⟩
  match i,hk with
  | 0,hk=>have:=hH k hk;exact .inr (by omega)
  | 1,hk=>exact HT.out k hk
  | 2,hk=>have:=SB k hk;exact .inr (by omega)
  | i+3,hk=>exact absurd rfl hk.1
 ·exact aB zb.out (n_ _) BC
end
section
open Go.RowKit Go.Joins Go.Shelf
theorem zIs {n:Int} {K':List ByteArray} {P:ta} (hK':keysV (Te R n) K') (hu:nC R n) (hP:bV P) (hk:∀ r∈P,r.1.size<=maxLen) (h:Mg R n P):Hf (Te R n) K'=P.length:=by
 have hlen:∀ key,key.size<=maxLen->(Te R n key).length=if (Ib P key).2 then 1 else 0:=fun key hs=>by
  unfold Te;rw[if_pos hs,zHQ (hu key),h key]
 have Pn:keysV (Te R n) (P.map (·.1)):=⟨zFA hP,fun key=>by
  constructor
  ·intro hm;have hs:key.size<=maxLen:=by
    obtain⟨r,hr,rfl⟩:=List.mem_map.1 hm;exact hk r hr
   refine⟨hs,fun e=>?_⟩;have:=hlen key hs;rw[(wX hP key).2 hm,e] at this;simp at this
  ·rintro⟨hs,La⟩;rw[<-wX hP]
   cases e:(Ib P key).2 with
   | true=>rfl
   | false=>
    have:=hlen key hs;rw[e] at this;exact absurd (E0.1 (by simpa using this)) La⟩
 rw[zGL hK' Pn];unfold Hf;have:((P.map (·.1)).map fun k=>(Te R n k).length)=P.map fun _=>1:=by
  rw[List.map_map];refine List.map_congr_left fun r hr=>?_;show(Te R n r.1).length=1;rw[hlen r.1 (hk r hr),(wX hP r.1).2 (y_ hr)];rfl
 rw[this];exact RF P
end
section
open Go.RowKit Go.Joins
attribute [local go_sem ↓] Go.wp_at_zero Go.wp_at_succ
theorem zGX (s:Cc) (i:Nat):(dX s i).Da i=some ⟨aS s.x.rows,s.now,[],[]⟩:=by
 show Ab s.Da i _ i=_;exact hE _ _ _
theorem zHj (s:Cc) (i:Nat) (v:Mc) (ba:List ma) (ga:ta):(jU s i v ba ga).Da i=some ⟨v.P,v.n,ba,ga⟩:=by
 show Ab s.Da i _ i=_;exact hE _ _ _
structure WS (s:Cc) (n:Nat):Prop where
 ok:Ed s
 rows:s.x.rows=[]
 left:s.x.d.left=-1
 len:s.x.d.now.length=n
 used:s.x.used=0
 now:s.now=0
 c:s.c=0
 ds:s.ds=[]
 Da:∀ i,s.Da i=none
structure zL2 (w w':World) (n db eb:Nat):Prop where
 ex:∃ m s,EK w' w.heap.size m s/\m.eb=eb/\m.db=db/\WS s n
 Ia:Below w.heap.size w w'
theorem vC (n:Nat) (w:World) (h1:54<=n) (h2:n<=200):Calls p_ 6 #[.int .i64 (n:Int)] w fun e w'=>∃ db eb,e=.returned (.tuple #[.pointer (some ⟨db,0,none⟩),.pointer (some ⟨eb,0,none⟩),.bool true])/\zL2 w w' n db eb:=by
 have nn:=eG;have hlen:(qQ n).now.length=n:=by show(List.replicate n (bD 96)).length=n;simp
 have hfg:=zD1 (s:=qQ n) rfl rfl (by rw[hlen];exact h1);have Rz:=aa hfg;have Sq:=aa hlen;clear hfg hlen;generalize aM (qQ n).now=fr at *;generalize hl:dC 0 [] (qQ n)=r at *;have HL:=aa hl;clear hl;go_enter func6,ntmps6;go_wp2_with fail;refine(zDe n _ (by omega) h2).mono ?_;rintro e w1 ⟨db,rfl,⟨S1,ml⟩,Ba⟩;have Kf:=aa (zFF w1 ml (by rw[Sq.out];exact h1));rw[HL.out,Rz.out.1,aR] at Kf;have zb:=aa Ba;clear ml Ba;go_wp2_with fail;refine Kf.out.mono ?_;rintro e w2 ⟨rfl,S2,lf,Ub⟩;have VG:=aa (zIf w2 lf Rz.out.2.1);have Cb:=aa (zb.out.trans Ub.Ia);clear lf Ub Kf;go_wp2_with fail;refine VG.out.mono ?_;rintro e w3 ⟨eb,rfl,Ct⟩;have EV:=aa Ct;clear Ct VG;go_wp2;go_ret3;obtain⟨m,Cj,he1,Sx,_⟩:=EV.out.ex;exact⟨db,eb,rfl,⟨m,_,Cj,he1,Sx,Ed.new Rz.out.2.1,rfl,Rz.out.2.2.1,Rz.out.2.2.2.trans Sq.out,rfl,rfl,rfl,rfl,fun _=>rfl⟩,aB Cb.out (n_ _) EV.out.Ia⟩
def wK:ByteArray:=⟨#[116,47,97]⟩
def wV:ByteArray:=⟨#[120]⟩
theorem YR:aD ⟨wK,wV,false⟩=0:=by decide +kernel
theorem zFa:cH [] ⟨wK,wV,false⟩=0/\bG [] ⟨wK,wV,false⟩=[⟨wK,wV,false⟩]:=by
 have h:cH [] ⟨wK,wV,false⟩=0:=by
  unfold cH;rw[if_pos YR];rfl
 exact⟨h,by unfold bG;rw[if_pos h];rfl⟩
theorem zIT (h:WS s n) (hn:54<=n) {c:ma} (hc:aD c=0) (hg:c.gone=false):Uc s.x [c]=0/\(aK s.x.rows [c]).length=1:=by
 have hb:aK s.x.rows [c]=[c]:=by
  rw[h.rows];show([c].filter fQ)=[c];have:fQ c=true:=by unfold fQ;rw[hg];rfl
  rw[List.filter_cons_of_pos this];rfl
 refine⟨?_,by rw[hb];rfl⟩;unfold Uc;have hd:jW [c]=0:=by
  unfold jW;rw[if_neg (by show ¬12<1;decide)];show(if aD c=0 then 0 else aD c)=0;rw[if_pos hc]
 rw[if_neg (by rw[hd];decide),if_neg];rw[hb,h.len];show ¬(40<1∨n-50<1+1);omega
theorem pX (W:World):(binOp .eql 42 .nilIface .nilIface).run p_ W=.ok (.bool true) W:=by kernel_rfl
def Z_:ta:=Oe [] [] wK
theorem zPu:(Rb [] [] [] wK).2.2=0:=by decide +kernel
theorem zPv:lC [⟨1,[wK]⟩] Z_ 0=false:=by decide +kernel
theorem zPi:cR [⟨1,[wK]⟩] 0=0:=by decide +kernel
structure Tl (s:Cc) (k:Nat):Prop where
 fit:Fit s 80
 rows:s.x.rows=[]
 used:s.x.used=0
 now:s.now=0
 c:s.c=0
 ds:s.ds=[]
 Da:∀ i,s.Da i=if i<k then some ⟨[],0,[⟨wK,wV,false⟩],Z_⟩ else none
theorem Tl.next {k:Nat} (h:Tl s k) (hk:k<2) (hv:v=⟨aS s.x.rows,s.now,[],[]⟩) (h1:Zk v.P [⟨wK,wV,false⟩] Z_):Tl (jU (jU (dX s k) k v [] Z_) k ⟨v.P,v.n,[],Z_⟩ [⟨wK,wV,false⟩] Z_) (k+1):=by
 have e1:(dX s k).Da k=some v:=by rw[hv];exact zGX s k
 have hb:=h.fit.begin (i:=k) (by omega);have ho:=(hb.ok.Da k v e1);have e2:(jU (dX s k) k v [] Z_).Da k=some ⟨v.P,v.n,[],Z_⟩:=zHj _ _ _ _ _;have Qg:v.P=[]/\v.n=0:=by rw[hv,h.rows];exact⟨rfl,h.now⟩
 have h2:Ed (jU (dX s k) k v [] Z_):=hb.ok.view e1 { h1 with cn:=by simp,ck:=by simp,cr:=List.Pairwise.nil } ⟨ho.oq.rk,by simp⟩;have h3:Ed (jU (jU (dX s k) k v [] Z_) k ⟨v.P,v.n,[],Z_⟩ [⟨wK,wV,false⟩] Z_):=h2.view e2 h1 ⟨ho.oq.rk,fun c hc=>by rw[List.mem_singleton.1 hc];exact YR⟩;refine⟨⟨h3,fun i hi=>?_,h.fit.left,h.fit.len⟩,h.rows,h.used,h.now,h.c,h.ds,fun i=>?_⟩
 all_goals
  show Ab (Ab (Ab s.Da k _) k _) k _ i=_;by_cases e:i=k
  ·first|omega|(subst e;rw[hE,if_pos (by omega),Qg.1,Qg.2])
  ·rw[hU _ e,hU _ e,hU _ e]
   first|exact h.fit.s4 i hi|(rw[h.Da i];by_cases e2:i<k;rw[if_pos e2,if_pos (by omega)];rw[if_neg e2,if_neg (by omega)])
theorem Tl.both (h:Tl s 2):Ac s 1=((1,0),(Ac s 1).2)/\Fit (Ac s 1).2 80/\(Ac s 1).2.c<=1/\(Ac (Ac s 1).2 0).1=(0,9)/\(Ac (Ac s 1).2 0).2.now=1:=by
 have e0:s.Da 0=some ⟨[],0,[⟨wK,wV,false⟩],Z_⟩:=by rw[h.Da 0];rfl
 have e1:s.Da 1=some ⟨[],0,[⟨wK,wV,false⟩],Z_⟩:=by rw[h.Da 1];rfl
 have fr:WS { s with Da:=fun _=>none } 80:=⟨{ h.fit.ok with Da:=fun i v hv=>by cases hv },h.rows,h.fit.left,h.fit.len,h.used,h.now,h.c,h.ds,fun _=>rfl⟩;have kh:=(zIT fr (by decide) YR rfl).1;have vt:(Ha s.x [⟨wK,wV,false⟩]).1=0:=(h.fit.ok.g.never h.fit.left _).1.trans kh;have hE:Ac s 1=((s.now+1,0),Gd (Le s [⟨wK,wV,false⟩]) 1):=by
  unfold Ac;rw[e1];dsimp only;rw[if_neg (by simp),if_neg (by rw[h.ds];unfold lC;simp),if_neg (by rw[vt];decide)]
 obtain⟨f1,f2⟩:=h.fit.TW (i:=1) (by decide);have hold:cI (nU (Le s [⟨wK,wV,false⟩]) 1)=0:=by
  have h0:(nU (Le s [⟨wK,wV,false⟩]) 1).Da 0=some ⟨[],0,[⟨wK,wV,false⟩],Z_⟩:=by
   show Ab s.Da 1 none 0=_;rw[hU _ (by decide)];exact e0
  have:=yI (by decide) h0;exact Nat.le_zero.1 this
 have jl:(Gd (Le s [⟨wK,wV,false⟩]) 1).ds=[⟨1,[wK]⟩]:=by
  show(s.ds++[(⟨(s.now:Int)+1,[wK]⟩:aU)]).drop (cR (s.ds++[(⟨(s.now:Int)+1,[wK]⟩:aU)]) (cI (nU (Le s [⟨wK,wV,false⟩]) 1)))=_;rw[hold,h.ds,h.now];show List.drop (cR [⟨1,[wK]⟩] 0) _=_;rw[zPi];rfl
 have h0:(Gd (Le s [⟨wK,wV,false⟩]) 1).Da 0=some ⟨[],0,[⟨wK,wV,false⟩],Z_⟩:=by
  show Ab s.Da 1 none 0=_;rw[hU _ (by decide)];exact e0
 have hE2:Ac (Gd (Le s [⟨wK,wV,false⟩]) 1) 0=((0,9),Gd (Gd (Le s [⟨wK,wV,false⟩]) 1) 0):=by
  unfold Ac;rw[h0];dsimp only;rw[if_neg (by simp),if_pos (by rw[jl];exact zPv)]
 refine⟨by rw[hE,h.now],f1,by rw[h.c] at f2;exact f2,?_,?_⟩
 ·rw[hE];dsimp only;rw[hE2]
 ·rw[hE];dsimp only;rw[hE2];show s.now+1=1;rw[h.now]
theorem zO3 (w:World):Calls p_ 4 #[] w fun e w'=>e=.returned (.bool true)/\Below w.heap.size w w':=by
 have nn:=eG;have ne:=pX;go_enter func4,ntmps4;go_wp2_with fail;refine(vC 80 w (by decide) (by decide)).mono ?_;rintro e w1 ⟨db,eb,rfl,Zb⟩;obtain⟨m,s,Cj,he,_,fr⟩:=Zb.ex;have Py:Hid (∃ m s,EK w1 w.heap.size m s/\m.eb=eb/\Tl s 0):=⟨m,s,Cj,he,⟨fr.ok,Cj.s4,fr.left,fr.len⟩,fr.rows,fr.used,fr.now,fr.c,fr.ds,fun i=>fr.Da i⟩;have zb:=aa Zb.Ia;clear Zb Cj he fr;go_wp2_with fail
 go_loopw [4] (fun iv wq=>∃ k:Nat,k<=2/\iv=.int .i64 (k:Int)/\(∃ m s,EK wq w.heap.size m s/\m.eb=eb/\Tl s k)/\Below w.heap.size w wq) (fun iv _=>2-(intOf iv).toNat)
 case atStart=>exact⟨0,by omega,rfl,Py.out,zb.out⟩
 case round=>
  obtain⟨k,hk,rfl,⟨m,s,Cj,he,hR⟩,zq⟩:=hrel;clear Py zb;have fv:=aa zq;clear zq;by_cases lf:k<2
  ·have QO:(k:Int)<2:=by omega
   have rz:s.Da k=none:=by rw[hR.Da k,if_neg (by omega)]
   have IK:=aa (wB _ Cj (i:=k) (by omega) rz);rw[he] at IK;have HR:=aa hR;clear Cj hR rz;go_wp2_with fail;refine IK.out.mono ?_;rintro e w2 ⟨rfl,m2,Fu,Sx,_,Ub⟩;have Lt:=(HR.out.fit.begin (i:=k) (by omega)).ok;have Qj:(dX s k).Da k=some ⟨aS s.x.rows,s.now,[],[]⟩:=zGX s k;have Oz:=aa (mT w2 Fu (i:=k) (by omega) Qj);have Aj:(dX s k).c=0:=HR.out.c;have hpv:=Fu.pv Lt Qj (by rw[Aj];decide);have vz:aS s.x.rows=[]:=by rw[HR.out.rows];rfl
   have oy:=zMZ wK w2 hpv (by decide);have eG:(Rb [] [] (aS s.x.rows) wK).2.2=0:=by rw[vz];exact zPu
   rw[eG,aR] at oy;have Av:=aa oy;have Pz:=aa Fu;have Cb:=aa (fv.out.trans Ub.Ia);rw[Sx,he] at Oz;clear Fu Ub oy IK fv hpv;go_wp2_with fail;refine Oz.out.mono ?_;rintro e w3 ⟨rfl,uf⟩;rw[uf];clear uf Oz;go_wp2_with fail;refine Av.out.mono ?_;rintro e w4 ⟨rfl,S4',MP,Po⟩;obtain⟨x4,BF,Tx,TE⟩:=Pz.out.view Qj (by omega) MP Po;have ok4:Ed (jU (dX s k) k ⟨aS s.x.rows,s.now,[],[]⟩ [] Z_):=Lt.view Qj MP.ok ⟨(Lt.Da k _ Qj).oq.rk,by simp⟩;have js:=zHj (dX s k) k ⟨aS s.x.rows,s.now,[],[]⟩ [] Z_;have BE:=Tx.pv ok4 js (by show s.c<=190;rw[HR.out.c];decide);have py:=zIB wK wV w4 BE (by decide) (fun _=>by decide);rw[zFa.1,zFa.2,aR,show(({ m2 with W:=Yb m2.W k x4 }:Ic).W k).1=(m2.W k).1 by show(Yb m2.W k x4 k).1=_;rw[qH];exact BF] at py;have KV:=aa py;have Qz:=aa Tx;have jj:=aa (Cb.out.trans TE.Ia);have he4:m2.eb=eb:=Sx.trans he;clear py BE Tx TE MP Po Av Cb Pz ok4 eG;go_wp2_with fail;refine KV.out.mono ?_;rintro e w5 ⟨rfl,S5,JI,hs5⟩;rw[show(m2.W k).1=(({ m2 with W:=Yb m2.W k x4 }:Ic).W k).1 by show _=(Yb m2.W k x4 k).1;rw[qH];exact BF.symm] at JI;obtain⟨x5,_,QC,Ik⟩:=Qz.out.view js (by omega) JI hs5;have RU:Hid ((∃ m s,EK w5 w.heap.size m s/\m.eb=eb/\Tl s (k+1))/\Below w.heap.size w w5):=⟨⟨_,_,QC,he4,HR.out.next lf rfl JI.ok⟩,jj.out.trans Ik.Ia⟩;clear QC Ik JI hs5 KV Qz jj HR js Qj Lt vz Aj;go_wp2_with fail;exact⟨⟨k+1,by omega,by go_num,RU.out.1,RU.out.2⟩,by simp[intOf];omega⟩
  ·have ek:k=2:=by omega
   subst ek;obtain⟨b1,b2,b3,b4,b5⟩:=hR.both;have ZW:(Ac s 1).1=(1,0):=by rw[b1]
   have Au:=vX _ Cj hR.fit.ok (i:=1) (by decide) (by rw[hR.c];decide);rw[ZW,he] at Au;dsimp only at Au;rw[aR] at Au;have DU:=aa Au;have Hi:Hid (∀ w2 m2,EK w2 w.heap.size m2 (Ac s 1).2->m2.eb=eb->Calls p_ 11 #[.pointer (some ⟨eb,0,none⟩),.int .i64 0] w2 fun e w'=>e=.returned (.tuple #[.int .i64 0,pa 9])/\Below w.heap.size w2 w'/\∃ m3 s3,EK w' w.heap.size m3 s3/\m3.eb=eb/\s3.now=1):=fun w2 m2 h2 Sx=>by
    have h3:=vX w2 h2 b2.ok (i:=0) (by decide) (by omega);rw[b4,Sx] at h3;refine h3.mono ?_;rintro e w' ⟨rfl,m3,k1,k2,_,k4⟩;exact⟨rfl,k4.Ia,m3,_,k1,k2.trans Sx,b5⟩
   have VK:Hid (pa 9=.iface 77 (.int .i64 9)):=rfl;rw[VK.out] at Hi;clear Cj hR b1 b2 b3 b4 b5 ZW Au;generalize Ac s 1=C at *;have QO:¬(((2:Nat):Int)<2):=by omega
   go_wp2_with fail;refine DU.out.mono ?_;rintro e w2 ⟨rfl,m2,k1,k2,_,k4⟩;have Lm:=aa (Hi.out w2 m2 k1 (k2.trans he));have Cb:=aa (fv.out.trans k4.Ia);clear k1 k4 DU Hi;go_wp2_with fail;refine Lm.out.mono ?_;rintro e w3 ⟨rfl,Ra,m3,s3,PC,he3,Ct⟩;have HN:=aa (zMY w3 PC);have Zc:=aa (Cb.out.trans Ra);rw[he3,show(s3.now:Int)=1 by rw[Ct];rfl] at HN;clear PC Ra Ct Lm Cb;go_wp2_with fail;refine(eI 0 _ w3 rfl).mono ?_;rintro e w4 ⟨rfl,ti⟩;rw[ti];clear ti;go_wp2_with fail;refine(eI 9 _ w3 rfl).mono ?_;rintro e w4 ⟨rfl,ti⟩;rw[ti];clear ti;go_wp2_with fail;refine HN.out.mono ?_;rintro e w4 ⟨rfl,ti⟩;rw[ti];clear ti;go_wp2;go_ret;exact⟨rfl,Zc.out⟩
end
end Go.Proofs.YtcfjimdfegejaaaGreatDoor
