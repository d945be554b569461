import Derived.Test.YtcfjimdfegejaaaGreatDoorQ09
import Derived.Test.YtcfjimdfegejaaaGreatDoorQ08
import Derived.Test.YtcfjimdfegejaaaGreatDoorQ10
import Derived.Deep.Upon
set_option maxHeartbeats 8000000
set_option maxRecDepth 100000
namespace Go.Proofs.YtcfjimdfegejaaaGreatDoor
open List renaming length_append→YY,length_pos_iff→K3
open Value renaming oneCell'→U1,ownBlock→VZ
open World renaming block_lt_of_cell?→AZ,frozen?_setCell→EZ,ownsRow_nil→M1
open Go.Proofs.Tryz
open World renaming cell?_of_block→b_,cell?_setCell_other→t_,cell?_setCell_same→u_,ownsRow.lt→l_
open Go.RowKit.Below renaming heap_setCell→h_,refl→r_
open Nat renaming le_refl→n_
open Go.Proofs.Tryz renaming prog→p_
open Value renaming string→v_
open Go.Joins renaming below_alloc1→a_
variable {w w' w1 w2:World} {ao ra ca sa:Option Addr} {l P ga:ta} {k rb rc cc sc B wb:Nat} {since:Sn} {ba:List ma} {G S:Nat->Prop} {s:BA×BA}
section
open Go.RowKit Go.Joins Go.Shelf Go.WideShapes
attribute [local go_sem ↓] Go.wp_at_zero Go.wp_at_succ
def yh (ao:Option Addr) (k:Nat):Prop:=∃ off,ao=some ⟨k,off,none⟩
structure ju (w:World) (rb:Nat) (ra:Option Addr) (rc:Nat) (ca:Option Addr) (cc:Nat) (sa:Option Addr) (sc:Nat) (P:ta) (since:Sn) (ba:List ma) (ga:ta):Prop where
 c0:w.cell? ⟨rb,0,none⟩=some (.slice ra P.length rc)
 c1:w.cell? ⟨rb,1,none⟩=some (.int .i64 since.n)
 c2:w.cell? ⟨rb,2,none⟩=some (.slice ca ba.length cc)
 c3:w.cell? ⟨rb,3,none⟩=some (.slice sa ga.length sc)
 soft:∀ j,w.frozen? ⟨rb,j,none⟩=false
 hP:bY w ra P
 nP:ra=none->rc=0/\P=[]
 hC:bW w ca ba
 hR:bY w sa ga
def gj (rb:Nat) (ra ca sa:Option Addr) (P:ta) (ba:List ma) (ga:ta) (k:Nat):Prop:=k=rb∨(P≠[]/\yh ra k)∨(ba≠[]/\yh ca k)∨(ga≠[]/\yh sa k)
theorem zJ4 {l:List ma} (h:bW w ao l) (La:l≠[]) (e:yh ao k):k<w.heap.size:=by
 obtain⟨off,rfl⟩:=e;rcases h with e'|⟨b',QF,e',hs⟩
 ·exact absurd e' La
 ·cases e';exact AZ _ _ (hs 0 (K3.2 La)).1
theorem zKb (h:bY w ao l) (La:l≠[]) (e:yh ao k):k<w.heap.size:=by
 obtain⟨off,rfl⟩:=e;rcases h with e'|⟨b',QF,e',hs⟩
 ·exact absurd e' La
 ·cases e';exact AZ _ _ (hs 0 (K3.2 La)).1
theorem lK {l:List ma} (h:bW w ao l) (hk:l≠[]->∀ k,yh ao k->w'.heap[k]?=w.heap[k]?):bW w' ao l:=by
 rcases h with h|⟨b,off,rfl,h⟩
 ·exact .inl h
 ·by_cases h0:l=[]
  ·exact .inl h0
  ·have e:=hk h0 b ⟨off,rfl⟩;exact .inr ⟨b,off,rfl,fun i hi=>⟨(b_ (w:=w) e).trans (h i hi).1,(b_ (w:=w) e).trans (h i hi).2.1,(b_ (w:=w) e).trans (h i hi).2.2⟩⟩
theorem dP (h:bY w ao l) (hk:l≠[]->∀ k,yh ao k->w'.heap[k]?=w.heap[k]?):bY w' ao l:=by
 rcases h with h|⟨b,off,rfl,h⟩
 ·exact .inl h
 ·by_cases h0:l=[]
  ·exact .inl h0
  ·have e:=hk h0 b ⟨off,rfl⟩;exact .inr ⟨b,off,rfl,fun i hi=>⟨(b_ (w:=w) e).trans (h i hi).1,(b_ (w:=w) e).trans (h i hi).2⟩⟩
theorem ju.lt (h:ju w rb ra rc ca cc sa sc P since ba ga) (hk:gj rb ra ca sa P ba ga k):k<w.heap.size:=by
 rcases hk with rfl|⟨La,e⟩|⟨La,e⟩|⟨La,e⟩
 ·exact AZ _ _ h.c0
 ·exact zKb h.hP La e
 ·exact zJ4 h.hC La e
 ·exact zKb h.hR La e
theorem ju.kept (h:ju w rb ra rc ca cc sa sc P since ba ga) (hk:∀ k,gj rb ra ca sa P ba ga k->w'.heap[k]?=w.heap[k]?):ju w' rb ra rc ca cc sa sc P since ba ga where
 c0:=(b_ (w:=w) (hk rb (.inl rfl))).trans h.c0
 c1:=(b_ (w:=w) (hk rb (.inl rfl))).trans h.c1
 c2:=(b_ (w:=w) (hk rb (.inl rfl))).trans h.c2
 c3:=(b_ (w:=w) (hk rb (.inl rfl))).trans h.c3
 soft:=fun j=>(World.frozen?_of_block (w:=w) (hk rb (.inl rfl))).trans (h.soft j)
 hP:=dP h.hP fun La k e=>hk k (.inr (.inl ⟨La,e⟩))
 nP:=h.nP
 hC:=lK h.hC fun La k e=>hk k (.inr (.inr (.inl ⟨La,e⟩)))
 hR:=dP h.hR fun La k e=>hk k (.inr (.inr (.inr ⟨La,e⟩)))
def RW (w:World) (rb:Nat) (G:Nat->Prop) (P:ta) (since:Sn) (ba:List ma) (ga:ta):Prop:=∃ ra rc ca cc sa sc,ju w rb ra rc ca cc sa sc P since ba ga/\(G=gj rb ra ca sa P ba ga)/\(∀ k,yh ra k->P≠[]->k≠rb)/\(∀ k,yh ca k->ba≠[]->k≠rb)/\(∀ k,yh sa k->ga≠[]->k≠rb)
theorem RW.kept (h:RW w rb G P since ba ga) (hk:∀ k,G k->w'.heap[k]?=w.heap[k]?):RW w' rb G P since ba ga:=by
 obtain⟨ra,rc,ca,cc,sa,sc,h1,rfl,h2,h3,h4⟩:=h;exact⟨ra,rc,ca,cc,sa,sc,h1.kept hk,rfl,h2,h3,h4⟩
theorem RW.lt (h:RW w rb G P since ba ga) (hk:G k):k<w.heap.size:=by
 obtain⟨ra,rc,ca,cc,sa,sc,h1,rfl,h2,h3,h4⟩:=h;exact h1.lt hk
theorem RW.on (h:RW w rb G P since ba ga) (hb:Below w.heap.size w w'):RW w' rb G P since ba ga:=h.kept fun k hk=>hb.block k (h.lt hk)
structure dV (w w':World) (B rb:Nat) (G G':Nat->Prop):Prop where
 Ia:Below B w w'
 Ma:∀ j,j<w.heap.size->j≠rb->w'.heap[j]?=w.heap[j]?
 out:∀ j,j<w.heap.size->¬G j->¬G' j
theorem dV.trans {G1 G2:Nat->Prop} (h:dV w w1 B rb G G1) (h':dV w1 w2 B rb G1 G2):dV w w2 B rb G G2:=
 ⟨h.Ia.trans h'.Ia,fun j hj hn=>(h'.Ma j (Nat.lt_of_lt_of_le hj h.Ia.size) hn).trans (h.Ma j hj hn),fun j hj hn=>h'.out j (Nat.lt_of_lt_of_le hj h.Ia.size) (h.out j hj hn)⟩
theorem dV.on (hB:B<=w.heap.size) (hb:Below w.heap.size w w'):dV w w' B rb G G:=⟨hb.mono hB,fun j hj _=>hb.block j hj,fun _ _ h=>h⟩
def Tj (w w':World) (B rb:Nat) (G:Nat->Prop) (P:ta) (since:Sn) (ba:List ma) (ga:ta):Prop:=∃ G',RW w' rb G' P since ba ga/\dV w w' B rb G G'
theorem lU (h:RW w rb G P since ba ga) (hB:B<=w.heap.size) (hb:Below w.heap.size w w'):Tj w w' B rb G P since ba ga:=⟨G,h.on hb,.on hB hb⟩
theorem zOD (h:ju w rb ra rc ca cc sa sc P since ba ga) (h2:∀ k,yh ra k->P≠[]->k≠rb) (h4:∀ k,yh sa k->ga≠[]->k≠rb) (hB:B<=w.heap.size) (lg:B<=rb) (hb:Below w.heap.size w w1)
  {Hp:Option Addr} {JH:Nat} {Sa:List ma} (hh:bW w1 Hp Sa) (hn:∀ k,yh Hp k->Sa≠[]->w.heap.size<=k):Tj w (w1.setCell ⟨rb,2,none⟩ (.slice Hp Sa.length JH)) B rb (gj rb ra ca sa P ba ga) P since Sa ga:=by
 have h1:=h.kept (w':=w1) fun k hk=>hb.block k (h.lt hk);have Aa:=h.lt (k:=rb) (.inl rfl);have hs:∀ k,k≠rb->(w1.setCell ⟨rb,2,none⟩ (.slice Hp Sa.length JH)).heap[k]?=w1.heap[k]?:=fun k hk=>h_ _ _ _ _ hk;refine⟨gj rb ra Hp sa P Sa ga,⟨ra,rc,Hp,JH,sa,sc,?_,rfl,h2,fun k e La=>by have:=hn k e La;omega,h4⟩,(hb.mono hB).setCell (p:=⟨rb,2,none⟩) lg _,fun j hj Di=>(hs j Di).trans (hb.block j hj),fun j hj Di=>?_⟩
 ·exact {
   c0:=(t_ _ _ _ _ (by simp)).trans h1.c0
   c1:=(t_ _ _ _ _ (by simp)).trans h1.c1
   c2:=u_ _ _ _ h1.c2
   c3:=(t_ _ _ _ _ (by simp)).trans h1.c3
   soft:=fun j=>by rw[EZ];exact h1.soft j
   hP:=dP h1.hP fun La k e=>hs k (h2 k e La)
   nP:=h.nP
   hC:=lK hh fun La k e=>hs k (by have:=hn k e La;omega)
   hR:=dP h1.hR fun La k e=>hs k (h4 k e La) }
 ·rintro(e|e|⟨La,e⟩|e)
  ·exact Di (.inl e)
  ·exact Di (.inr (.inl e))
  ·have:=hn j e La;omega
  ·exact Di (.inr (.inr (.inr e)))
theorem zOE (h:ju w rb ra rc ca cc sa sc P since ba ga) (h2:∀ k,yh ra k->P≠[]->k≠rb) (h3:∀ k,yh ca k->ba≠[]->k≠rb) (hB:B<=w.heap.size) (lg:B<=rb) (hb:Below w.heap.size w w1)
  {Dz:Option Addr} {WI:Nat} {Wa:ta} (hh:bY w1 Dz Wa) (hn:∀ k,yh Dz k->Wa≠[]->w.heap.size<=k):Tj w (w1.setCell ⟨rb,3,none⟩ (.slice Dz Wa.length WI)) B rb (gj rb ra ca sa P ba ga) P since ba Wa:=by
 have h1:=h.kept (w':=w1) fun k hk=>hb.block k (h.lt hk);have Aa:=h.lt (k:=rb) (.inl rfl);have hs:∀ k,k≠rb->(w1.setCell ⟨rb,3,none⟩ (.slice Dz Wa.length WI)).heap[k]?=w1.heap[k]?:=fun k hk=>h_ _ _ _ _ hk;refine⟨gj rb ra ca Dz P ba Wa,⟨ra,rc,ca,cc,Dz,WI,?_,rfl,h2,h3,fun k e La=>by have:=hn k e La;omega⟩,(hb.mono hB).setCell (p:=⟨rb,3,none⟩) lg _,fun j hj Di=>(hs j Di).trans (hb.block j hj),fun j hj Di=>?_⟩
 ·exact {
   c0:=(t_ _ _ _ _ (by simp)).trans h1.c0
   c1:=(t_ _ _ _ _ (by simp)).trans h1.c1
   c2:=(t_ _ _ _ _ (by simp)).trans h1.c2
   c3:=u_ _ _ _ h1.c3
   soft:=fun j=>by rw[EZ];exact h1.soft j
   hP:=dP h1.hP fun La k e=>hs k (h2 k e La)
   nP:=h.nP
   hC:=lK h1.hC fun La k e=>hs k (h3 k e La)
   hR:=dP hh fun La k e=>hs k (by have:=hn k e La;omega) }
 ·rintro(e|e|e|⟨La,e⟩)
  ·exact Di (.inl e)
  ·exact Di (.inr (.inl e))
  ·exact Di (.inr (.inr (.inl e)))
  ·have:=hn j e La;omega
theorem zI2 (l:List (BA×BA)) (b off cap b2 th pd:Nat) (w:World) (hl:iO w b off l) (Jh:iO w b2 th l) (hn:l.length<=1000):
  Calls p_ 71 #[.slice (some ⟨b,off,none⟩) l.length cap,.slice (some ⟨b2,th,none⟩) l.length pd] w fun e w'=>e=.returned (.bool true)/\Below w.heap.size w w':=by
 go_enter func71,ntmps71;go_wp2
 go_loopw [5] (fun i wr=>∃ k:Nat,k<=l.length/\i=.int .i64 k/\Below w.heap.size w wr) (fun i _=>l.length-(intOf i).toNat)
 case atStart=>exact⟨0,Nat.zero_le _,rfl,r_ _ _⟩
 case round=>
  obtain⟨k,hk,rfl,hB⟩:=hrel;by_cases Aa:k<l.length
  ·obtain⟨c0,c1⟩:=gW hB hl k Aa;obtain⟨d0,d1⟩:=gW hB Jh k Aa;go_wp2;go_quiet (fail);go_wp2;go_roundw
   case rel=>exact⟨k+1,by omega,by go_num,hB.trans (below_draws _ _ _)⟩
   case measure=>simp[intOf];omega
  ·go_wp2;go_ret;exact⟨rfl,hB⟩
theorem zCi (ao Nj:Option Addr) (cap pd:Nat) (w:World):
  Calls p_ 71 #[.slice ao 0 cap,.slice Nj 0 pd] w fun e w'=>e=.returned (.bool true)/\Below w.heap.size w w':=by
 go_enter func71,ntmps71;go_wp2;refine wp_loop_rounds 1 ?_;rw[rounds_succ];go_wp2;go_ret;exact⟨rfl,r_ _ _⟩
theorem zI1 (l:List (BA×BA)) (ao Nj:Option Addr) (cap pd:Nat) (w:World) (hl:bY w ao l) (Jh:bY w Nj l) (hn:l.length<=1000):
  Calls p_ 71 #[.slice ao l.length cap,.slice Nj l.length pd] w fun e w'=>e=.returned (.bool true)/\Below w.heap.size w w':=by
 rcases hl with rfl|⟨b,off,rfl,h⟩
 ·exact zCi _ _ _ _ _
 ·rcases Jh with rfl|⟨b2,th,rfl,h2⟩
  ·exact zCi _ _ _ _ _
  ·exact zI2 l b off cap b2 th pd w h h2 hn
theorem qP {v:Value} {l:List ma} (h:bO w B v l):∃ ao cap,v=.slice ao l.length cap/\bW w ao l/\∀ k,yh ao k->B<=k:=by
 rcases aX h with⟨rfl,h0⟩|⟨g,cap,rfl,hg,_⟩
 ·have e:l=[]:=List.length_eq_zero_iff.1 h0;subst e;exact⟨none,0,rfl,.inl rfl,fun k e=>by obtain⟨_,e⟩:=e;cases e⟩
 ·refine⟨_,cap,rfl,.inr ⟨g,0,rfl,eW l 0 fun j u hj=>?_⟩,fun k e=>by obtain⟨_,e⟩:=e;cases e;exact hg⟩;have:=World.ownsRow.cells h (g:=g) rfl j u hj;rwa [Go.WideShapes.add_plain] at this
theorem zOX (w:World) (h:PV w B wb S P since ba ga):
  Calls p_ 37 #[.pointer (some ⟨wb,0,none⟩)] w fun e w'=>e=.returned (.int .i64 since.n)/\w'=w:=by
 obtain⟨cv,rv,h1,h2,rfl,h4,h5,h6,h7,h8,h9⟩:=h;have c:=h2.c1;go_enter func37,ntmps37;go_wp2;go_ret;exact⟨rfl,rfl⟩
theorem zNM (w:World) (h:PV w B wb S P since ba ga) (hr:RW w rb G P since ba ga):
  Calls p_ 22 #[.pointer (some ⟨wb,0,none⟩),.pointer (some ⟨rb,0,none⟩)] w fun e w'=>e=.returned (.bool true)/\Below w.heap.size w w':=by
 have HV:=aa h;have ok:=h.ok;have zr:=ok.cn;have uz:=ok.rn;obtain⟨ra,rc,ca,cc,sa,sc,hx,_⟩:=hr;have HX:=aa hx;have c1:=hx.c1;have c2:=hx.c2;have c3:=hx.c3;clear h hx ok;go_enter func22,ntmps22;go_wp2
 go_region_held3 (fun w'=>w'.cell? ⟨rb,1,none⟩=some (.int .i64 since.n)/\w'.cell? ⟨rb,2,none⟩=some (.slice ca ba.length cc)/\w'.cell? ⟨rb,3,none⟩=some (.slice sa ga.length sc))
  (first
   | go_keep
   | exact⟨aA so.out c1,aA so.out c2,aA so.out c3⟩
   | exact⟨aA Wf.out c1,aA Wf.out c2,aA Wf.out c3⟩
   | exact⟨aA jj.out c1,aA jj.out c2,aA jj.out c3⟩
   | exact⟨aA Zc.out c1,aA Zc.out c2,aA Zc.out c3⟩
   | exact⟨aA Cb.out c1,aA Cb.out c2,aA Cb.out c3⟩)
  (first
   | (go_at_call 35;refine(zNZ _ (HV.out.on (r_ _ _).drew)).mono ?_;rintro e w2 ⟨v2,rfl,qc,za⟩;have Cb:=aa (aB (r_ _ w).drew (n_ _) za);obtain⟨va,vc,rfl,Er,_⟩:=qP qc;clear qc za)
   | (go_at_call 70;refine(zLN ba va ca vc cc _ Er (eA Cb.out HX.out.hC) (by omega)).mono ?_;rintro e w3 ⟨rfl,Ra⟩;have Zc:=aa (aB Cb.out (n_ _) Ra);clear Ra)
   | (go_at_call 39;refine(zOW _ (HV.out.on Zc.out)).mono ?_;rintro e w4 ⟨v4,rfl,Xm,Eb⟩;have jj:=aa (aB Zc.out (n_ _) Eb);obtain⟨ua,uc,rfl,hh4,_⟩:=sI Xm;clear Xm Eb)
   | (go_at_call 71;refine(zI1 ga ua sa uc sc _ hh4 (lX jj.out HX.out.hR) (by omega)).mono ?_;rintro e w5 ⟨rfl,qe⟩;have Wf:=aa (aB jj.out (n_ _) qe);clear qe)
   | (go_at_call 37;refine(zOX _ (HV.out.on Wf.out)).mono ?_;rintro e w6 ⟨rfl,rfl⟩;have so:=aa Wf.out)
   | fail)
 all_goals
  go_wp2;go_ret;exact⟨rfl,so.out⟩
theorem zOj (hk:k<l.length) (h1:bc l[k].1 s.1=true) (h2:bc l[k].2 s.2=true):Wu l s=true:=by
 have e:l[k]=s:=Prod.ext ((eV _ _).1 h1) ((eV _ _).1 h2);unfold Wu;rw[List.any_eq_true];exact⟨l[k],List.getElem_mem hk,by rw[e];exact(zNb _ _).2 rfl⟩
theorem zNU (h:∀ i (hi:i<l.length),¬(bc l[i].1 s.1=true/\bc l[i].2 s.2=true)):Wu l s=false:=by
 unfold Wu;rw[List.any_eq_false];intro x hx e;obtain⟨i,hi,rfl⟩:=List.getElem_of_mem hx;have:=(zNb _ _).1 e;exact h i hi (by rw[<-this];exact⟨(eV _ _).2 rfl,(eV _ _).2 rfl⟩)
theorem zKm {g2 c2:Nat} (h:ju w rb ra rc ca cc sa sc P since ba ga) (h2:∀ k,yh ra k->P≠[]->k≠rb) (h3:∀ k,yh ca k->ba≠[]->k≠rb) (hB:B<=w.heap.size) (lg:B<=rb) (hb:Below w.heap.size w w2)
  (ho:w2.ownsRow w.heap.size 128 2 (.slice (some ⟨g2,0,none⟩) (ga.length+1) c2) (ga.length+1) (ga.flatMap nN++[.string s.1,.string s.2])):
  Tj w (w2.setCell ⟨rb,3,none⟩ (.slice (some ⟨g2,0,none⟩) (ga.length+1) c2)) B rb (gj rb ra ca sa P ba ga) P since ba (ga++[s]):=by
 have Pj:lL w2 w.heap.size (.slice (some ⟨g2,0,none⟩) (ga++[s]).length c2) (ga++[s]):=by
  unfold lL;rw[YY,List.flatMap_append];exact ho
 obtain⟨ao,cap,e,hh,_⟩:=sI Pj;cases e;have:=zOE h h2 h3 hB lg hb (WI:=c2) hh (fun k e _=>by
  obtain⟨off,e⟩:=e;cases e;exact(l_ ho g2 rfl).1)
 rw[YY,List.length_singleton] at this;exact this
theorem zPl {W:World} {b off:Nat} (h:iO W b off l):∀ j u,(l.flatMap nN)[j]?=some u->W.cell? ((⟨b,off,none⟩:Addr).add j)=some u:=by
 intro j u hj;have ki:=(List.getElem?_eq_some_iff.1 hj).1;rw[pN nN 2 lW] at ki;have hq:j / 2<l.length:=by omega
 have ej:j=j / 2*2+j % 2:=by omega
 have hg:=nI nN 2 lW l (j / 2) (j % 2) hq (by omega);rw[<-ej,hj] at hg;obtain⟨c0,c1⟩:=h (j / 2) hq;rw[Addr.add_lit];rcases Nat.mod_two_eq_zero_or_one j with e|e
 ·rw[e] at hg;simp[nN] at hg;have e2:off+j=off+j / 2*2:=by omega
  rw[e2,c0,hg]
 ·rw[e] at hg;simp[nN] at hg;have e2:off+j=off+j / 2*2+1:=by omega
  rw[e2,c1,hg]
theorem SS (s:BA×BA) (w:World) (h:RW w rb G P since ba ga) (hB:B<=w.heap.size) (lg:B<=rb) (hn:ga.length<=40):
  Calls p_ 127 #[.pointer (some ⟨rb,0,none⟩),.agg #[.string s.1,.string s.2]] w fun e w'=>e=.returned (.int .i64 (cZ ga s:Nat))/\Tj w w' B rb G P since ba (gX ga s):=by
 have HW:=aa h;obtain⟨ra,rc,ca,cc,sa,sc,h1,rfl,h2,h3,h4⟩:=h;have HX:=aa h1;have H2:=aa h2;have H3:=aa h3;obtain⟨a0,a1,Nc,-⟩:=Fl w (GX s.1 s.2) rfl rfl;have c3:=aA Nc h1.c3;have f3:=aE Nc (h1.lt (.inl rfl)) (h1.soft 3);have Aa:=h1.lt (k:=rb) (.inl rfl);have HR:=aa (lX Nc h1.hR);have ie:=aa Nc;clear h1 h2 h3 h4 Nc;go_enter func127,ntmps127;go_wp2;generalize hW0:(w.alloc (GX s.1 s.2))=W0 at *;have hz:w.heap.size<W0.heap.size:=by rw[<-hW0];simp
 clear hW0
 go_loopw [5] (fun i wr=>∃ k:Nat,k<=ga.length/\i=.int .i64 k/\(∀ i (hi:i<ga.length),i<k->¬(bc ga[i].1 s.1=true/\bc ga[i].2 s.2=true))/\Below W0.heap.size W0 wr) (fun i _=>ga.length-(intOf i).toNat)
 case atStart=>exact⟨0,Nat.zero_le _,rfl,fun i _ h=>absurd h (Nat.not_lt_zero _),r_ _ _⟩
 case round=>
  obtain⟨k,hk,rfl,xe,mj⟩:=hrel;have Rg:=aa xe;clear xe;have b0:=aA mj a0;have b1:=aA mj a1;have b3:=aA mj c3;have g3:=aE mj (show rb<W0.heap.size by omega) f3;have St:=aa (aB ie.out (n_ _) mj);have QK:=aa mj;by_cases Ju:k<ga.length
  ·have fy:(k:Int)<(ga.length:Int):=by omega
   have Ih:(0:Int)<=(k:Int):=Int.natCast_nonneg _;rcases HR.out with e|⟨b,off,CB,dj⟩
   ·rw[e] at Ju;simp at Ju
   subst CB;obtain⟨d0,d1⟩:=gW mj dj k Ju;obtain⟨p1,Al⟩:∃ p,(ga[k].1.toList==s.1.toList)=p:=⟨_,rfl⟩;obtain⟨p2,Dt⟩:∃ p,(ga[k].2.toList==s.2.toList)=p:=⟨_,rfl⟩;have Kl:Hid (bc ga[k].1 s.1=p1):=Al;have Zj:Hid (bc ga[k].2 s.2=p2):=Dt;clear dj a0 a1 c3 f3;by_cases py:p1=true/\p2=true
   ·obtain⟨rfl,rfl⟩:=py;have HH:=aa (zOj Ju Kl.out Zj.out);go_wp2;go_quiet (fail);go_wp2;go_ret;refine⟨?_,?_⟩
    ·unfold cZ;rw[HH.out];rfl
    ·unfold gX;rw[HH.out];exact lU HW.out hB (St.out.trans (below_draws _ _ _))
   ·have VD:∀ i (hi:i<ga.length),i<k+1->¬(bc ga[i].1 s.1=true/\bc ga[i].2 s.2=true):=fun i hi ED=>by
     rcases Nat.eq_or_lt_of_le (Nat.le_of_lt_succ ED) with e|e
     ·subst e;rw[Kl.out,Zj.out];exact py
     ·exact Rg.out i hi e
    have zv:=aa VD;clear VD;cases p1<;>cases p2
    case true.true=>exact absurd ⟨rfl,rfl⟩ py
    all_goals
     go_wp2;go_quiet (fail);go_wp2;exact⟨⟨k+1,by omega,by go_num,zv.out,mj.trans (below_draws _ _ _)⟩,by simp[intOf];omega⟩
  ·have ek:k=ga.length:=by omega
   subst ek;have fy:¬(ga.length:Int)<(ga.length:Int):=by omega
   have HH:Hid (Wu ga s=false):=zNU fun i hi=>Rg.out i hi hi;by_cases Xy:ga.length=40
   ·have ur:(ga.length:Int)=40:=by omega
    go_wp2;go_ret;refine⟨?_,?_⟩
    ·unfold cZ;rw[HH.out,if_pos (show 40<=ga.length by omega)];rfl
    ·unfold gX;rw[HH.out,if_pos (show 40<=ga.length by omega)];exact lU HW.out hB St.out
   ·have ur:¬(ga.length:Int)=40:=by omega
    have h41:¬40<=ga.length:=by omega
    have Rh:Hid (cZ ga s=0):=by unfold Hid cZ;rw[HH.out,if_neg h41];rfl
    have Xq:Hid (gX ga s=ga++[s]):=by unfold Hid gX;rw[HH.out,if_neg h41];rfl
    have OI:=St.out.size;have Yn:rb<wr.heap.size:=by omega
    obtain⟨i0,Qb,Xb,Yc,te⟩:=info_parts AS;have Od:Hid (∀ (W:World) (j:Nat) (u:Value),[v_ s.1,v_ s.2][j]?=some u->(W.alloc (GX s.1 s.2)).cell? ((⟨W.heap.size,0,none⟩:Addr).add j)=some u):=fun W=>
     World.news_of_block (cs:=#[.string s.1,.string s.2]) (t:=128) (fr:=(0,0)) (heap_alloc_new W _)
    clear mj a0 a1 c3 f3;by_cases h0:ga=[]
    ·subst h0;rcases sa with _|sa
     all_goals
      go_wp2
      go_region_law (first
       | (refine step_append_lies _ (by rfl) _ _ _ (by rfl) w.heap.size 128 i0 _ 2 32 underlying37 Qb Xb Yc te rfl (by omega) (.slice none 0 0) 0 [] (by rfl) (M1 _ _ _ _) ⟨wr.heap.size,0,none⟩ 1 1 [.string s.1,.string s.2] (by rfl) (by rfl) (Od.out wr) (by simp[U1]) (by omega) (by unfold maxLen;omega) (by omega) (by simp;omega) (wr.heap.size+1) (by simp) ?_;intro g2 c2 w2 qc Hg xu Rn;have gi:Below wr.heap.size wr w2:=((a_ wr (GX s.1 s.2)).drew).grown Hg (by simp) (fun k e=>by cases e);have k3:=aA gi b3;have k2:=aE gi Yn g3)
       | fail)
      all_goals
       have Ap:=aa (zKm HX.out H2.out H3.out hB lg (aB St.out (n_ _) gi) qc);clear k3 k2 qc Hg xu Rn b0 b1 b3 g3 gi;go_wp2;go_ret;exact⟨by rw[Rh.out];rfl,by rw[Xq.out];exact Ap.out⟩
    ·rcases HR.out with e|⟨b,off,CB,dj⟩
     ·exact absurd e h0
     subst CB;have oi:0<ga.length:=K3.2 h0;have Tq:Hid (∀ W,Below wr.heap.size wr W->∀ j u,(ga.flatMap nN)[j]?=some u->W.cell? ((⟨b,off,none⟩:Addr).add j)=some u):=fun W hb=>zPl (gW hb (gW QK.out dj));clear dj;go_wp2
     go_region_law (first
      | (refine step_append_lies _ (by rfl) _ _ _ (by rfl) w.heap.size 128 i0 _ 2 32 underlying37 Qb Xb Yc te rfl (by omega) (.slice none 0 0) 0 [] (by rfl) (M1 _ _ _ _) ⟨b,off,none⟩ ga.length sc (ga.flatMap nN) (by rfl) (pN nN 2 lW ga) (Tq.out _ (by first|exact(r_ _ _).drew|exact(a_ _ _).drew)) (zHp ga) oi (by unfold maxLen;omega) (by omega) (by simp;omega) _ rfl ?_;intro g1 c1 w1 mc Co KN a0z;simp only[Nat.zero_add,List.nil_append] at mc;have Zl:Below wr.heap.size wr w1:=by first|exact((r_ _ wr).drew).grown Co (by simp) (fun k e=>by cases e)|exact((a_ wr (GX s.1 s.2)).drew).grown Co (by simp) (fun k e=>by cases e)
         have a0v:wr.heap.size<=g1:=KN.elim (fun e=>by cases e) (fun e=>by rw[e];simp);replace b0:=aA Zl b0;replace b1:=aA Zl b1)
      | (refine step_append_lies _ (by rfl) _ _ _ (by rfl) w.heap.size 128 i0 _ 2 32 underlying37 Qb Xb Yc te rfl (by omega) (.slice (some ⟨g1,0,none⟩) ga.length c1) _ _ (by rfl) (mc.alloc _) ⟨w1.heap.size,0,none⟩ 1 1 [.string s.1,.string s.2] (by rfl) (by rfl) (Od.out w1) (by simp[U1]) (by omega) (by unfold maxLen;omega) (by omega) (by have:=Zl.size;simp;omega) _ rfl ?_;intro g2 c2 w2 qc Hg xu Rn;have gi:Below wr.heap.size wr w2:=(aB Zl (n_ _) (a_ w1 (GX s.1 s.2))).grown Hg (by have:=Zl.size;simp;omega) (fun k e=>by simp[VZ] at e;omega);have k3:=aA gi b3;have k2:=aE gi Yn g3)
      | (refine step_append_lies _ (by rfl) _ _ _ (by rfl) w.heap.size 128 i0 _ 2 32 underlying37 Qb Xb Yc te rfl (by omega) (.slice (some ⟨g1,0,none⟩) ga.length c1) _ _ (by rfl) mc ⟨wr.heap.size,0,none⟩ 1 1 [.string s.1,.string s.2] (by rfl) (by rfl) (fun j u hj=>Co.cell (Od.out wr j u hj) (by simp[VZ])) (by simp[U1]) (by omega) (by unfold maxLen;omega) (by omega) (by have:=Zl.size;omega) _ rfl ?_;intro g2 c2 w2 qc Hg xu Rn;have gi:Below wr.heap.size wr w2:=Zl.grown Hg Zl.size (fun k e=>by simp[VZ] at e;omega);have k3:=aA gi b3;have k2:=aE gi Yn g3)
      | fail)
     all_goals
      have Ap:=aa (zKm HX.out H2.out H3.out hB lg (aB St.out (n_ _) gi) qc);clear k3 k2 qc Hg xu Rn b0 b1 b3 g3 gi;go_wp2;go_ret;exact⟨by rw[Rh.out];rfl,by rw[Xq.out];exact Ap.out⟩
end
end Go.Proofs.YtcfjimdfegejaaaGreatDoor
