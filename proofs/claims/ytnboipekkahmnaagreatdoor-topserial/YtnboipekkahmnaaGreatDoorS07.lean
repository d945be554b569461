import Derived.Test.YtnboipekkahmnaaGreatDoorS06
set_option maxHeartbeats 8000000
set_option maxRecDepth 100000
namespace Go.Proofs.YtnboipekkahmnaaGreatDoor
open Obj renaming cells→o_
open World renaming cell?_of_block→b_,ownsRow.lt→l_
open Go.RowKit.Below renaming refl→r_
open Nat renaming le_refl→n_
open Tryz renaming prog→p_
open Value renaming string→v_,int→i_
open Go.Joins renaming below_alloc1→a_
structure jF (rows0:List Chg) (ds:List (List Chg)) (rows:List Chg):Prop where
 eq:ds.foldl aK rows0=rows
 few:∀ k,((ds.take k).foldl aK rows0).length<=40
 dl:∀ d∈ds,d.length<=12/\bS d=0
theorem jF.nil {rows:List Chg} (h:rows.length<=40):jF rows [] rows:=⟨rfl,fun k=>by rw[List.take_nil];exact h,fun d hd=>absurd hd List.not_mem_nil⟩
theorem jF.few' {rows0 rows:List Chg} {ds:List (List Chg)} (h:jF rows0 ds rows):rows.length<=40:=by
 have:=h.few ds.length;rw[List.take_length,h.eq] at this;exact this
theorem jF.snoc {rows0 rows l:List Chg} {ds:List (List Chg)} (h:jF rows0 ds rows) (hl:l.length<=12) (hc:bS l=0) (hf:(aK rows l).length<=40):jF rows0 (ds++[l]) (aK rows l):=by
 refine⟨by rw[List.foldl_append,h.eq];rfl,fun k=>?_,fun d hd=>?_⟩
 ·by_cases hk:k<=ds.length
  ·rw[List.take_append_of_le_length hk];exact h.few k
  ·rw[List.take_of_length_le (by rw[List.length_append];simp;omega),List.foldl_append,h.eq];exact hf
 ·rcases List.mem_append.1 hd with hd|hd
  ·exact h.dl d hd
  ·rw[List.mem_singleton] at hd;rw[hd];exact⟨hl,hc⟩
theorem zBS:∀ (ds:List (List Chg)) (rows:List Chg),fH rows->(∀ d∈ds,bS d=0)->fH (ds.foldl aK rows)
 | [],_,h,_=>h
 | d::ds,_,h,hd=>zBS ds _ (zEG h (hd d (List.mem_cons_self ..))) fun e he=>hd e (List.mem_cons_of_mem _ he)
theorem jF.fine {rows0 rows:List Chg} {ds:List (List Chg)} (h:jF rows0 ds rows) (hf:fH rows0):fH rows:=by
 rw[<-h.eq];exact zBS ds rows0 hf fun d hd=>(h.dl d hd).2
structure cQ (d:DSt) (area first u:Nat) (rows:List Chg):Prop where
 down:d.down=false
 wait:d.wait=[]
 kept:d.kept=d.now
 ex:∃ rows0 ds,fU d.now d.now.length area first rows0 ds u/\jF rows0 ds rows
def zFP (d:DSt) (rows:List Chg):Prop:=∃ area first u,cQ d area first u rows
structure SSt where
 d:DSt
 area:Nat
 first:Nat
 used:Nat
 rows:List Chg
def fA (x:SSt):Prop:=cQ x.d x.area x.first x.used x.rows
section
variable {d:DSt} {area first u:Nat} {rows:List Chg}
theorem cQ.fine (h:cQ d area first u rows):fH rows:=by
 obtain⟨rows0,ds,h1,h2⟩:=h.ex;exact h2.fine h1.fine
theorem cQ.few (h:cQ d area first u rows):rows.length<=40:=by
 obtain⟨rows0,ds,h1,h2⟩:=h.ex;exact h2.few'
theorem cQ.n54 (h:cQ d area first u rows):54<=d.now.length:=by
 obtain⟨rows0,ds,h1,h2⟩:=h.ex;exact h1.n54
theorem cQ.a1 (h:cQ d area first u rows):area<=1/\1<=first/\first<=2:=by
 obtain⟨rows0,ds,h1,h2⟩:=h.ex;exact⟨h1.a1,h1.f1⟩
theorem cQ.us (h:cQ d area first u rows):u<=d.now.length-50:=by
 obtain⟨rows0,ds,h1,h2⟩:=h.ex;have:=h1.n54;exact h1.has.used (by omega)
theorem vL {K:List ByteArray} {n:Nat} {rows0:List Chg} {ds:List (List Chg)} (h:fU K n area first rows0 ds u) (hr:jF rows0 ds rows):cQ ⟨K,K,[],-1,false⟩ area first u rows:=⟨rfl,rfl,rfl,rows0,ds,by show fU K K.length area first rows0 ds u;rw[h.len];exact h,hr⟩
end
def chkR (x:SSt):Nat×SSt:=if (dC (1-x.area) x.rows x.d).1=0 then (0,⟨(dC (1-x.area) x.rows x.d).2,1-x.area,aM x.d.now,0,x.rows⟩) else ((dC (1-x.area) x.rows x.d).1,{ x with d:=(dC (1-x.area) x.rows x.d).2 })
def rN (d:DSt) (n:Nat) (P:List Chg->Prop):Prop:=d.down=true/\∀ k,(kR d k).now.length=n/\∃ rows,P rows/\zFP (kR d k) rows
theorem uQ (area:Nat) (rows:List Chg) (s:DSt):(dC area rows s).2.now.length=s.now.length:=fS _ _
theorem fA.chk {x:SSt} (h:fA x):(chkR x).2.d.now.length=x.d.now.length/\(chkR x).2.rows=x.rows/\(((chkR x).1=0/\fA (chkR x).2/\(chkR x).2.used=0)∨((chkR x).1=10/\rN (chkR x).2.d x.d.now.length (·=x.rows))):=by
 obtain⟨rows0,ds,h1,h2⟩:=h.ex;have hfine:=cQ.fine h;have hfew:=cQ.few h;have ha:=h1.a1;have run:=zFe (s:=x.d) (n:=x.d.now.length) (area:=1-x.area) (rows:=x.rows) (fun K=>fU K x.d.now.length x.area x.first rows0 ds x.used) (fun K=>fU K x.d.now.length x.area x.first rows0 ds x.used∨fU K x.d.now.length (1-x.area) (aM x.d.now) x.rows [] 0) h.down rfl h1.n54 (by omega) hfine hfew
  (fun K hK=>by rw[mW h.wait hK,h.kept];exact h1) h1
  (fun K j d hj1 hj2 hK=>hK.keep (List.length_set ..) fun i hi=>List.getElem?_set_ne (by omega)) (fun K hK=>.inl hK) (fun K hK=>.inr hK)
 have hlen:=uQ (1-x.area) x.rows x.d;unfold dC at hlen;unfold chkR dC;generalize runD (oH (1-x.area) (aM x.d.now) x.rows) x.d=r at *;by_cases h0:r.1=0
 ·obtain⟨g1,g2,g3,g4⟩:=run.good h0;rw[if_pos h0];refine⟨hlen,rfl,.inl ⟨rfl,⟨g1,g2,g3,x.rows,[],?_,.nil hfew⟩,rfl⟩⟩;show fU r.2.now r.2.now.length _ _ _ _ _;rw[hlen];exact g4
 ·obtain⟨g1,g2,g3⟩:=run.bad h0;rw[if_neg h0];refine⟨hlen,rfl,.inr ⟨g1,g2,fun k=>?_⟩⟩;have hA:fX r.2 (fJ k 0 r.2.wait r.2.kept):=⟨k,rfl⟩;have e:kR r.2 k=⟨fJ k 0 r.2.wait r.2.kept,fJ k 0 r.2.wait r.2.kept,[],-1,false⟩:=rfl;show(kR r.2 k).now.length=_/\∃ rows,rows=x.rows/\zFP (kR r.2 k) rows;rw[e];rcases g3 _ hA with g|g
  ·exact⟨g.len,x.rows,rfl,_,_,_,vL g h2⟩
  ·exact⟨g.len,x.rows,rfl,_,_,_,vL g (.nil hfew)⟩
theorem fA.chk_never {x:SSt} (h:fA x) (hl:x.d.left=-1):(chkR x).1=0/\(chkR x).2.d.left=-1:=by
 have ha:=cQ.a1 h;obtain⟨q1,q2⟩:=zBp (s:=x.d) (n:=x.d.now.length) (area:=1-x.area) (rows:=x.rows) h.down hl rfl (cQ.n54 h) (by omega) (cQ.fine h) (cQ.few h);have e:(dC (1-x.area) x.rows x.d).1=0:=q1;unfold chkR;rw[if_pos e];exact⟨rfl,q2⟩
def gO (x:SSt) (l:List Chg):Nat×SSt:=if x.d.now.length-50-x.used<l.length+1 then chkR x else (0,x)
def gM (c:SSt) (l rows:List Chg):Nat×SSt:=
 ((addR 50 (c.d.now.length-50) c.first c.used c.d l).1,⟨(addR 50 (c.d.now.length-50) c.first c.used c.d l).2.2,c.area,c.first,(addR 50 (c.d.now.length-50) c.first c.used c.d l).2.1,if (addR 50 (c.d.now.length-50) c.first c.used c.d l).1=0 then rows else c.rows⟩)
def comF (x:SSt) (l:List Chg):Nat:=if jW l≠0 then jW l else if 40<(aK x.rows l).length∨x.d.now.length-50<l.length+1 then 8 else 0
def comR (x:SSt) (l:List Chg):Nat×SSt:=
 if comF x l≠0 then (comF x l,x) else if (gO x l).1≠0 then gO x l else gM (gO x l).2 l (aK x.rows l)
theorem tU {x:SSt} {l:List Chg} (h:comF x l=0):l.length<=12/\bS l=0/\(aK x.rows l).length<=40/\l.length+1<=x.d.now.length-50:=by
 unfold comF at h;split at h
 case isTrue h1=>exact absurd h h1
 case isFalse h1=>
  split at h
  ·cases h
  ·rename_i h2;have hd:jW l=0:=by simpa using h1
   unfold jW at hd;split at hd
   ·cases hd
   ·exact⟨by omega,hd,by omega,by omega⟩
theorem fA.add {c:SSt} (h:fA c) {l:List Chg} (hl:l.length<=12) (hc:bS l=0) (hr:l.length+1<=c.d.now.length-50-c.used) (hf:(aK c.rows l).length<=40):
  (gM c l (aK c.rows l)).2.d.now.length=c.d.now.length/\(((gM c l (aK c.rows l)).1=0/\fA (gM c l (aK c.rows l)).2/\(gM c l (aK c.rows l)).2.rows=aK c.rows l/\(gM c l (aK c.rows l)).2.used=c.used+l.length+1)∨((gM c l (aK c.rows l)).1=10/\rN (gM c l (aK c.rows l)).2.d c.d.now.length (fun r=>r=c.rows∨r=aK c.rows l))):=by
 obtain⟨rows0,ds,h1,h2⟩:=h.ex;have hus:=cQ.us h;have h54:=h1.n54;have haf:addF l (c.d.now.length-50-c.used)=0:=by
  unfold addF;rw[if_neg (by omega),if_neg (by omega)];exact hc
 have run:=zMJ (l:=l) h.down h.wait h.kept (show 50+(c.d.now.length-50)<=c.d.now.length by omega) h1.has hc (by omega);have hlen:=fS (iP (50+c.used) (cB (c.first+c.used) l) (c.d.now.length-50-c.used)) c.d;have eR:addR 50 (c.d.now.length-50) c.first c.used c.d l=((runD (iP (50+c.used) (cB (c.first+c.used) l) (c.d.now.length-50-c.used)) c.d).1,if (runD (iP (50+c.used) (cB (c.first+c.used) l) (c.d.now.length-50-c.used)) c.d).1=0 then c.used+l.length+1 else c.used,(runD (iP (50+c.used) (cB (c.first+c.used) l) (c.d.now.length-50-c.used)) c.d).2):=by
  unfold addR;rw[if_neg (by rw[haf];decide)]
 unfold gM;rw[eR];generalize runD (iP (50+c.used) (cB (c.first+c.used) l) (c.d.now.length-50-c.used)) c.d=r at *;have on:∀ K ds' u',nM c.d.now K 50 (c.d.now.length-50) c.first (50+c.used) ds' u'->fU K c.d.now.length c.area c.first rows0 ds' u':=fun K ds' u' g=>by
  have hp:=jA h1.fine h1.few;have ha:=h1.a1;refine⟨g.len,h54,h1.a1,h1.f1,(g.out 0 (by omega)).trans h1.root,fun j hj=>(g.out _ ?_).trans (h1.text j hj),h1.fine,h1.few,g.has⟩;unfold bT at hj;unfold aJ;omega
 by_cases h0:r.1=0
 ·obtain⟨g1,g2,g3,g4⟩:=run.good h0;refine⟨hlen,.inl ⟨h0,⟨g1,g2,g3,rows0,ds++[l],?_,?_⟩,?_,?_⟩⟩
  ·show fU r.2.now r.2.now.length c.area c.first rows0 (ds++[l]) (if r.1=0 then c.used+l.length+1 else c.used);rw[hlen,if_pos h0];exact on _ _ _ g4
  ·show jF rows0 (ds++[l]) (if r.1=0 then aK c.rows l else c.rows);rw[if_pos h0];exact h2.snoc hl hc hf
  ·show(if r.1=0 then aK c.rows l else c.rows)=_;rw[if_pos h0]
  ·show(if r.1=0 then c.used+l.length+1 else c.used)=_;rw[if_pos h0]
 ·obtain⟨g1,g2,g3⟩:=run.bad h0;refine⟨hlen,.inr ⟨g1,g2,fun k=>?_⟩⟩;have hA:fX r.2 (fJ k 0 r.2.wait r.2.kept):=⟨k,rfl⟩;have e:kR r.2 k=⟨fJ k 0 r.2.wait r.2.kept,fJ k 0 r.2.wait r.2.kept,[],-1,false⟩:=rfl;show(kR r.2 k).now.length=_/\∃ rows,(rows=c.rows∨rows=aK c.rows l)/\zFP (kR r.2 k) rows;rw[e];rcases g3 _ hA with g|g
  ·exact⟨g.len,c.rows,.inl rfl,_,_,_,vL (on _ _ _ g) h2⟩
  ·exact⟨g.len,aK c.rows l,.inr rfl,_,_,_,vL (on _ _ _ g) (h2.snoc hl hc hf)⟩
theorem rN.mono {d:DSt} {n:Nat} {P Q:List Chg->Prop} (h:rN d n P) (hPQ:∀ r,P r->Q r):rN d n Q:=
 ⟨h.1,fun k=>by obtain⟨a,r,b,c⟩:=h.2 k;exact⟨a,r,hPQ r b,c⟩⟩
theorem fA.commit {x:SSt} (h:fA x) (l:List Chg):(comR x l).2.d.now.length=x.d.now.length/\
  (((comR x l).1=0/\comF x l=0/\fA (comR x l).2/\(comR x l).2.rows=aK x.rows l/\(comR x l).2.used=(if x.d.now.length-50-x.used<l.length+1 then 0 else x.used)+l.length+1)∨
  ((comR x l).1=comF x l/\comF x l≠0/\(comR x l).2=x)∨
  ((comR x l).1=10/\comF x l=0/\rN (comR x l).2.d x.d.now.length (fun r=>r=x.rows∨r=aK x.rows l))):=by
 by_cases hF:comF x l=0
 ·obtain⟨q1,q2,q3,q4⟩:=tU hF;have e:comR x l=if (gO x l).1≠0 then gO x l else gM (gO x l).2 l (aK x.rows l):=by unfold comR;rw[if_neg (by rw[hF];decide)]
  rw[e];by_cases hroom:x.d.now.length-50-x.used<l.length+1
  ·have e1:gO x l=chkR x:=if_pos hroom;rw[e1,if_pos hroom];obtain⟨k1,k2,k3⟩:=h.chk;rcases k3 with⟨k3,k4,k5⟩|⟨k3,k4⟩
   ·rw[if_neg (by rw[k3];decide)];have:=fA.add (c:=(chkR x).2) k4 q1 q2 (by rw[k5,k1];omega) (by rw[k2];exact q3);rw[k2,k1,k5] at this;refine⟨this.1,?_⟩;rcases this.2 with⟨a,b,c,d⟩|⟨a,b⟩
    ·exact .inl ⟨a,hF,b,c,d⟩
    ·exact .inr (.inr ⟨a,hF,b⟩)
   ·rw[if_pos (by rw[k3];decide)];exact⟨k1,.inr (.inr ⟨k3,hF,k4.mono fun r e=>.inl e⟩)⟩
  ·have e1:gO x l=(0,x):=if_neg hroom;rw[e1,if_neg hroom,if_neg (by show ¬0≠0;decide)];have:=fA.add (c:=x) h q1 q2 (by omega) q3;refine⟨this.1,?_⟩;rcases this.2 with⟨a,b,c,d⟩|⟨a,b⟩
   ·exact .inl ⟨a,hF,b,c,d⟩
   ·exact .inr (.inr ⟨a,hF,b⟩)
 ·have e:comR x l=(comF x l,x):=by unfold comR;rw[if_pos hF]
  rw[e];exact⟨rfl,.inr (.inl ⟨rfl,hF,rfl⟩)⟩
theorem fA.never {x:SSt} (h:fA x) (hl:x.d.left=-1) (l:List Chg):(comR x l).1=comF x l/\(comR x l).2.d.left=-1:=by
 by_cases hF:comF x l=0
 ·obtain⟨q1,q2,q3,q4⟩:=tU hF;have e:comR x l=if (gO x l).1≠0 then gO x l else gM (gO x l).2 l (aK x.rows l):=by unfold comR;rw[if_neg (by rw[hF];decide)]
  have add:∀ (c:SSt),fA c->c.d.left=-1->l.length+1<=c.d.now.length-50-c.used->∀ rows,(gM c l rows).1=0/\(gM c l rows).2.d.left=-1:=fun c hc hcl hr rows=>by
   obtain⟨rows0,ds,h1,h2⟩:=hc.ex;have h54:=h1.n54;have hg:zV c.d 50 (c.d.now.length-50) c.first ds c.used:=⟨hc.down,hc.wait,hc.kept,by omega,h1.has⟩;have haf:addF l (c.d.now.length-50-c.used)=0:=by
    unfold addF;rw[if_neg (by omega),if_neg (by omega)];exact q2
   exact hg.never hcl l haf
  rw[e];by_cases hroom:x.d.now.length-50-x.used<l.length+1
  ·have e1:gO x l=chkR x:=if_pos hroom;rw[e1];obtain⟨n1,n2⟩:=h.chk_never hl;obtain⟨k1,k2,k3⟩:=h.chk;rw[if_neg (by rw[n1];decide),hF];rcases k3 with⟨k3,k4,k5⟩|⟨k3,_⟩
   ·exact add _ k4 n2 (by rw[k5,k1];omega) _
   ·rw[n1] at k3;cases k3
  ·have e1:gO x l=(0,x):=if_neg hroom;rw[e1,if_neg (by show ¬0≠0;decide),hF];exact add x h hl (by omega) _
 ·have e:comR x l=(comF x l,x):=by unfold comR;rw[if_pos hF]
  rw[e];exact⟨rfl,hl⟩
theorem zD1 {s:DSt} (hd:s.down=false) (hl:s.left=-1) (h54:54<=s.now.length):(dC 0 [] s).1=0/\cQ (dC 0 [] s).2 0 (aM s.now) 0 []/\(dC 0 [] s).2.left=-1/\(dC 0 [] s).2.now.length=s.now.length:=by
 have run:=zFe (s:=s) (n:=s.now.length) (area:=0) (rows:=[]) (fun _=>True) (fun _=>True) hd rfl h54 (by decide) xS (by decide) (fun _ _=>trivial) trivial (fun _ _ _ _ _ _=>trivial) (fun _ _=>trivial) (fun _ _=>trivial);obtain⟨q1,q2⟩:=zBp (s:=s) (n:=s.now.length) (area:=0) (rows:=[]) hd hl rfl h54 (by decide) xS (by decide);obtain⟨g1,g2,g3,g4⟩:=run.good q1;have hlen:=uQ 0 [] s;refine⟨q1,⟨g1,g2,g3,[],[],?_,.nil (by decide)⟩,q2,hlen⟩;rw[hlen];exact g4
section
open Go.RowKit Go.Joins
def iO (w:World) (b off:Nat) (l:List (ByteArray×ByteArray)):Prop:=
 ∀ i (h:i<l.length),w.cell? ⟨b,off+i*2,none⟩=some (.string l[i].1)/\w.cell? ⟨b,off+i*2+1,none⟩=some (.string l[i].2)
def fL (s:ByteArray×ByteArray):Bool:=decide (s.1.size<=60)&&decide (s.2.size<=60)
def iA (l:List (ByteArray×ByteArray)):Bool:=decide (l.length<=50)&&l.all fL
theorem zHa {l:List (ByteArray×ByteArray)} {k:Nat} (hk:k<l.length) (h:(l.take k).all fL=true) (h2:fL l[k]=true):(l.take (k+1)).all fL=true:=by
 rw[List.take_succ_eq_append_getElem hk,List.all_append,h];simp[h2]
theorem zBE {l:List (ByteArray×ByteArray)} {k:Nat} (hk:k<l.length) (h:fL l[k]=false):iA l=false:=by
 unfold iA;have:l.all fL=false:=by
  rw[List.all_eq_false];exact⟨l[k],List.getElem_mem hk,by simp[h]⟩
 rw[this,Bool.and_false]
theorem yT (l:List (ByteArray×ByteArray)) (b off cap:Nat) (w:World) (hl:iO w b off l) (hn:l.length<=maxLen):
  Calls p_ 41 #[.slice (some ⟨b,off,none⟩) l.length cap] w fun e w'=>e=.returned (.bool (iA l))/\w'=w:=by
 unfold maxLen at hn;by_cases h50:l.length<=50
 ·have hg:decide ((50:Int)<(l.length:Int))=false:=by simp;omega
  go_enter Tryz.func41,Tryz.ntmps41;go_wp2
  go_loop [3] (fun i=>∃ k:Nat,k<=l.length/\i=.int .i64 k/\(l.take k).all fL=true) (fun i=>l.length-(intOf i).toNat)
  case atStart=>exact⟨0,Nat.zero_le _,rfl,by simp⟩
  case round=>
   obtain⟨k,hk,rfl,hall⟩:=hrel;have HA:Hid ((l.take k).all fL=true):=hall;clear hall;by_cases hlt:k<l.length
   ·obtain⟨c0,c1⟩:=hl k hlt;go_wp2
    ·go_ret;exact⟨bB (zBE hlt (by simp only[fL,Bool.and_eq_false_iff,decide_eq_false_iff_not];omega)).symm,rfl⟩
    ·go_round
     case rel=>exact⟨k+1,by omega,by go_num,zHa hlt HA.out (by simp only[fL,Bool.and_eq_true,decide_eq_true_eq];omega)⟩
     case measure=>simp[intOf];omega
    ·go_ret;exact⟨bB (zBE hlt (by simp only[fL,Bool.and_eq_false_iff,decide_eq_false_iff_not];omega)).symm,rfl⟩
   ·go_wp2;go_ret;refine⟨bB ?_,rfl⟩;have e:l.take k=l:=List.take_of_length_le (by omega);have:=HA.out;rw[e] at this;simp[iA,this,h50]
 ·have hg:decide ((50:Int)<(l.length:Int))=true:=by simp;omega
  go_enter Tryz.func41,Tryz.ntmps41;go_wp2;go_ret;exact⟨bB (by simp[iA,h50]),rfl⟩
theorem zAC (ao:Option Addr) (cap:Nat) (w:World):
  Calls p_ 41 #[.slice ao 0 cap] w fun e w'=>e=.returned (.bool true)/\w'=w:=by
 go_enter Tryz.func41,Tryz.ntmps41;go_wp2;refine wp_loop_rounds 1 ?_;rw[rounds_succ];go_wp2;go_ret;exact⟨rfl,rfl⟩
theorem gW {w w':World} {b off:Nat} {l:List (ByteArray×ByteArray)} (hb:Below w.heap.size w w') (h:iO w b off l):iO w' b off l:=
 fun i hi=>⟨aA hb (h i hi).1,aA hb (h i hi).2⟩
theorem zKD {l:List (ByteArray×ByteArray)} {f:ByteArray×ByteArray->Bool} {k:Nat} (hk:k<l.length) (h:(l.take k).any f=false) (h2:f l[k]=false):(l.take (k+1)).any f=false:=by
 rw[List.take_succ_eq_append_getElem hk,List.any_append,h];simp[h2]
theorem zLU {l:List (ByteArray×ByteArray)} {f:ByteArray×ByteArray->Bool} {k:Nat} (hk:k<l.length) (h:f l[k]=true):l.any f=true:=by
 rw[List.any_eq_true];exact⟨l[k],List.getElem_mem hk,h⟩
def bY (w:World) (ao:Option Addr) (l:List (ByteArray×ByteArray)):Prop:=l=[]∨∃ b off,ao=some ⟨b,off,none⟩/\iO w b off l
theorem lX {w w':World} {ao:Option Addr} {l:List (ByteArray×ByteArray)} (hb:Below w.heap.size w w') (h:bY w ao l):bY w' ao l:=by
 rcases h with h|⟨b,off,h,k⟩
 ·exact .inl h
 ·exact .inr ⟨b,off,h,gW hb k⟩
theorem zC8 {w w':World} {ao:Option Addr} {l:List (ByteArray×ByteArray)} (h:bY w ao l) (hk:∀ b off,ao=some ⟨b,off,none⟩->b<w.heap.size->w'.heap[b]?=w.heap[b]?):bY w' ao l:=by
 rcases h with h|⟨b,off,rfl,h⟩
 ·exact .inl h
 ·by_cases h0:l=[]
  ·exact .inl h0
  ·have hl:0<l.length:=List.length_pos_iff.2 h0;have e:=hk b off rfl (World.block_lt_of_cell? w _ (h 0 hl).1);exact .inr ⟨b,off,rfl,fun i hi=>⟨(b_ (w:=w) e).trans (h i hi).1,(b_ (w:=w) e).trans (h i hi).2⟩⟩
theorem vD (l:List (ByteArray×ByteArray)) (ao:Option Addr) (cap:Nat) (w:World) (hl:bY w ao l) (hn:l.length<=maxLen):
  Calls p_ 41 #[.slice ao l.length cap] w fun e w'=>e=.returned (.bool (iA l))/\w'=w:=by
 rcases hl with rfl|⟨b,off,rfl,h⟩
 ·exact zAC _ _ _
 ·exact yT l b off cap w h hn
def aV (r:ByteArray×ByteArray):List Value:=[.string r.1,.string r.2]
theorem gQ (r:ByteArray×ByteArray):(aV r).length=2:=rfl
def ownP (w:World) (B:Nat) (v:Value) (F:List (ByteArray×ByteArray)):Prop:=w.ownsRow B 165 2 v F.length (F.flatMap aV)
theorem zCS:(Tryz.prog.info? 165).map (fun i=>(i.zero,i.size,i.bytes))=some (some (.agg #[.string ⟨#[]⟩,.string ⟨#[]⟩]),2,32):=by kernel_rfl
theorem zIa {w:World} {B:Nat} {v:Value} {l:List (ByteArray×ByteArray)} {r:ByteArray×ByteArray} (h:w.ownsRow B 165 2 v (l.length+1) (l.flatMap aV++aV r)):ownP w B v (l++[r]):=by
 unfold ownP;rw[List.flatMap_append,List.length_append];simpa using h
theorem zHn (r:ByteArray×ByteArray):∀ u∈aV r,u.oneCell'=true:=by
 intro u hu;simp only[aV,List.mem_cons,List.not_mem_nil,or_false] at hu;rcases hu with rfl|rfl<;>rfl
theorem lV {w:World} {B:Nat} {v:Value} {F:List (ByteArray×ByteArray)} (h:ownP w B v F):∃ ao cap,v=.slice ao F.length cap/\bY w ao F:=by
 rcases aX h with⟨hv,h0⟩|⟨g,cap,hv,_,hl,hc,hm⟩
 ·have e:F=[]:=List.length_eq_zero_iff.1 h0;subst e;exact⟨none,0,hv,.inl rfl⟩
 ·refine⟨_,cap,hv,.inr ⟨g,0,rfl,fun i hi=>?_⟩⟩;unfold ownP at h;rw[hv] at h;have h0:=(dU gQ h i 0 hi (by omega)).1;have h1:=(dU gQ h i 1 hi (by omega)).1;rw[show 0+i*2=i*2+0 by omega];exact⟨h0,by rw[show i*2+0+1=i*2+1 by omega];exact h1⟩
theorem zJU {w:World} {B:Nat} {la:Option Addr} {lc:Nat} {F:List (ByteArray×ByteArray)} (h:ownP w B (.slice la F.length lc) F):bY w la F/\F.length<=9223372036854775807:=by
 refine⟨?_,?_⟩
 ·obtain⟨ao,cap,e,hh⟩:=lV h;cases e;exact hh
 ·rcases aX h with⟨_,h0⟩|⟨g,cap,hv,_,hl,hc,hm⟩
  ·omega
  ·unfold maxLen at hm;omega
theorem zNz (l:List (ByteArray×ByteArray)) (b off cap b2 off2 cap2:Nat) (w:World) (hl:iO w b off l) (hl2:iO w b2 off2 l) (hn:l.length<=9223372036854775807):
  Calls p_ 34 #[.slice (some ⟨b,off,none⟩) l.length cap,.slice (some ⟨b2,off2,none⟩) l.length cap2] w fun e w'=>e=.returned (.bool true)/\Below w.heap.size w w':=by
 go_enter Tryz.func34,Tryz.ntmps34;go_wp2
 go_loopw [5] (fun i wr=>∃ k:Nat,k<=l.length/\i=.int .i64 k/\Below w.heap.size w wr) (fun i _=>l.length-(intOf i).toNat)
 case atStart=>exact⟨0,Nat.zero_le _,rfl,r_ _ _⟩
 case round=>
  obtain⟨k,hk,rfl,hB⟩:=hrel;by_cases hlt:k<l.length
  ·obtain⟨c0,c1⟩:=gW hB hl k hlt;obtain⟨d0,d1⟩:=gW hB hl2 k hlt;go_wp2;go_quiet (fail);go_wp2;go_roundw
   case rel=>exact⟨k+1,by omega,by go_num,hB.trans (below_draws _ _ _)⟩
   case measure=>simp[intOf];omega
  ·go_wp2;go_ret;exact⟨rfl,hB⟩
theorem zD4 (ao ao2:Option Addr) (cap cap2:Nat) (w:World):
  Calls p_ 34 #[.slice ao 0 cap,.slice ao2 0 cap2] w fun e w'=>e=.returned (.bool true)/\Below w.heap.size w w':=by
 go_enter Tryz.func34,Tryz.ntmps34;go_wp2
 go_loopw [5] (fun i wr=>i=.int .i64 0/\wr=w) (fun _ _=>0)
 case atStart=>exact⟨rfl,rfl⟩
 case round=>
  obtain⟨rfl,rfl⟩:=hrel;go_wp2;go_ret;exact⟨rfl,r_ _ _⟩
theorem zNy (l:List (ByteArray×ByteArray)) (ao ao2:Option Addr) (cap cap2:Nat) (w:World) (hl:bY w ao l) (hl2:bY w ao2 l) (hn:l.length<=9223372036854775807):
  Calls p_ 34 #[.slice ao l.length cap,.slice ao2 l.length cap2] w fun e w'=>e=.returned (.bool true)/\Below w.heap.size w w':=by
 rcases hl with rfl|⟨b,off,rfl,h⟩
 ·exact zD4 _ _ _ _ _
 ·rcases hl2 with rfl|⟨b2,off2,rfl,h2⟩
  ·exact zD4 _ _ _ _ _
  ·exact zNz l b off cap b2 off2 cap2 w h h2 hn
end
section
open Go.RowKit Go.Joins Go.Shelf
attribute [local go_sem] Oper.semAt_some
structure Ver where
 deed:Int
 val:ByteArray
 gone:Bool
def verV (x:Ver):Value:=.agg #[.int .i64 x.deed,.string x.val,.bool x.gone]
def zIN (w:World) (g:Nat) (l:List Ver):Prop:=
 ∀ i (h:i<l.length),w.cell? ⟨g,i*3,none⟩=some (.int .i64 l[i].deed)/\w.cell? ⟨g,i*3+1,none⟩=some (.string l[i].val)/\w.cell? ⟨g,i*3+2,none⟩=some (.bool l[i].gone)
def fG {α:Type} (f:Nat->α) (k:Nat):List α:=(List.range k).map f
theorem yQ {α:Type} (f:Nat->α) (k:Nat):fG f (k+1)=fG f k++[f k]:=by simp[fG,List.range_succ]
theorem zDa {α:Type} (f:Nat->α) (k:Nat):(fG f k).length=k:=by simp[fG]
def fM (l:List Ver) (j:Nat):Nat×Ver:=(l.length-1-j,(l[l.length-1-j]?).getD ⟨0,ByteArray.empty,false⟩)
theorem zKY (F:Fence) (n:Nat) (hF:F.fn 289) (hro:F.round=none) (hn:1<=n) (l Bs n₀ b cap:Nat) (vs:List Ver) (hlen:vs.length<=1000000) (hb:b<n₀) (hBl:Bs<n₀) (J Jx:List (Nat×Ver)->World->Prop)
  (hY:∀ pre x W,J pre W->pre.length<vs.length->YieldAt F (n-1) p_ l #[.int .i64 (x.1:Int),verV x.2] W fun e W'=>
   (e=.returned (.bool true)/\J (pre++[x]) W'/\Below n₀ W W')∨(e=.returned (.bool false)/\Jx (pre++[x]) W'))
  (W:World) (hBs:W.cell? ⟨Bs,0,none⟩=some (.slice (some ⟨b,0,none⟩) vs.length cap)) (hc:zIN W b vs) (h0:J [] W):
  CallsIn F n p_ 289 #[.func (.yield l) #[] #[],.pointer (some ⟨Bs,0,none⟩)] W fun e W'=>(∃ v,e=.returned v)/\
   ((∃ ys,ys=fG (fM vs) vs.length/\J ys W')∨(∃ pre,(∃ k,k<=vs.length/\pre=fG (fM vs) k)/\Jx pre W')):=by
 refine callsIn_of_wp Tryz.func289 rfl hF ?_ hro;simp only[Tryz.ntmps289,List.size_toArray,List.length_cons,List.length_nil,Nat.reduceAdd,Nat.reduceSub,Array.replicate_succ,Array.replicate_zero,List.push_toArray,List.append_toArray,List.nil_append,List.cons_append]
 gi_wp2
 gi_loopw [3] (fun i wr=>∃ k:Nat,k<=vs.length/\i=.int .i64 ((vs.length:Int)-1-k)/\J (fG (fM vs) k) wr/\Below n₀ W wr)
  (fun i _=>(intOf i+1).toNat)
 case atStart=>exact⟨0,Nat.zero_le _,by simp,h0,r_ _ _⟩
 case round=>
  obtain⟨k,hk,rfl,hJs,hnx⟩:=hrel;have hbs:=(hnx.cell (p:=⟨Bs,0,none⟩) hBl).trans hBs;by_cases hlt:k<vs.length
  ·obtain⟨p,hp⟩:∃ p,p=vs.length-1-k:=⟨_,rfl⟩;have hpl:p<vs.length:=by omega
   have hpi:(vs.length:Int)-1-(k:Int)=(p:Int):=by omega
   have hbk:fM vs k=(p,vs[p]):=by unfold fM;rw[<-hp,List.getElem?_eq_getElem hpl];rfl
   obtain⟨fn,tmps,assign,body,hy,hR⟩:=hY _ (p,vs[p]) wr hJs (by rw[zDa];exact hlt);dsimp only[verV] at hy;obtain⟨d0,d1,d2⟩:=hc p hpl;have c0:=(hnx.cell (p:=⟨b,p*3,none⟩) hb).trans d0;have c1:=(hnx.cell (p:=⟨b,p*3+1,none⟩) hb).trans d1;have c2:=(hnx.cell (p:=⟨b,p*3+2,none⟩) hb).trans d2;have HP:Hid (p=vs.length-1-k):=hp;have HBK:Hid (fM vs k=(p,vs[p])):=hbk;clear hp hbk d0 d1 d2;rw[hpi];have HPI:Hid ((vs.length:Int)-1-(k:Int)=(p:Int)):=hpi;clear hpi
   gi_wp2
   refine hR.mono ?_;rintro e W3 (⟨rfl,hJ3,hk3⟩|⟨rfl,hJx3⟩)
   ·gi_wp2
    go_roundw
    case rel=>exact⟨k+1,by omega,by have:=HPI.out;congr 1;omega,by rw[yQ,HBK.out];exact hJ3,hnx.trans hk3⟩
    case measure=>simp[intOf]
   ·gi_wp2
    refine bodyPost_ret (results_none rfl _ _ _) rfl ?_;exact⟨⟨_,rfl⟩,.inr ⟨_,⟨k+1,by omega,by rw[yQ,HBK.out]⟩,hJx3⟩⟩
  ·obtain rfl:k=vs.length:=by omega
   have e1:(vs.length:Int)-1-(vs.length:Int)=-1:=by omega
   rw[e1]
   gi_wp2
   go_end0;exact⟨⟨_,rfl⟩,.inl ⟨_,rfl,hJs⟩⟩
theorem zCG (F:Fence) (n:Nat) (hF:F.fn 289) (hro:F.round=none) (l Bs:Nat) (J:List (Nat×Ver)->World->Prop) (W:World) (hBs:W.cell? ⟨Bs,0,none⟩=some (.slice none 0 0)) (h0:J [] W):
  CallsIn F n p_ 289 #[.func (.yield l) #[] #[],.pointer (some ⟨Bs,0,none⟩)] W fun e W'=>(∃ v,e=.returned v)/\J [] W':=by
 refine callsIn_of_wp Tryz.func289 rfl hF ?_ hro;simp only[Tryz.ntmps289,List.size_toArray,List.length_cons,List.length_nil,Nat.reduceAdd,Nat.reduceSub,Array.replicate_succ,Array.replicate_zero,List.push_toArray,List.append_toArray,List.nil_append,List.cons_append]
 gi_wp2
 gi_loopw [3] (fun i wr=>i=.int .i64 (-1)/\J [] wr) (fun _ _=>0)
 case atStart=>exact⟨rfl,h0⟩
 case round=>
  obtain⟨rfl,hJs⟩:=hrel
  gi_wp2
  go_end0;exact⟨⟨_,rfl⟩,hJs⟩
theorem zL5 (F:Fence) (n:Nat) (hF:F.fn 252) (hro:F.round=none) (a:Option Addr) (len cap:Nat) (w:World):
  CallsIn F n p_ 252 #[.slice a len cap] w fun e w'=>e=.returned (.func (.func 289) #[] #[.pointer (some ⟨w.heap.size,0,none⟩)])/\w'=w.alloc (.cells #[.slice a len cap] 218):=by
 refine callsIn_of_wp Tryz.func252 rfl hF ?_ hro;simp only[Tryz.ntmps252,List.size_toArray,List.length_cons,List.length_nil,Nat.reduceAdd,Nat.reduceSub,Array.replicate_succ,Array.replicate_zero,List.push_toArray,List.append_toArray,List.nil_append,List.cons_append]
 gi_wp2
 go_ret;exact⟨rfl,rfl⟩
def jH (n₀:Nat) (W:World) (ao:Option Addr) (cap:Nat) (vs:List Ver):Prop:=(ao=none/\cap=0/\vs=[])∨∃ b,ao=some ⟨b,0,none⟩/\b<n₀/\zIN W b vs
theorem jH.below {n₀:Nat} {A B:World} (h:Below n₀ A B) {ao:Option Addr} {cap:Nat} {vs:List Ver}:jH n₀ A ao cap vs->jH n₀ B ao cap vs
 | .inl e=>.inl e
 | .inr ⟨b,e,hb,hc⟩=>.inr ⟨b,e,hb,fun i hi=>⟨(h.cell (p:=⟨b,i*3,none⟩) hb).trans (hc i hi).1,(h.cell (p:=⟨b,i*3+1,none⟩) hb).trans (hc i hi).2.1,(h.cell (p:=⟨b,i*3+2,none⟩) hb).trans (hc i hi).2.2⟩⟩
theorem zFD (F:Fence) (n:Nat) (hF:F.fn 289) (hro:F.round=none) (hn:1<=n) (Bs n₀:Nat) (ao:Option Addr) (cap:Nat) (vs:List Ver) (hlen:vs.length<=1000000) (w:World) (hBs:Bs<n₀) (hn₀:n₀<=w.heap.size)
  (hc:w.cell? ⟨Bs,0,none⟩=some (.slice ao vs.length cap)) (hI:jH n₀ w ao cap vs):
  SeqStopsK F n p_ 289 #[.pointer (some ⟨Bs,0,none⟩)] (fun x:Nat×Ver=>#[i_ .i64 (x.1:Int),verV x.2]) (Below n₀) (fun ys=>ys=fG (fM vs) vs.length) (fun pre=>∃ k,k<=vs.length/\pre=fG (fM vs) k) vs.length w:=fun l J Jx W hW _ _ hY h0=>by
 have hc':=(hW.cell (p:=⟨Bs,0,none⟩) (by show Bs<_;omega)).trans hc;rcases hI.below (hW.mono hn₀) with⟨rfl,rfl,rfl⟩|⟨b,rfl,hb,hcs⟩
 ·exact(zCG F n hF hro l Bs J W hc' h0).mono fun e W' ⟨he,hj⟩=>⟨he,.inl ⟨_,rfl,hj⟩⟩
 ·exact zKY F n hF hro hn l Bs n₀ b cap vs hlen hb hBs J Jx hY W hc' hcs h0
def fO (vs:List Ver) (n:Int):Int:=match (vs.reverse.findIdx? fun x=>decide (x.deed<=n)) with
 | some j=>(vs.length:Int)-1-j
 | none=>-1
theorem zLs (vs:List Ver) (k:Nat) (hk:k<=vs.length):(fG (fM vs) k).map (·.2)=vs.reverse.take k:=by
 apply List.ext_getElem
 ·simp[fG];omega
 ·intro i h1 h2;have hi:i<k:=by simpa[fG] using h1
  have:vs.length-1-i<vs.length:=by omega
  simp[fG,fM,this]
theorem zIZ {vs:List Ver} {n:Int} (h:∀ y∈fG (fM vs) vs.length,n<y.2.deed):fO vs n=-1:=by
 unfold fO;have:vs.reverse.findIdx? (fun x=>decide (x.deed<=n))=none:=by
  rw[List.findIdx?_eq_none_iff];intro x hx;have e:=zLs vs vs.length (n_ _);rw[List.take_of_length_le (by simp)] at e;rw[<-e] at hx;obtain⟨y,hy,rfl⟩:=List.mem_map.1 hx;have:=h y hy;simp;omega
 rw[this]
theorem zJw {vs:List Ver} {n:Int} {k:Nat} (hk:k<=vs.length) {pre:List (Nat×Ver)} {x:Nat×Ver} (e:pre++[x]=fG (fM vs) k) (h:∀ y∈pre,n<y.2.deed) (hx:x.2.deed<=n):fO vs n=(x.1:Int)/\x.1<vs.length/\vs[x.1]?=some x.2:=by
 have hkl:k=pre.length+1:=by have:=congrArg List.length e;simp[fG] at this;omega
 have hx0:(fG (fM vs) k)[pre.length]?=some x:=by rw[<-e];simp
 have hxe:fM vs pre.length=x:=by
  have hlt:pre.length<k:=by omega
  simpa[fG,hlt] using hx0
 have h1:x.1=vs.length-1-pre.length:=by rw[<-hxe];rfl
 have h2:vs[x.1]?=some x.2:=by
  rw[h1,<-hxe];unfold fM;rw[List.getElem?_eq_getElem (by omega)];rfl
 refine⟨?_,by omega,h2⟩;unfold fO;have hf:vs.reverse.findIdx? (fun x=>decide (x.deed<=n))=some pre.length:=by
  rw[List.findIdx?_eq_some_iff_getElem];have hr:∀ j (hj:j<vs.reverse.length),vs.reverse[j]=(fM vs j).2:=by
   intro j hj;have hj':j<vs.length:=by simpa using hj
   unfold fM;rw[List.getElem_reverse,List.getElem?_eq_getElem (by omega)];rfl
  refine⟨by simp;omega,?_,fun j hj=>?_⟩
  ·rw[hr,hxe];simpa using hx
  ·rw[hr];have hy:fM vs j∈pre:=by
    have:(fG (fM vs) k)[j]?=some (fM vs j):=by
     have:j<k:=by omega
     simp[fG,this]
    rw[<-e,List.getElem?_append_left hj] at this;exact List.mem_of_getElem? this
   have:=h _ hy;simp;omega
 rw[hf];show(vs.length:Int)-1-(pre.length:Int)=(x.1:Int);omega
def zCU (n:Int) (pre:List (Nat×Ver)):Prop:=∀ y∈pre,n<y.2.deed
theorem zAE (W:World) (v:Value) (t:TypeId):(W.alloc (.cells #[v] t)).cell? ⟨W.heap.size,0,none⟩=some v/\(W.alloc (.cells #[v] t)).frozen? ⟨W.heap.size,0,none⟩=false:=⟨aC W #[v] t 0,aQ W #[v] t 0⟩
theorem pJ {W:World} {a:Addr} {v:Value} (o:Obj) (h:W.cell? a=some v):(W.alloc o).cell? a=some v:=aA (a_ _ _) h
theorem zBH {W:World} {a:Addr} {v:Value} (o:Obj) (h:W.cell? a=some v) (hf:W.frozen? a=false):(W.alloc o).frozen? a=false:=aE (a_ _ _) (World.block_lt_of_cell? _ _ h) hf
theorem zLY (F:Fence) (m:Nat) (hL:F.fn 199) (hBk:F.fn 252) (hB1:F.fn 289) (hro:F.round=none) (hm:3<=m) (ao:Option Addr) (cap:Nat) (vs:List Ver) (n:Int) (w:World) (hlen:vs.length<=1000000) (hI:jH w.heap.size w ao cap vs):
  CallsIn F m p_ 199 #[.slice ao vs.length cap,.int .i64 n] w fun e W'=>e=.returned (.int .i64 (fO vs n))/\Below w.heap.size w W':=by
 have h1:1<=m:=by omega
 refine callsIn_of_wp_marks Tryz.func199 rfl hL ?_ hro;simp only[Tryz.ntmps199,List.size_toArray,List.length_cons,List.length_nil,Nat.reduceAdd,Nat.reduceSub,Array.replicate_succ,Array.replicate_zero,List.push_toArray,List.append_toArray,List.nil_append,List.cons_append]
 gi_wp2_with (gi_at_call 252;refine(zL5 F (m-1) hBk hro _ _ _ _).mono ?_;rintro e w' ⟨rfl,rfl⟩)
 have c0:=zAE w (.int .i64 n) 3;have c1:=zAE (w.alloc (.cells #[.int .i64 n] 3)) (.int .i64 0) 3;have c2:=zAE ((w.alloc (.cells #[.int .i64 n] 3)).alloc (.cells #[.int .i64 0] 3)) (.slice ao vs.length cap) 218;simp only[World.size_alloc] at c1 c2;have hB0:Below w.heap.size w (((w.alloc (.cells #[.int .i64 n] 3)).alloc (.cells #[.int .i64 0] 3)).alloc (.cells #[.slice ao vs.length cap] 218)):=(((r_ _ w).alloc (n_ _) _).alloc (by simp) _).alloc (by simp;omega) _;have hI2:jH (w.heap.size+3) (((w.alloc (.cells #[.int .i64 n] 3)).alloc (.cells #[.int .i64 0] 3)).alloc (.cells #[.slice ao vs.length cap] 218)) ao cap vs:=by
  rcases hI.below hB0 with h|⟨b,e,hb,h⟩
  ·exact .inl h
  ·exact .inr ⟨b,e,by omega,h⟩
 refine wpIn_rangeFunc_ownH hro h1 (gf:=289) (lb:=#[.pointer (some ⟨w.heap.size+1+1,0,none⟩)]) rfl hB1 (enters_of Tryz.func289 (by kernel_rfl) rfl)
  (zFD F (m-1) hB1 hro (by omega) (w.heap.size+1+1) (w.heap.size+3) ao cap vs hlen _ (by omega) (by simp) c2.1 hI2) belowK_t (belowK_b (by simp)) (r_ _ _) (fun _=>rfl)
  (fun pre W=>(zCU n pre/\W.cell? ⟨w.heap.size+1+1,0,none⟩=some (.slice ao vs.length cap)/\W.cell? ⟨w.heap.size,0,none⟩=some (.int .i64 n)/\W.cell? ⟨w.heap.size+1,0,none⟩=some (.int .i64 0)/\W.frozen? ⟨w.heap.size+1,0,none⟩=false)/\Below w.heap.size w W)
  (fun c pre W=>(c=.ret/\(∃ pre' x,pre=pre'++[x]/\zCU n pre'/\x.2.deed<=n/\W.cell? ⟨w.heap.size+1,0,none⟩=some (.int .i64 (x.1:Int))))/\Below w.heap.size w W)
  (OwnFrom.and (Own.from (fun s A B row hs hg hr=>⟨hs.1,cell_kept hs.2.1 hg hr,cell_kept hs.2.2.1 hg hr,cell_kept hs.2.2.2.1 hg hr,(frozen_kept hs.2.2.2.1 hg hr).trans hs.2.2.2.2⟩) _) (ownFrom_below (n_ _) (by simp;omega)))
  (fun c=>OwnFrom.and (Own.from (fun s A B row hs hg hr=>by obtain⟨e,pre',x,h2,h3,h4,h5⟩:=hs;exact⟨e,pre',x,h2,h3,h4,cell_kept h5 hg hr⟩) _) (ownFrom_below (n_ _) (by simp;omega)))
  ⟨⟨by simp[zCU],c2.1,pJ _ (pJ _ c0.1),pJ _ c1.1,zBH _ c1.1 c1.2⟩,hB0⟩
  (fun x a' W=>∃ Bx,W.cell? ⟨Bx,0,none⟩=some (.int .i64 x.2.deed)/\a'={ tmps:=#[.slice ao vs.length cap,.int .i64 n,undef,.pointer (some ⟨w.heap.size,0,none⟩),.pointer (some ⟨w.heap.size+1,0,none⟩),.int .i64 (x.1:Int),.pointer (some ⟨Bx,0,none⟩),.slice ao vs.length cap,.func (.func 289) #[] #[.pointer (some ⟨w.heap.size+1+1,0,none⟩)],.int .i64 (x.1:Int),verV x.2,undef,undef,undef,undef,undef],defers:=[] })
  (fun x a'=>Own.from (fun s A B row hs hg hr=>by obtain⟨Bx,hc,e⟩:=hs;exact⟨Bx,cell_kept hc hg hr,e⟩) _) ?assign ?body ?done ?stop
 case assign=>
  rintro l pre x W K ⟨⟨hp,hcs,hcn,hcr,hfr⟩,hB⟩ hK;obtain⟨xi,xv⟩:=x;dsimp only[verV] at hK ⊢
  gi_wp2
  exact hK _ _ ((KeepsOthers.alloc _ _).from _) ((r_ _ W).alloc (by have h3:w.heap.size+1+1<W.heap.size:=World.block_lt_of_cell? _ _ hcs;omega) _) ⟨⟨hp,pJ _ hcs,pJ _ hcn,pJ _ hcr,zBH _ hcr hfr⟩,hB.alloc hB.size _⟩ ⟨W.heap.size,aC W _ _ 0,rfl⟩
 case body=>
  rintro l pre x a' W hl ⟨r,hr⟩ ⟨⟨hp,hcs,hcn,hcr,hfr⟩,hB⟩ ⟨Bx,hbx,rfl⟩ hlt;by_cases hx:x.2.deed<=n
  ·gi_wp2
   exact⟨(KeepsOthers.setCell _ _ _).from _,⟨rfl,pre,x,rfl,hp,hx,World.cell?_setCell_same' _ _ _ (by rw[hcr];rfl)⟩,hB.setCell (p:=⟨w.heap.size+1,0,none⟩) (by simp) _⟩
  ·gi_wp2
   exact⟨(KeepsOthers.refl _).from _,r_ _ _,⟨fun y hy=>(List.mem_append.1 hy).elim (hp y) (fun e=>by simp at e;subst e;omega),hcs,hcn,hcr,hfr⟩,hB⟩
 case done=>
  rintro D ys W hD rfl ⟨⟨hne,_,_,hcr,hfr⟩,hB⟩ hK
  gi_wp2
  have hK':=(KeepsOthers.setCell W ⟨w.heap.size+1,0,none⟩ (.int .i64 (-1))).same D _ hK rfl;refine⟨by simp,.inl ⟨_,_,rfl,run_takeDeferred hK',?_⟩⟩;have hc5:=cell_kept (World.cell?_setCell_same' W ⟨w.heap.size+1,0,none⟩ (.int .i64 (-1)) (by rw[hcr];rfl)) (grownBy_putObj' _ D (.deferred none)) (fun r e=>by cases e;exact⟨_,hK',rfl⟩);refine⟨.int .i64 (-1),?_,by rw[zIZ hne],(hB.setCell (p:=⟨w.heap.size+1,0,none⟩) (by simp) _).trans (belowK_b (w:=w) (n_ _) _ D _ _ (by simp at hD;omega) hK' rfl rfl)⟩;simp[results,Tryz.f199,go_sem,hc5]
 case stop=>
  rintro D c pre W hD ⟨k,hk,hpre⟩ ⟨⟨rfl,pre',x,e,hne,hx,hcr⟩,hB⟩ hK
  gi_wp2
  refine⟨by simp,.inl ⟨_,_,rfl,run_takeDeferred hK,?_⟩⟩;have hc5:=cell_kept hcr (grownBy_putObj' _ D (.deferred none)) (fun r e=>by cases e;exact⟨_,hK,rfl⟩);refine⟨.int .i64 (x.1:Int),?_,by rw[(zJw hk (e.symm.trans hpre) hne hx).1],hB.trans (belowK_b (w:=w) (n_ _) W D _ _ (by simp at hD;omega) hK rfl rfl)⟩;simp[results,Tryz.f199,go_sem,hc5]
theorem kO (ao:Option Addr) (cap:Nat) (vs:List Ver) (n:Int) (w:World) (hlen:vs.length<=1000000) (hI:jH w.heap.size w ao cap vs):
  Calls p_ 199 #[.slice ao vs.length cap,.int .i64 n] w fun e W'=>e=.returned (.int .i64 (fO vs n))/\Below w.heap.size w W':=
 (callsIn_wide (n:=3)).1 (zLY Fence.wide 3 trivial trivial trivial rfl (n_ _) ao cap vs n w hlen hI)
end
section
open Go.RowKit Go.Joins
def dZ (vs:List Ver) (n:Int):Option Ver:=vs.reverse.find? fun x=>decide (x.deed<=n)
def bE (vs:List Ver) (n:Int):ByteArray×Bool:=match dZ vs n with
 | some x=>if x.gone then (⟨#[]⟩,false) else (x.val,true)
 | none=>(⟨#[]⟩,false)
theorem zGF (vs:List Ver) (n:Int):(fO vs n=-1/\dZ vs n=none)∨∃ p,fO vs n=((p:Nat):Int)/\∃ h:p<vs.length,dZ vs n=some vs[p]:=by
 unfold fO dZ
 cases hf:vs.reverse.findIdx? (fun x=>decide (x.deed<=n)) with
 | none=>
  left;refine⟨rfl,?_⟩;rw[List.find?_eq_none];exact fun x hx=>by have:=List.findIdx?_eq_none_iff.1 hf x hx;simpa using this
 | some j=>
  right;obtain⟨hj,hp,hlt⟩:=List.findIdx?_eq_some_iff_getElem.1 hf;have hj':j<vs.length:=by simpa using hj
  refine⟨vs.length-1-j,by show(vs.length:Int)-1-(j:Int)=_;omega,by omega,?_⟩;rw[List.find?_eq_some_iff_getElem];refine⟨by rw[List.getElem_reverse] at hp;simpa using hp,j,hj,?_,fun i hi=>by have:=hlt i hi;simpa using this⟩;rw[List.getElem_reverse]
theorem sZ (ao:Option Addr) (cap:Nat) (vs:List Ver) (n:Int) (w:World) (hlen:vs.length<=1000000) (hI:jH w.heap.size w ao cap vs):
  Calls p_ 169 #[.slice ao vs.length cap,.int .i64 n] w fun e W'=>e=.returned (.tuple #[.string (bE vs n).1,.bool (bE vs n).2])/\Below w.heap.size w W':=by
 rcases zGF vs n with⟨hl,hv⟩|⟨p,hl,hp,hv⟩
 ·have HL:=hide hl;have HB:Hid (bE vs n=(⟨#[]⟩,false)):=by unfold Hid bE;rw[hv]
  clear hl hv;go_enter Tryz.func169,Tryz.ntmps169;go_wp2_with (go_at_call 199;refine(kO ao cap vs n _ hlen hI).mono ?_;rintro e w1 ⟨rfl,hb⟩;rw[HL.out])
  go_ret2;exact⟨by rw[HB.out];rfl,hb⟩
 ·rcases hI with⟨_,_,e⟩|⟨b,rfl,hb0,hc⟩
  ·rw[e] at hp;simp at hp
  ·obtain⟨d0,d1,d2⟩:=hc p hp;have hp0:¬((p:Int)<0):=by omega
   have hp1:(p:Int)<(vs.length:Int):=by omega
   have HL:=hide hl;have HI:Hid (jH w.heap.size w (some ⟨b,0,none⟩) cap vs):=.inr ⟨b,rfl,hb0,hc⟩
   cases hg:vs[p].gone with
   | true=>
    have HB:Hid (bE vs n=(⟨#[]⟩,false)):=by unfold Hid bE;rw[hv];simp[hg]
    rw[hg] at d2;clear hl hv hg hc;go_enter Tryz.func169,Tryz.ntmps169;go_wp2_with (go_at_call 199;refine(kO _ cap vs n _ hlen HI.out).mono ?_;rintro e w1 ⟨rfl,hb⟩;rw[HL.out];have k2:=aA hb d2)
    go_ret2;exact⟨by rw[HB.out];rfl,hb⟩
   | false=>
    have HB:Hid (bE vs n=(vs[p].val,true)):=by unfold Hid bE;rw[hv];simp[hg]
    rw[hg] at d2;clear hl hv hg hc;go_enter Tryz.func169,Tryz.ntmps169;go_wp2_with (go_at_call 199;refine(kO _ cap vs n _ hlen HI.out).mono ?_;rintro e w1 ⟨rfl,hb⟩;rw[HL.out];have k1:=aA hb d1;have k2:=aA hb d2)
    go_ret2;exact⟨by rw[HB.out];rfl,hb⟩
def nO (x:Ver):List Value:=[.int .i64 x.deed,.string x.val,.bool x.gone]
theorem kV (x:Ver):(nO x).length=3:=rfl
theorem zH3 (l:List Ver):∀ u∈l.flatMap nO,u.oneCell'=true:=by
 intro u hu;obtain⟨s,_,hu⟩:=List.mem_flatMap.1 hu;simp only[nO,List.mem_cons,List.not_mem_nil,or_false] at hu;rcases hu with rfl|rfl|rfl<;>rfl
def ownV (w:World) (B:Nat) (v:Value) (vs:List Ver):Prop:=w.ownsRow B 233 3 v vs.length (vs.flatMap nO)
theorem nF {w:World} {B:Nat} {v:Value} {vs:List Ver} (h:ownV w B v vs):∃ ao cap,v=.slice ao vs.length cap/\jH w.heap.size w ao cap vs/\vs.length<=cap/\cap<=9223372036854775807:=by
 rcases aX h with⟨hv,h0⟩|⟨g,cap,hv,_,hl,hc,hm⟩
 ·have e:vs=[]:=List.length_eq_zero_iff.1 h0;subst e;exact⟨none,0,hv,.inl ⟨rfl,rfl,rfl⟩,n_ _,by omega⟩
 ·refine⟨_,cap,hv,.inr ⟨g,rfl,hl,fun i hi=>?_⟩,hc,by unfold maxLen at hm;omega⟩;unfold ownV at h;rw[hv] at h;exact⟨(dU kV h i 0 hi (by omega)).1,(dU kV h i 1 hi (by omega)).1,(dU kV h i 2 hi (by omega)).1⟩
def RV (v:Value):Option (DataW Value×List MemPlace):=some (.held v,[])
def kL (s:ByteArray):Lit:=.string s.data.toList
theorem oU {a b:ByteArray} (h:a≠b):kL a≠kL b:=fun e=>h (by
 unfold kL at e;simp at e;exact ByteArray.ext e)
def apV (a b:Value):Prop:=∀ k,a.ownBlock=some k->b.ownBlock≠some k
structure VS (w:World) (B vb mb:Nat) (now:Int) (n:Nat) (D:DataW Value) (g:ByteArray->Value) (R:ByteArray->List Ver):Prop where
 num:w.cell? ⟨vb,0,none⟩=some (.int .i64 now)
 soft:w.frozen? ⟨vb,0,none⟩=false
 mp:w.cell? ⟨vb,1,none⟩=some (.map (some mb))
 own:w.ownsMap p_ 9 RV mb n D
 look:∀ key,key.size<=maxLen->D.atKey (kL key) (.held (.slice none 0 0))=.held (g key)
 has:∀ key,key.size<=maxLen->(Maps.has D (kL key)=true↔R key≠[])
 rows:∀ key,ownV w B (g key) (R key)
 lov:B<=vb
 lom:B<=mb
 ne:vb≠mb
 offv:∀ key,(g key).ownBlock≠some vb
 offm:∀ key,(g key).ownBlock≠some mb
 apart:∀ a b,a≠b->apV (g a) (g b)
def inVS (vb mb:Nat) (g:ByteArray->Value) (k:Nat):Prop:=k=vb∨k=mb∨∃ key,(g key).ownBlock=some k
theorem VS.lt {w:World} {B vb mb n:Nat} {now:Int} {D:DataW Value} {g:ByteArray->Value} {R:ByteArray->List Ver} (h:VS w B vb mb now n D g R) {k:Nat} (hk:inVS vb mb g k):k<w.heap.size:=by
 rcases hk with rfl|rfl|⟨key,e⟩
 ·exact World.block_lt_of_cell? _ _ h.num
 ·exact h.own.lt
 ·exact(l_ (h.rows key) k e).2
theorem tZ {w w':World} {mb n:Nat} {D:DataW Value} (h:w.ownsMap p_ 9 RV mb n D) (e:w'.heap[mb]?=w.heap[mb]?):w'.ownsMap p_ 9 RV mb n D:=by
 obtain⟨es,clock,hb,r⟩:=h;exact⟨es,clock,e.trans hb,r⟩
theorem VS.kept {w w':World} {B vb mb n:Nat} {now:Int} {D:DataW Value} {g:ByteArray->Value} {R:ByteArray->List Ver} (h:VS w B vb mb now n D g R) (hk:∀ k,inVS vb mb g k->w'.heap[k]?=w.heap[k]?):VS w' B vb mb now n D g R where
 num:=(b_ (w:=w) (hk vb (.inl rfl))).trans h.num
 soft:=(World.frozen?_of_block (w:=w) (hk vb (.inl rfl))).trans h.soft
 mp:=(b_ (w:=w) (hk vb (.inl rfl))).trans h.mp
 own:=tZ h.own (hk mb (.inr (.inl rfl)))
 look:=h.look
 has:=h.has
 rows:=fun key=>aI (h.rows key) fun k e=>hk k (.inr (.inr ⟨key,e⟩))
 lov:=h.lov
 lom:=h.lom
 ne:=h.ne
 offv:=h.offv
 offm:=h.offm
 apart:=h.apart
theorem VS.on {w w':World} {B vb mb n:Nat} {now:Int} {D:DataW Value} {g:ByteArray->Value} {R:ByteArray->List Ver} (h:VS w B vb mb now n D g R) (hb:Below w.heap.size w w'):VS w' B vb mb now n D g R:=h.kept fun k hk=>hb.block k (h.lt hk)
theorem eX:Maps.Keyed p_ 9:=Maps.string_keyed Tryz.underlying9
theorem uH {s:ByteArray} (hs:s.size<=maxLen):keyOf p_ 9 (.string s)=some (kL s):=Go.WideMaps.keyOf_string_mk Tryz.underlying9 hs
theorem nJ (s:ByteArray):WideAt.IsKeyLit (kL s):=trivial
theorem VS.looked {w:World} {B vb mb n:Nat} {now:Int} {D:DataW Value} {g:ByteArray->Value} {R:ByteArray->List Ver} (h:VS w B vb mb now n D g R) {key:ByteArray} (hk:key.size<=maxLen):
  (Instr.lookup 217 (.map (some mb)) (.string key) false).run p_ w=.ok (g key) w:=by
 obtain⟨v,ps,hrun,hv⟩:=h.own.lookup eX Tryz.underlying217 (Tryz.zeroValue218 w) (zd:=.held (.slice none 0 0)) (zp:=[]) rfl (uH hk);rw[h.look key hk] at hv;simp only[RV,Option.some.injEq,Prod.mk.injEq,DataW.held.injEq] at hv;rw[hv.1] at hrun;exact hrun
def putG {α:Type} (g:ByteArray->α) (key:ByteArray) (v:α):ByteArray->α:=fun k=>if k=key then v else g k
theorem bH {α:Type} (g:ByteArray->α) (key:ByteArray) (v:α):putG g key v key=v:=by simp[putG]
theorem aW {α:Type} (g:ByteArray->α) {key k:ByteArray} (v:α) (h:k≠key):putG g key v k=g k:=by simp[putG,h]
theorem VS.put {W w3 w4:World} {B vb mb n gk ck:Nat} {now:Int} {D:DataW Value} {g:ByteArray->Value} {R:ByteArray->List Ver} {key:ByteArray} {x:Ver} (h:VS W B vb mb now n D g R) (hk:key.size<=maxLen) (hB:B<=W.heap.size)
  (hg:W.grownBy w3 (g key).ownBlock) (ho:ownV w3 B (.slice (some ⟨gk,0,none⟩) ((R key).length+1) ck) (R key++[x])) (hat:(g key).ownBlock=some gk∨gk=W.heap.size)
  (hm:w4.ownsMap p_ 9 RV mb (n+1) (D.put (kL key) (.held (.slice (some ⟨gk,0,none⟩) ((R key).length+1) ck)))) (hg4:w3.grownBy w4 (some mb)):
  VS w4 B vb mb now (n+1) (D.put (kL key) (.held (.slice (some ⟨gk,0,none⟩) ((R key).length+1) ck))) (putG g key (.slice (some ⟨gk,0,none⟩) ((R key).length+1) ck)) (putG R key (R key++[x]))/\Below B W w4/\
  (∀ j,j<W.heap.size->¬inVS vb mb g j->w4.heap[j]?=W.heap[j]?/\¬inVS vb mb (putG g key (.slice (some ⟨gk,0,none⟩) ((R key).length+1) ck)) j):=by
 have hv0:=h.lt (k:=vb) (.inl rfl);have hm0:=h.lt (k:=mb) (.inr (.inl rfl));have hmap:=h.own.isMap;have hgv:gk≠vb:=by
  rcases hat with e|e
  ·exact fun e'=>h.offv key (by rw[e,e'])
  ·omega
 have hgm:gk≠mb:=by
  rcases hat with e|e
  ·exact fun e'=>h.offm key (by rw[e,e'])
  ·omega
 have hgl:gk<w3.heap.size:=(l_ ho gk rfl).2;have b3:∀ j,j<W.heap.size->some j≠(g key).ownBlock->w3.heap[j]?=W.heap[j]?:=fun j h1 h2=>hg.block j h1 h2;have b4:∀ j,j<w3.heap.size->j≠mb->w4.heap[j]?=w3.heap[j]?:=fun j h1 h2=>hg4.block j h1 (fun e=>h2 (by cases e;rfl));have bv:w4.heap[vb]?=W.heap[vb]?:=(b4 vb (Nat.lt_of_lt_of_le hv0 hg.size) h.ne).trans (b3 vb hv0 (Ne.symm (h.offv key)));have other:∀ k,k≠key->∀ j,(g k).ownBlock=some j->w4.heap[j]?=W.heap[j]?:=fun k hne j hj=>by
  have hjl:=(l_ (h.rows k) j hj).2;exact(b4 j (Nat.lt_of_lt_of_le hjl hg.size) (fun e=>h.offm k (by rw[hj,e]))).trans (b3 j hjl (fun e=>h.apart k key hne j hj e.symm))
 have gko:∀ k,k≠key->(g k).ownBlock≠some gk:=fun k hne e=>by
  rcases hat with e'|e'
  ·exact h.apart k key hne gk e e'
  ·have:=(l_ (h.rows k) gk e).2;omega
 refine⟨{ num:=?_,soft:=?_,mp:=?_,own:=hm,look:=?_,has:=?_,rows:=?_,lov:=h.lov,lom:=h.lom,ne:=h.ne,offv:=?_,offm:=?_,apart:=?_ },?_,?_⟩
 ·exact(b_ (w:=W) bv).trans h.num
 ·exact(World.frozen?_of_block (w:=W) bv).trans h.soft
 ·exact(b_ (w:=W) bv).trans h.mp
 ·intro k hkl;by_cases e:k=key
  ·subst e;rw[bH,Maps.atKey_put_same hmap (nJ k)]
  ·rw[aW _ _ e,Maps.atKey_put_other (oU e)];exact h.look k hkl
 ·intro k hkl;by_cases e:k=key
  ·subst e;rw[bH,Maps.has_put_same hmap (nJ k)];simp
  ·rw[aW _ _ e,Maps.has_put_other (oU e)];exact h.has k hkl
 ·intro k;by_cases e:k=key
  ·subst e;rw[bH,bH];exact aI ho fun j hj=>by
    simp[Value.ownBlock] at hj;subst hj;exact b4 _ hgl hgm
  ·rw[aW _ _ e,aW _ _ e];exact aI (h.rows k) fun j hj=>other k e j hj
 ·intro k;by_cases e:k=key
  ·subst e;rw[bH];simpa[Value.ownBlock] using hgv
  ·rw[aW _ _ e];exact h.offv k
 ·intro k;by_cases e:k=key
  ·subst e;rw[bH];simpa[Value.ownBlock] using hgm
  ·rw[aW _ _ e];exact h.offm k
 ·intro a b hab;by_cases ea:a=key
  ·subst ea;rw[bH,aW _ _ (Ne.symm hab)];intro j hj;simp[Value.ownBlock] at hj;subst hj;exact gko b (Ne.symm hab)
  ·rw[aW _ _ ea];by_cases eb:b=key
   ·subst eb;rw[bH];intro j hj e;simp[Value.ownBlock] at e;subst e;exact gko a ea hj
   ·rw[aW _ _ eb];exact h.apart a b hab
 ·exact((r_ B W).grown hg hB (fun k e=>(l_ (h.rows key) k e).1)).grown hg4 (Nat.le_trans hB hg.size) (fun k e=>by cases e;exact h.lom)
 ·intro j h1 h2;have n1:j≠mb:=fun e=>h2 (.inr (.inl e));have n2:some j≠(g key).ownBlock:=fun e=>h2 (.inr (.inr ⟨key,e.symm⟩));refine⟨(b4 j (Nat.lt_of_lt_of_le h1 hg.size) n1).trans (b3 j h1 n2),?_⟩;rintro(e|e|⟨k,e⟩)
  ·exact h2 (.inl e)
  ·exact h2 (.inr (.inl e))
  ·by_cases ek:k=key
   ·subst ek;rw[bH] at e;simp[Value.ownBlock] at e;subst e;rcases hat with e'|e'
    ·exact n2 e'.symm
    ·omega
   ·rw[aW _ _ ek] at e;exact h2 (.inr (.inr ⟨k,e⟩))
def cW (R:ByteArray->List Ver) (d:Int) (l:List Chg):ByteArray->List Ver:=l.foldl (fun R c=>putG R c.key (R c.key++[⟨d,c.val,c.gone⟩])) R
theorem zEl (R:ByteArray->List Ver) (d:Int) (l:List Chg) (c:Chg):cW R d (l++[c])=putG (cW R d l) c.key (cW R d l c.key++[⟨d,c.val,c.gone⟩]):=by simp[cW]
theorem sF (d:Int) (key:ByteArray):∀ (l:List Chg) (R:ByteArray->List Ver),(cW R d l key).length<=(R key).length+l.length
 | [],R=>by simp[cW]
 | c::l,R=>by
  have h:=sF d key l (putG R c.key (R c.key++[⟨d,c.val,c.gone⟩]));have e:cW R d (c::l)=cW (putG R c.key (R c.key++[⟨d,c.val,c.gone⟩])) d l:=rfl;rw[e,List.length_cons];by_cases ek:key=c.key
  ·subst ek;rw[bH,List.length_append] at h;simp at h;omega
  ·rw[aW _ _ ek] at h;omega
end
section
open Go.RowKit Go.Joins
attribute [local go_sem ↓] Go.wp_at_zero Go.wp_at_succ
theorem VS.set {W w4:World} {B vb mb n gk:Nat} {now:Int} {D:DataW Value} {g:ByteArray->Value} {R:ByteArray->List Ver} {key:ByteArray} {v':Value} {vs':List Ver} (h:VS W B vb mb now n D g R) (hB:B<=W.heap.size)
  (ho:ownV W B v' vs') (hgk:v'.ownBlock=some gk) (hfresh:¬inVS vb mb g gk) (hne:vs'≠[])
  (hm:w4.ownsMap p_ 9 RV mb (n+1) (D.put (kL key) (.held v'))) (hg4:W.grownBy w4 (some mb)):
  VS w4 B vb mb now (n+1) (D.put (kL key) (.held v')) (putG g key v') (putG R key vs')/\Below B W w4/\(∀ j,j<W.heap.size->j≠gk->¬inVS vb mb g j->w4.heap[j]?=W.heap[j]?/\¬inVS vb mb (putG g key v') j):=by
 have hv0:=h.lt (k:=vb) (.inl rfl);have hmap:=h.own.isMap;have hgv:gk≠vb:=fun e=>hfresh (.inl e);have hgm:gk≠mb:=fun e=>hfresh (.inr (.inl e));have hgl:gk<W.heap.size:=(l_ ho gk hgk).2;have b4:∀ j,j<W.heap.size->j≠mb->w4.heap[j]?=W.heap[j]?:=fun j h1 h2=>hg4.block j h1 (fun e=>h2 (by cases e;rfl));have bv:w4.heap[vb]?=W.heap[vb]?:=b4 vb hv0 h.ne;have gko:∀ k,(g k).ownBlock≠some gk:=fun k e=>hfresh (.inr (.inr ⟨k,e⟩));refine⟨{ num:=?_,soft:=?_,mp:=?_,own:=hm,look:=?_,has:=?_,rows:=?_,lov:=h.lov,lom:=h.lom,ne:=h.ne,offv:=?_,offm:=?_,apart:=?_ },?_,?_⟩
 ·exact(b_ (w:=W) bv).trans h.num
 ·exact(World.frozen?_of_block (w:=W) bv).trans h.soft
 ·exact(b_ (w:=W) bv).trans h.mp
 ·intro k hkl;by_cases e:k=key
  ·subst e;rw[bH,Maps.atKey_put_same hmap (nJ k)]
  ·rw[aW _ _ e,Maps.atKey_put_other (oU e)];exact h.look k hkl
 ·intro k hkl;by_cases e:k=key
  ·subst e;rw[bH,Maps.has_put_same hmap (nJ k)];simp[hne]
  ·rw[aW _ _ e,Maps.has_put_other (oU e)];exact h.has k hkl
 ·intro k;by_cases e:k=key
  ·subst e;rw[bH,bH];exact aI ho fun j hj=>by
    rw[hgk] at hj;cases hj;exact b4 _ hgl hgm
  ·rw[aW _ _ e,aW _ _ e];exact aI (h.rows k) fun j hj=>b4 j (l_ (h.rows k) j hj).2 (fun e=>h.offm k (by rw[hj,e]))
 ·intro k;by_cases e:k=key
  ·subst e;rw[bH,hgk];simpa using hgv
  ·rw[aW _ _ e];exact h.offv k
 ·intro k;by_cases e:k=key
  ·subst e;rw[bH,hgk];simpa using hgm
  ·rw[aW _ _ e];exact h.offm k
 ·intro a b hab;by_cases ea:a=key
  ·subst ea;rw[bH,aW _ _ (Ne.symm hab)];intro j hj;rw[hgk] at hj;cases hj;exact gko b
  ·rw[aW _ _ ea];by_cases eb:b=key
   ·subst eb;rw[bH];intro j hj e;rw[hgk] at e;cases e;exact gko a hj
   ·rw[aW _ _ eb];exact h.apart a b hab
 ·exact(r_ B W).grown hg4 hB (fun k e=>by cases e;exact h.lom)
 ·intro j h1 h2 h3;refine⟨b4 j h1 (fun e=>h3 (.inr (.inl e))),?_⟩;rintro(e|e|⟨k,e⟩)
  ·exact h3 (.inl e)
  ·exact h3 (.inr (.inl e))
  ·by_cases ek:k=key
   ·subst ek;rw[bH,hgk] at e;cases e;exact h2 rfl
   ·rw[aW _ _ ek] at e;exact h3 (.inr (.inr ⟨k,e⟩))
def jS (l:List (ByteArray×ByteArray)):ByteArray->List Ver:=l.foldl (fun R r=>putG R r.1 [⟨0,r.2,false⟩]) fun _=>[]
theorem zGn (l:List (ByteArray×ByteArray)) (r:ByteArray×ByteArray):jS (l++[r])=putG (jS l) r.1 [⟨0,r.2,false⟩]:=by simp[jS]
theorem zMd {W:World} {B vb mb:Nat} (h1:W.cell? ⟨vb,0,none⟩=some (.int .i64 0)) (h2:W.frozen? ⟨vb,0,none⟩=false) (h3:W.cell? ⟨vb,1,none⟩=some (.map (some mb))) (h4:W.heap[mb]?=some (.map #[] 0)) (h5:B<=vb) (h6:B<=mb) (h7:vb≠mb):VS W B vb mb 0 0 (.map []) (fun _=>.slice none 0 0) (fun _=>[]) where
 num:=h1
 soft:=h2
 mp:=h3
 own:=by
  obtain⟨es,clock,hb,r⟩:=World.ownsMap_made W p_ 9 RV;rw[Go.heap_alloc_new] at hb;cases hb;exact⟨_,_,h4,r⟩
 look:=fun key _=>by rw[Maps.atKey_of_not_has rfl]
 has:=fun key _=>by simp[Maps.has]
 rows:=fun key=>World.ownsRow_nil _ _ _ _
 lov:=h5
 lom:=h6
 ne:=h7
 offv:=fun key=>by simp[Value.ownBlock]
 offm:=fun key=>by simp[Value.ownBlock]
 apart:=fun a b _ k hk=>by simp[Value.ownBlock] at hk
theorem zIz (n:Int) (w:World):(Instr.makeMap 217 (some (.int .i64 n))).run p_ w=.ok (.map (some w.heap.size)) (w.alloc (.map #[] 0)):=by
 simp[Instr.makeMap,run_underlying Tryz.underlying217,asInt,newObj,go_sem];rfl
theorem zMl (l:List (ByteArray×ByteArray)) (ao:Option Addr) (cap:Nat) (w:World) (hl:bY w ao l) (hn:l.length<=1000) (hk:∀ r∈l,r.1.size<=1000000):
  Calls p_ 75 #[.slice ao l.length cap] w fun e w'=>∃ vb,e=.returned (.pointer (some ⟨vb,0,none⟩))/\Below w.heap.size w w'/\∃ mb D g,VS w' w.heap.size vb mb 0 l.length D g (jS l):=by
 have HL:=hide hl;have HK:=hide hk;clear hl hk;go_enter Tryz.func75,Tryz.ntmps75;have hmk:=zIz;go_wp2;have HB0:Hid (Below w.heap.size w ((w.alloc (Obj.map #[] 0)).alloc (o_ #[.int .i64 0,Value.map (some w.heap.size)] 220))):=below_alloc2 _ _ _;have HV0:Hid (VS ((w.alloc (Obj.map #[] 0)).alloc (o_ #[.int .i64 0,Value.map (some w.heap.size)] 220)) w.heap.size (w.heap.size+1) w.heap.size 0 0 (.map []) (fun _=>.slice none 0 0) (fun _=>[])):=by
  have e1:(w.alloc (Obj.map #[] 0)).heap.size=w.heap.size+1:=by simp
  refine zMd ?_ ?_ ?_ ?_ (by omega) (n_ _) (by omega)
  ·have:=aC (w.alloc (Obj.map #[] 0)) #[i_ .i64 0,Value.map (some w.heap.size)] 220 0;rwa [e1] at this
  ·have:=aQ (w.alloc (Obj.map #[] 0)) #[i_ .i64 0,Value.map (some w.heap.size)] 220 0;rwa [e1] at this
  ·have:=aC (w.alloc (Obj.map #[] 0)) #[i_ .i64 0,Value.map (some w.heap.size)] 220 1;rwa [e1] at this
  ·rw[Below.heap_alloc _ _ _ (by simp)];exact Go.heap_alloc_new w _
 clear hmk
 go_loopw [13] (fun i wr=>∃ (k:Nat) (D:DataW Value) (g:ByteArray->Value),k<=l.length/\i=.int .i64 k/\VS wr w.heap.size (w.heap.size+1) w.heap.size 0 k D g (jS (l.take k))/\Below w.heap.size w wr) (fun i _=>l.length-(intOf i).toNat)
 case atStart=>exact⟨0,_,_,Nat.zero_le _,rfl,HV0.out,HB0.out⟩
 case round=>
  obtain⟨k,D,g,hkl,rfl,hV,hBr⟩:=hrel;have H1:=hide hV;have H2:=hide hBr;clear hV hBr HV0 HB0;by_cases hlt:k<l.length
  ·rcases lX H2.out HL.out with e|⟨b,off,eao,hc0⟩
   ·rw[e] at hlt;simp at hlt
   subst eao;obtain⟨c0,c1⟩:=hc0 k hlt;have hlt':(k:Int)<(l.length:Int):=by omega
   have hks:=HK.out _ (List.getElem_mem hlt);have hkm:l[k].1.size<=maxLen:=by unfold maxLen;omega
   have HT:Hid (jS (l.take (k+1))=putG (jS (l.take k)) l[k].1 [⟨0,l[k].2,false⟩]):=by
    unfold Hid;rw[List.take_succ_eq_append_getElem hlt,zGn]
   generalize jS (l.take k)=R1 at H1 HT;clear hc0 hks;generalize l[k]=x at *;have hbA:=a_ wr (o_ #[.string x.1,.string x.2] 165);have x0:(wr.alloc (o_ #[.string x.1,.string x.2] 165)).cell? ⟨wr.heap.size,0,none⟩=some (.string x.1):=aC _ _ _ 0;have x1:(wr.alloc (o_ #[.string x.1,.string x.2] 165)).cell? ⟨wr.heap.size,1,none⟩=some (.string x.2):=aC _ _ _ 1;have xs:(wr.alloc (o_ #[.string x.1,.string x.2] 165)).heap.size=wr.heap.size+1:=by simp
   have HVY:=hide (H1.out.on hbA);have HBY:=hide hbA;have hnv:¬inVS (w.heap.size+1) w.heap.size g wr.heap.size:=fun e=>by have:=H1.out.lt e;omega
   have hnv1:¬inVS (w.heap.size+1) w.heap.size g (wr.heap.size+1):=fun e=>by have:=H1.out.lt e;omega
   go_wp2;generalize hY:wr.alloc (o_ #[.string x.1,.string x.2] 165)=Y at x0 x1 xs HVY HBY ⊢;clear hY hbA c0 c1;have v1:=HVY.out.mp;have hvY:=HVY.out.lt (k:=w.heap.size+1) (.inl rfl);have hbZ:=(a_ Y (o_ #[.int .i64 0,.string x.2,.bool false] 233)).drew;have HVZ:=hide (HVY.out.on hbZ);have hB1:w.heap.size<=Y.heap.size:=by omega
   have hoZ:ownV (Y.alloc (o_ #[.int .i64 0,.string x.2,.bool false] 233)).drew w.heap.size (.slice (some ⟨wr.heap.size+1,0,none⟩) 1 1) [⟨0,x.2,false⟩]:=by
    rw[<-xs];refine⟨rfl,.inr ⟨Y.heap.size,1,#[i_ .i64 0,v_ x.2,Value.bool false],rfl,hB1,Go.heap_alloc_new Y _,by simp,by simp[maxLen],rfl,rfl⟩⟩
   have HOZ:=hide hoZ;obtain⟨w4,hrun4,hm4,hg4⟩:=HVZ.out.own.update eX Tryz.underlying217 (by unfold maxLen;omega) (uH hkm) (show RV (.slice (some ⟨wr.heap.size+1,0,none⟩) 1 1)=_ from rfl);have nvm:(some (w.heap.size+1):Option Nat)≠some w.heap.size:=fun e=>by have:=Option.some.inj e;omega
   have nxm:(some wr.heap.size:Option Nat)≠some w.heap.size:=fun e=>hnv (.inr (.inl (Option.some.inj e)));have q1:=hg4.cell (aA hbZ v1) nvm;have q2:=hg4.cell (aA hbZ x0) nxm;have q3:=hg4.cell (aA hbZ x1) nxm;have HS:Hid (VS w4 w.heap.size (w.heap.size+1) w.heap.size 0 (k+1) (D.put (kL x.1) (.held (.slice (some ⟨wr.heap.size+1,0,none⟩) 1 1))) (putG g x.1 (.slice (some ⟨wr.heap.size+1,0,none⟩) 1 1)) (putG R1 x.1 [⟨0,x.2,false⟩])/\Below w.heap.size w w4):=by
    obtain⟨r1,r2,_⟩:=HVZ.out.set (Nat.le_trans hB1 hbZ.size) HOZ.out rfl hnv1 (by simp) hm4 hg4;exact⟨r1,(H2.out.trans ((aB HBY.out (n_ _) hbZ).mono H2.out.size)).trans r2⟩
   clear hoZ hm4 hg4
   go_region_held3 (fun w'=>w'.cell? ⟨w.heap.size+1,1,none⟩=some (.map (some w.heap.size))/\w'.cell? ⟨wr.heap.size,0,none⟩=some (.string x.1)/\w'.cell? ⟨wr.heap.size,1,none⟩=some (.string x.2))
    (first|go_keep|exact⟨q1,q2,q3⟩) (fail)
   go_wp2;go_roundw
   case rel=>exact⟨k+1,_,_,by omega,by go_num,by rw[HT.out];exact HS.out.1,HS.out.2⟩
   case measure=>simp[intOf];omega
  ·have ek:k=l.length:=by omega
   subst ek;have hlt':¬(l.length:Int)<(l.length:Int):=by omega
   rw[List.take_length] at H1;go_wp2;go_ret;exact⟨_,rfl,H2.out,_,_,_,H1.out⟩
end
section
open Go.RowKit Go.Joins
theorem pH (f t k:ByteArray) (w:World):
  Calls p_ 162 #[.agg #[.string f,.string t],.string k] w fun e w'=>e=.returned (.bool (hasS f t k))/\Below w.heap.size w w':=by
 go_enter Tryz.func162,Tryz.ntmps162;go_wp2
 all_goals
  go_ret;refine⟨?_,a_ _ _⟩;simp_all [hasS,leS,ltS,nilS]
def told (R:ByteArray->List Ver) (n:Int) (s:ByteArray×ByteArray) (r:ByteArray×ByteArray):Prop:=r.1.size<=maxLen/\hasS s.1 s.2 r.1=true/\bE (R r.1) n=(r.2,true)
structure Got (D:DataW Value) (R:ByteArray->List Ver) (n:Int) (s:ByteArray×ByteArray) (left:Lit->Bool) (F:List (ByteArray×ByteArray)):Prop where
 mem:∀ r,r∈F↔told R n s r/\left (kL r.1)=false
 nodup:(F.map (·.1)).Nodup
theorem zFp {key:Value} {kl:Lit} (h:keyOf p_ 9 key=some kl):∃ s,key=.string s/\kl=kL s/\s.size<=maxLen:=by
 cases key<;>simp[keyOf,Tryz.underlying9,mapKey] at h
 obtain⟨hs,rfl⟩:=h;exact⟨_,rfl,rfl,hs⟩
theorem wS {left:Lit->Bool} {x k:ByteArray}:(left (kL k)&&!(kL k).sameKey (kL x))=if k=x then false else left (kL k):=by
 by_cases e:k=x
 ·subst e;rw[WideAt.sameKey_self (nJ k)];simp
 ·rw[if_neg e,Maps.sameKey_ne (oU e)];simp
theorem zDi {D:DataW Value} {R:ByteArray->List Ver} {n:Int} {s:ByteArray×ByteArray} {left:Lit->Bool} {F:List (ByteArray×ByteArray)} (h:Got D R n s left F) {x:ByteArray} (hx:∀ v,¬told R n s (x,v)):Got D R n s (fun z=>left z&&!z.sameKey (kL x)) F where
 mem:=fun r=>by
  rw[h.mem r];show _↔_/\(left (kL r.1)&&!(kL r.1).sameKey (kL x))=false;rw[wS];by_cases e:r.1=x
  ·obtain⟨r1,r2⟩:=r;subst e;exact⟨fun h'=>absurd h'.1 (hx r2),fun h'=>absurd h'.1 (hx r2)⟩
  ·rw[if_neg e]
 nodup:=h.nodup
theorem zJ2 {D:DataW Value} {R:ByteArray->List Ver} {n:Int} {s:ByteArray×ByteArray} {left:Lit->Bool} {F:List (ByteArray×ByteArray)} (h:Got D R n s left F) {x v:ByteArray} (hl:left (kL x)=true) (hx:told R n s (x,v)):Got D R n s (fun z=>left z&&!z.sameKey (kL x)) (F++[(x,v)]) where
 mem:=fun r=>by
  rw[List.mem_append,h.mem r,List.mem_singleton];show _↔_/\(left (kL r.1)&&!(kL r.1).sameKey (kL x))=false;rw[wS];by_cases e:r.1=x
  ·obtain⟨r1,r2⟩:=r;subst e;rw[if_pos rfl];constructor
   ·rintro(⟨h1,h2⟩|h2)
    ·exact⟨h1,rfl⟩
    ·rw[h2];exact⟨hx,rfl⟩
   ·rintro⟨h1,_⟩;right;have:=h1.2.2.symm.trans hx.2.2;simp at this;rw[this]
  ·rw[if_neg e];constructor
   ·rintro(h'|h')
    ·exact h'
    ·exact absurd (by rw[h']) e
   ·exact fun h'=>.inl h'
 nodup:=by
  rw[List.map_append,List.nodup_append];refine⟨h.nodup,by simp,fun a ha b hb=>?_⟩;obtain⟨r,hr,rfl⟩:=List.mem_map.1 ha;simp at hb;subst hb;intro e;have:=((h.mem r).1 hr).2;rw[e,hl] at this;cases this
end
end Go.Proofs.YtnboipekkahmnaaGreatDoor
