import Derived.Test.YtnboipekkahmnaaGreatDoorD11
set_option maxHeartbeats 8000000
set_option maxRecDepth 100000
namespace Go.Proofs.YtnboipekkahmnaaGreatDoor
section
open Go.RowKit Go.Joins
structure VwL where
 P:Rws
 n:Nat
 chs:List Chg
 rds:Rws
structure ESt where
 x:SSt
 now:Nat
 R:ByteArray->List Ver
 ds:List aU
 ses:Nat->Option VwL
 c:Nat
def setS (f:Nat->Option VwL) (i:Nat) (v:Option VwL):Nat->Option VwL:=fun j=>if j=i then v else f j
theorem hE (f:Nat->Option VwL) (i:Nat) (v:Option VwL):setS f i v i=v:=if_pos rfl
theorem hU {f:Nat->Option VwL} {i j:Nat} (v:Option VwL) (h:j≠i):setS f i v j=f j:=if_neg h
theorem zBn {f:Nat->Option VwL} {i j:Nat} {v:VwL} (h:setS f i none j=some v):f j=some v:=by
 unfold setS at h;split at h
 ·cases h
 ·exact h
def minS (n:Nat):Option VwL->Nat
 | some v=>min n v.n
 | none=>n
def cI (s:ESt):Nat:=minS (minS (minS (minS s.now (s.ses 0)) (s.ses 1)) (s.ses 2)) (s.ses 3)
theorem lB (n:Nat) (o:Option VwL):minS n o<=n:=by cases o<;>simp only[minS]<;>omega
theorem qC {n:Nat} {o:Option VwL} {v:VwL} (h:o=some v):minS n o<=v.n:=by subst h;simp only[minS];omega
theorem zF7 (s:ESt):cI s<=s.now:=by
 have h1:=lB (minS (minS (minS s.now (s.ses 0)) (s.ses 1)) (s.ses 2)) (s.ses 3);have h2:=lB (minS (minS s.now (s.ses 0)) (s.ses 1)) (s.ses 2);have h3:=lB (minS s.now (s.ses 0)) (s.ses 1);have h4:=lB s.now (s.ses 0);unfold cI;omega
theorem yI {s:ESt} {i:Nat} {v:VwL} (hi:i<4) (h:s.ses i=some v):cI s<=v.n:=by
 have h1:=lB (minS (minS (minS s.now (s.ses 0)) (s.ses 1)) (s.ses 2)) (s.ses 3);have h2:=lB (minS (minS s.now (s.ses 0)) (s.ses 1)) (s.ses 2);have h3:=lB (minS s.now (s.ses 0)) (s.ses 1);have h4:=lB s.now (s.ses 0);unfold cI;have hc:i=0∨i=1∨i=2∨i=3:=by omega
 rcases hc with rfl|rfl|rfl|rfl
 ·have:=qC (n:=s.now) h;omega
 ·have:=qC (n:=minS s.now (s.ses 0)) h;omega
 ·have:=qC (n:=minS (minS s.now (s.ses 0)) (s.ses 1)) h;omega
 ·exact qC h
def nU (s:ESt) (i:Nat):ESt:={ s with ses:=setS s.ses i none }
def endE (s:ESt) (i:Nat):ESt:={ nU s i with ds:=s.ds.drop (cR s.ds (cI (nU s i))) }
def dX (s:ESt) (i:Nat):ESt:={ s with ses:=setS s.ses i (some ⟨aS s.x.rows,s.now,[],[]⟩) }
def jU (s:ESt) (i:Nat) (v:VwL) (chs:List Chg) (rds:Rws):ESt:={ s with ses:=setS s.ses i (some ⟨v.P,v.n,chs,rds⟩) }
def addE (s:ESt) (chs:List Chg):ESt:={ s with x:=(comR s.x chs).2,now:=s.now+1,R:=cW s.R ((s.now:Int)+1) chs,ds:=s.ds++[⟨(s.now:Int)+1,chs.map (·.key)⟩],c:=s.c+1 }
def comE (s:ESt) (i:Nat):(Nat×Nat)×ESt:=match s.ses i with
 | none=>((0,7),s)
 | some v=>if v.chs=[] then ((v.n,0),endE s i)
  else if lC s.ds v.rds v.n=false then ((0,9),endE s i)
  else if (comR s.x v.chs).1≠0 then ((0,(comR s.x v.chs).1),{ s with x:=(comR s.x v.chs).2 })
  else ((s.now+1,0),endE (addE s v.chs) i)
def dS (s:ESt) (i:Nat):Nat×ESt:=match s.ses i with
 | none=>(7,s)
 | some _=>(0,endE s i)
def vacC (R:ByteArray->List Ver) (n:Int):ByteArray->List Ver:=fun key=>if key.size<=maxLen then dN (R key) n else R key
theorem zMn {R:ByteArray->List Ver} {n:Int} {K:List ByteArray} (h:keysV R K):vacR R n K=vacC R n:=by
 funext key;unfold vacC;by_cases hin:key∈K
 ·rw[vJ hin,if_pos ((h.2 key).1 hin).1]
 ·rw[pV hin];split
  ·rename_i hs;by_cases e:R key=[]
   ·rw[e,uN]
   ·exact absurd ((h.2 key).2 ⟨hs,e⟩) hin
  ·rfl
theorem vZ {R:ByteArray->List Ver} {n m:Int} (hm:n<=m) (key:ByteArray):bE (vacC R n key) m=bE (R key) m:=by
 unfold vacC;split
 ·exact zC0 hm
 ·rfl
def vacE (s:ESt):ESt:={ s with R:=vacC s.R (cI s),c:=s.c+1 }
def chkE (s:ESt):ESt:={ s with x:=(chkR s.x).2 }
def newE (d:DSt) (area first u:Nat) (rows:List Chg):ESt:=⟨⟨d,area,first,u,rows⟩,0,jS (aS rows),[],fun _=>none,0⟩
structure VOk (s:ESt) (v:VwL):Prop where
 lo:v.n<=s.now
 say:sayR s.R v.n v.P
 ov:OkV v.P v.chs v.rds
 oq:OkQ v.P v.chs
 sem:∀ key,(∀ d∈s.ds,(v.n:Int)<d.n->key∉d.keys)->valR (aS s.x.rows) key=valR v.P key
structure EOk (s:ESt):Prop where
 g:fA s.x
 say:sayR s.R s.now (aS s.x.rows)
 up:nC s.R s.now
 rd:gS s.ds
 dn:∀ d∈s.ds,d.n<=s.now
 dl:s.ds.length<=s.now
 dk:∀ d∈s.ds,d.keys.length<=12
 kl:∃ L:List ByteArray,L.length<=50+12*s.now/\∀ key,s.R key≠[]->key∈L
 rl:∀ key,(s.R key).length<=1+12*s.now
 nc:s.now<=s.c
 ses:∀ i v,s.ses i=some v->VOk s v
theorem yA {rows:List Chg} (h:fH rows) (hn:rows.length<=40):OkV (aS rows) [] [] where
 rise:=oY h.2
 len:=by unfold aS;rw[List.length_map];omega
 keys:=fun r hr=>by
  obtain⟨c,hc,rfl⟩:=List.mem_map.1 hr;exact lD (h.1 c hc).1
 cn:=by simp
 ck:=by simp
 cr:=List.Pairwise.nil
 rn:=by simp
theorem zKG {rows:List Chg} (h:fH rows):OkQ (aS rows) [] where
 rk:=fun r hr=>by
  obtain⟨c,hc,rfl⟩:=List.mem_map.1 hr;exact oO (h.1 c hc).1
 cf:=by simp
theorem zLq {R:ByteArray->List Ver} {a n:Int} {P:Rws} (hu:nC R a) (han:a<=n) (h:sayR R a P):sayR R n P:=fun key=>by
 have e:dZ (R key) n=dZ (R key) a:=by
  unfold dZ;have hf:∀ (l:List Ver),(∀ x∈l,x.deed<=a)->l.find? (fun x=>decide (x.deed<=n))=l.find? (fun x=>decide (x.deed<=a)):=by
   intro l hl
   cases l with
   | nil=>rfl
   | cons x l=>
    have:=hl x (List.mem_cons_self ..);rw[List.find?_cons_of_pos (by simp;omega),List.find?_cons_of_pos (by simpa using this)]
  exact hf _ fun x hx=>hu key x (List.mem_reverse.1 hx)
 have h1:=h key;unfold bE at h1 ⊢;rw[e];exact h1
theorem zCb {P:Rws} (hP:bV P) {key:ByteArray}:∀ (cs:List Chg),key∉cs.map (·.key)->valR (iB P cs) key=valR P key:=by
 intro cs
 induction cs generalizing P with
 | nil=>intro _;rfl
 | cons c cs ih=>
  intro h;rw[List.map_cons,List.mem_cons,not_or] at h;have e:iB P (c::cs)=iB (apply1 P c) cs:=rfl;rw[e,ih (jO hP c) h.2];exact uJ hP h.1
theorem yU (d:Int) (key:ByteArray):∀ (l:List Chg) (R:ByteArray->List Ver),cW R d l key≠[]->R key≠[]∨key∈l.map (·.key)
 | [],R,h=>.inl h
 | c::l,R,h=>by
  have e:cW R d (c::l)=cW (putG R c.key (R c.key++[⟨d,c.val,c.gone⟩])) d l:=rfl;rw[e] at h;rcases yU d key l _ h with h1|h1
  ·by_cases hk:key=c.key
   ·exact .inr (by rw[List.map_cons,hk];exact List.mem_cons_self ..)
   ·rw[aW _ _ hk] at h1;exact .inl h1
  ·exact .inr (by rw[List.map_cons];exact List.mem_cons_of_mem _ h1)
theorem zIy {l:Rws} {key:ByteArray} (h:jS l key≠[]):key∈l.map (·.1):=by
 have aux:∀ (l:Rws) (R:ByteArray->List Ver),(l.foldl (fun R r=>putG R r.1 [⟨0,r.2,false⟩]) R) key≠[]->R key≠[]∨key∈l.map (·.1):=by
  intro l
  induction l with
  | nil=>intro R h;exact .inl h
  | cons r l ih=>
   intro R h;rcases ih _ h with h1|h1
   ·by_cases hk:key=r.1
    ·exact .inr (by rw[List.map_cons,hk];exact List.mem_cons_self ..)
    ·dsimp only at h1;rw[aW _ _ hk] at h1;exact .inl h1
   ·exact .inr (by rw[List.map_cons];exact List.mem_cons_of_mem _ h1)
 rcases aux l _ h with h1|h1
 ·exact absurd rfl h1
 ·exact h1
theorem zBQ:∀ {K KS:List ByteArray},K.Nodup->(∀ k∈K,k∈KS)->K.length<=KS.length
 | [],_,_,_=>Nat.zero_le _
 | k::K,KS,h,hs=>by
  rw[List.nodup_cons] at h;have h1:(KS.filter fun x=>!eqS x k).length<KS.length:=by
   rw[List.length_filter_lt_length_iff_exists];exact⟨k,hs k (by simp),by simp[pG]⟩
  have h2:=zBQ (KS:=KS.filter fun x=>!eqS x k) h.2 fun x hx=>by
   rw[List.mem_filter];exact⟨hs x (by simp[hx]),by simp[rH (show x≠k from fun e=>h.1 (by rw[<-e];exact hx))]⟩
  rw[List.length_cons];omega
theorem zEX {l:List Chg} (h:∀ c∈l,aD c=0) (hr:rises l):iT l=0:=by
 refine zBe fun i hi=>?_;unfold cO;rw[List.getElem?_eq_getElem hi];dsimp only;rw[if_neg (by rw[h _ (List.getElem_mem hi)];decide)]
 cases i with
 | zero=>rfl
 | succ j=>
  dsimp only;rw[List.getElem?_eq_getElem (by omega)];dsimp only;have:=List.pairwise_iff_getElem.1 hr j (j+1) (by omega) hi (by omega);rw[if_neg (by rw[mA,this];decide)]
section
variable {s:ESt}
theorem EOk.fine (h:EOk s):fH s.x.rows:=cQ.fine h.g
theorem EOk.few (h:EOk s):s.x.rows.length<=40:=cQ.few h.g
theorem EOk.begin (h:EOk s) (i:Nat):EOk (dX s i):={ h with
 ses:=fun j v hj=>by
  have hj':setS s.ses i (some ⟨aS s.x.rows,s.now,[],[]⟩) j=some v:=hj;unfold setS at hj';split at hj'
  ·cases hj';exact⟨Nat.le_refl _,h.say,yA h.fine h.few,zKG h.fine,fun _ _=>rfl⟩
  ·have:=h.ses j v hj';exact⟨this.lo,this.say,this.ov,this.oq,this.sem⟩ }
theorem EOk.drop (h:EOk s) (i:Nat):EOk (nU s i):={ h with
 ses:=fun j v hj=>by
  have:=h.ses j v (zBn hj);exact⟨this.lo,this.say,this.ov,this.oq,this.sem⟩ }
theorem EOk.forget (h:EOk s) (hs:∀ i,4<=i->s.ses i=none):EOk { s with ds:=s.ds.drop (cR s.ds (cI s)) }:={ h with
 rd:=zFu h.rd _
 dn:=fun d hd=>h.dn d (List.mem_of_mem_drop hd)
 dl:=by show(s.ds.drop _).length<=s.now;rw[List.length_drop];have:=h.dl;omega
 dk:=fun d hd=>h.dk d (List.mem_of_mem_drop hd)
 ses:=fun j v hj=>by
  have hj':s.ses j=some v:=hj;have hi:j<4:=by
   rcases Nat.lt_or_ge j 4 with h4|h4
   ·exact h4
   ·rw[hs j h4] at hj';cases hj'
  have hv:=h.ses j v hj';refine⟨hv.lo,hv.say,hv.ov,hv.oq,fun key hk=>hv.sem key fun d hd hn=>hk d ?_ hn⟩;show d∈s.ds.drop (cR s.ds (cI s));rw[zFJ h.rd,List.mem_filter];have:=yI hi hj';exact⟨hd,by simp;omega⟩ }
theorem EOk.ended (h:EOk s) (hs:∀ i,4<=i->s.ses i=none) (i:Nat):EOk (endE s i):=(h.drop i).forget fun j hj=>by
 show setS s.ses i none j=none;unfold setS;split
 ·rfl
 ·exact hs j hj
theorem EOk.view (h:EOk s) {i:Nat} {v:VwL} (hv:s.ses i=some v) {chs:List Chg} {rds:Rws} (h1:OkV v.P chs rds) (h2:OkQ v.P chs):EOk (jU s i v chs rds):={ h with
 ses:=fun j u hj=>by
  have hj':setS s.ses i (some ⟨v.P,v.n,chs,rds⟩) j=some u:=hj;unfold setS at hj';have hvo:=h.ses i v hv;split at hj'
  ·cases hj';exact⟨hvo.lo,hvo.say,h1,h2,hvo.sem⟩
  ·have:=h.ses j u hj';exact⟨this.lo,this.say,this.ov,this.oq,this.sem⟩ }
theorem EOk.add (h:EOk s) {chs:List Chg} (h0:(comR s.x chs).1=0):EOk (addE s chs):=by
 obtain⟨_,hc⟩:=h.g.commit chs;have hc2:comF s.x chs=0/\fA (comR s.x chs).2/\(comR s.x chs).2.rows=aK s.x.rows chs:=by
  rcases hc with⟨_,a,b,c,_⟩|⟨a,b,_⟩|⟨a,_⟩
  ·exact⟨a,b,c⟩
  ·rw[h0] at a;exact absurd a.symm b
  ·rw[h0] at a;cases a
 obtain⟨q1,q2,q3⟩:=hc2;obtain⟨z1,z2,z3,z4⟩:=tU q1;have hrows:aS (comR s.x chs).2.rows=iB (aS s.x.rows) chs:=by rw[q3,zBY h.fine]
 have hri:=oY h.fine.2;have hnew:∀ key,key∉chs.map (·.key)->valR (aS (comR s.x chs).2.rows) key=valR (aS s.x.rows) key:=fun key hk=>by
  rw[hrows];exact zCb hri chs hk
 exact {
  g:=q2
  say:=by
   show sayR (cW s.R ((s.now:Int)+1) chs) ((s.now+1:Nat):Int) (aS (comR s.x chs).2.rows);rw[hrows];have e:((s.now+1:Nat):Int)=(s.now:Int)+1:=by omega
   rw[e];exact zJs (Int.le_refl _) hri (zLq h.up (by omega) h.say) chs
  up:=by
   show nC (cW s.R ((s.now:Int)+1) chs) ((s.now+1:Nat):Int);have e:((s.now+1:Nat):Int)=(s.now:Int)+1:=by omega
   rw[e];exact zG4 (zHH h.up (by omega)) chs
  rd:=by
   show(s.ds++[_]).Pairwise _;rw[List.pairwise_append];refine⟨h.rd,List.pairwise_singleton _ _,fun a ha b hb=>?_⟩;rw[List.mem_singleton.1 hb];have:=h.dn a ha;show a.n<(s.now:Int)+1;omega
  dn:=fun d hd=>by
   show d.n<=((s.now+1:Nat):Int);rcases List.mem_append.1 hd with hd|hd
   ·have:=h.dn d hd;omega
   ·rw[List.mem_singleton.1 hd];show(s.now:Int)+1<=_;omega
  dl:=by show(s.ds++[_]).length<=s.now+1;rw[List.length_append];have:=h.dl;simp;omega
  dk:=fun d hd=>by
   rcases List.mem_append.1 hd with hd|hd
   ·exact h.dk d hd
   ·rw[List.mem_singleton.1 hd];show(chs.map (·.key)).length<=12;rw[List.length_map];exact z1
  kl:=by
   obtain⟨L,hL1,hL2⟩:=h.kl;refine⟨L++chs.map (·.key),?_,fun key hk=>?_⟩
   ·show _<=50+12*(s.now+1);rw[List.length_append,List.length_map];omega
   ·rcases yU _ key chs s.R hk with h1|h1
    ·exact List.mem_append_left _ (hL2 key h1)
    ·exact List.mem_append_right _ h1
  rl:=fun key=>by
   have h1:=sF ((s.now:Int)+1) key chs s.R;have h2:=h.rl key;show(cW s.R ((s.now:Int)+1) chs key).length<=1+12*(s.now+1);omega
  nc:=by show s.now+1<=s.c+1;have:=h.nc;omega
  ses:=fun j v hj=>by
   have hv:=h.ses j v hj;have hlo:=hv.lo;refine⟨by show v.n<=s.now+1;omega,fun key=>?_,hv.ov,hv.oq,fun key hk=>?_⟩
   ·show bE (cW s.R ((s.now:Int)+1) chs key) v.n=_;rw[tQ (by omega)];exact hv.say key
   ·have hk':∀ d∈s.ds++[⟨(s.now:Int)+1,chs.map (·.key)⟩],(v.n:Int)<d.n->key∉d.keys:=hk;have h1:=hk' ⟨(s.now:Int)+1,chs.map (·.key)⟩ (List.mem_append_right _ (List.mem_singleton.2 rfl)) (by show(v.n:Int)<(s.now:Int)+1;omega);show valR (aS (comR s.x chs).2.rows) key=_;rw[hnew key h1];exact hv.sem key fun d hd hn=>hk' d (List.mem_append_left _ hd) hn }
theorem EOk.vac (h:EOk s) (hs:∀ i,4<=i->s.ses i=none):EOk (vacE s):={ h with
 say:=fun key=>by
  show bE (vacC s.R (cI s) key) s.now=_;rw[vZ (by have:=zF7 s;omega)];exact h.say key
 up:=fun key x hx=>by
  have hx':x∈vacC s.R (cI s) key:=hx;unfold vacC at hx';split at hx'
  ·exact h.up key x (zJr hx')
  ·exact h.up key x hx'
 kl:=by
  obtain⟨L,hL1,hL2⟩:=h.kl;refine⟨L,hL1,fun key hk=>hL2 key fun e=>hk ?_⟩;show vacC s.R (cI s) key=[];unfold vacC;rw[e];split
  ·exact uN _
  ·rfl
 rl:=fun key=>by
  show(vacC s.R (cI s) key).length<=1+12*s.now;unfold vacC;split
  ·exact Nat.le_trans (zIE _ _) (h.rl key)
  ·exact h.rl key
 nc:=by show s.now<=s.c+1;have:=h.nc;omega
 ses:=fun j v hj=>by
  have hi:j<4:=by
   rcases Nat.lt_or_ge j 4 with h4|h4
   ·exact h4
   ·have:s.ses j=some v:=hj;rw[hs j h4] at this;cases this
  have hv:=h.ses j v hj;refine⟨hv.lo,fun key=>?_,hv.ov,hv.oq,hv.sem⟩;show bE (vacC s.R (cI s) key) v.n=_;have hj':s.ses j=some v:=hj;rw[vZ (by have:=yI hi hj';omega)];exact hv.say key }
theorem EOk.store (h:EOk s) {x:SSt} (hg:fA x) (hr:x.rows=s.x.rows):EOk { s with x:=x }:={ h with
 g:=hg
 say:=by show sayR s.R s.now (aS x.rows);rw[hr];exact h.say
 ses:=fun j v hj=>by
  have hv:=h.ses j v hj;exact⟨hv.lo,hv.say,hv.ov,hv.oq,fun key hk=>by show valR (aS x.rows) key=_;rw[hr];exact hv.sem key hk⟩ }
theorem EOk.chk (h:EOk s) (h0:(chkR s.x).1=0):EOk (chkE s):=by
 obtain⟨_,k2,k3⟩:=h.g.chk;rcases k3 with⟨_,k4,_⟩|⟨k4,_⟩
 ·exact h.store k4 k2
 ·rw[h0] at k4;cases k4
end
theorem EOk.new {d:DSt} {area first u:Nat} {rows:List Chg} (h:cQ d area first u rows):EOk (newE d area first u rows) where
 g:=h
 say:=zLo (oY h.fine.2)
 up:=zH2 _
 rd:=List.Pairwise.nil
 dn:=fun d hd=>absurd hd List.not_mem_nil
 dl:=Nat.zero_le _
 dk:=fun d hd=>absurd hd List.not_mem_nil
 kl:=⟨(aS rows).map (·.1),by
  have:=h.few;unfold aS;show _<=50+12*0;rw[List.length_map,List.length_map];omega,fun key hk=>zIy hk⟩
 rl:=fun key=>zI8 _ _
 nc:=Nat.le_refl _
 ses:=fun i v hv=>by cases hv
def S4 (s:ESt):Prop:=∀ i,4<=i->s.ses i=none
theorem S4.set {s:ESt} (h:S4 s) {i:Nat} (hi:i<4) (v:Option VwL):∀ j,4<=j->setS s.ses i v j=none:=fun j hj=>by
 rw[hU v (by omega)];exact h j hj
end
def dgt (n i:Nat):UInt8:=UInt8.ofNat (48+n / 10 ^ i % 10)
def six (n:Nat):List UInt8:=[dgt n 5,dgt n 4,dgt n 3,dgt n 2,dgt n 1,dgt n 0]
theorem iU (n i:Nat):(dgt n i).toNat=48+n / 10 ^ i % 10:=by
 have:n / 10 ^ i % 10<10:=Nat.mod_lt _ (by omega);simp[dgt];omega
theorem zMs (n i:Nat):eZ (dgt n i)=true:=by
 have:n / 10 ^ i % 10<10:=Nat.mod_lt _ (by omega);simp only[eZ,iU,Bool.and_eq_true,decide_eq_true_eq];omega
theorem zAT (n:Nat) (h:n<=999999):List.replicate (6-(Lib.decDigits n).length) 48++Lib.decDigits n=six n:=by
 have z:∀ i,n / 10 ^ i=0->dgt n i=48:=fun i hi=>by simp[dgt,hi]
 have e:=Lib.decDigits_eq n;have hd:∀ t,Lib.dg n t=dgt n t:=fun _=>rfl;by_cases h1:n<10
 ·have k:Lib.nDigits n=1:=by rw[Lib.nDigits,dif_pos h1]
  rw[e,k];simp[six,hd,List.range_succ,z 5 (by omega),z 4 (by omega),z 3 (by omega),z 2 (by omega),z 1 (by omega),List.replicate_succ]
 ·by_cases h2:n<100
  ·have k:Lib.nDigits n=2:=by rw[Lib.nDigits,dif_neg h1,Lib.nDigits,dif_pos (by omega)]
   rw[e,k];simp[six,hd,List.range_succ,z 5 (by omega),z 4 (by omega),z 3 (by omega),z 2 (by omega),List.replicate_succ]
  ·by_cases h3:n<1000
   ·have k:Lib.nDigits n=3:=by rw[Lib.nDigits,dif_neg h1,Lib.nDigits,dif_neg (by omega),Lib.nDigits,dif_pos (by omega)]
    rw[e,k];simp[six,hd,List.range_succ,z 5 (by omega),z 4 (by omega),z 3 (by omega),List.replicate_succ]
   ·by_cases h4:n<10000
    ·have k:Lib.nDigits n=4:=by rw[Lib.nDigits,dif_neg h1,Lib.nDigits,dif_neg (by omega),Lib.nDigits,dif_neg (by omega),Lib.nDigits,dif_pos (by omega)]
     rw[e,k];simp[six,hd,List.range_succ,z 5 (by omega),z 4 (by omega),List.replicate_succ]
    ·by_cases h5:n<100000
     ·have k:Lib.nDigits n=5:=by rw[Lib.nDigits,dif_neg h1,Lib.nDigits,dif_neg (by omega),Lib.nDigits,dif_neg (by omega),Lib.nDigits,dif_neg (by omega),Lib.nDigits,dif_pos (by omega)]
      rw[e,k];simp[six,hd,List.range_succ,z 5 (by omega)]
     ·have k:Lib.nDigits n=6:=by rw[Lib.nDigits,dif_neg h1,Lib.nDigits,dif_neg (by omega),Lib.nDigits,dif_neg (by omega),Lib.nDigits,dif_neg (by omega),Lib.nDigits,dif_neg (by omega),Lib.nDigits,dif_pos (by omega)]
      rw[e,k];simp[six,hd,List.range_succ]
theorem zL9 (n:Nat) (h:n<=999999):(Lib.decDigits n).length<=6:=by
 have:=congrArg List.length (zAT n h);rw[List.length_append,List.length_replicate] at this;have h6:(six n).length=6:=rfl;omega
theorem split6 (n:Nat) (h:n<=999999):n=100000*(n / 100000 % 10)+10000*(n / 10000 % 10)+1000*(n / 1000 % 10)+100*(n / 100 % 10)+10*(n / 10 % 10)+n % 10:=by omega
theorem zM6 (n m i:Nat):(dgt n i<dgt m i)↔n / 10 ^ i % 10<m / 10 ^ i % 10:=by
 rw[UInt8.lt_iff_toNat_lt,iU,iU];omega
theorem zM5 (n m i:Nat):(dgt n i=dgt m i)↔n / 10 ^ i % 10=m / 10 ^ i % 10:=by
 rw[<-UInt8.toNat_inj,iU,iU];omega
theorem zMS (n m:Nat) (hn:n<=999999) (hm:m<=999999):Op.bytesLess (six n) (six m)=decide (n<m):=by
 have en:=split6 n hn;have em:=split6 m hm;have b:=fun (x i:Nat)=>Nat.mod_lt (x / 10 ^ i) (show 10 > 0 by omega);have n0:=b n 0;have n1:=b n 1;have n2:=b n 2;have n3:=b n 3;have n4:=b n 4;have n5:=b n 5;have m0:=b m 0;have m1:=b m 1;have m2:=b m 2;have m3:=b m 3;have m4:=b m 4;have m5:=b m 5;rw[Bool.eq_iff_iff];simp only[six,Op.bytesLess,Bool.or_eq_true,Bool.and_eq_true,decide_eq_true_eq,beq_iff_eq,zM6,zM5];simp only[Nat.reducePow,Nat.div_one] at *;generalize n / 100000 % 10=a5 at *;generalize n / 10000 % 10=a4 at *;generalize n / 1000 % 10=a3 at *;generalize n / 100 % 10=a2 at *;generalize n / 10 % 10=a1 at *;generalize n % 10=a0 at *;generalize m / 100000 % 10=b5 at *;generalize m / 10000 % 10=b4 at *;generalize m / 1000 % 10=b3 at *;generalize m / 100 % 10=b2 at *;generalize m / 10 % 10=b1 at *;generalize m % 10=b0 at *;subst en em;simp only[Bool.false_eq_true,and_false,or_false];omega
theorem xC {l:List UInt8} (h:bK l=true):∀ c∈l,c≠47:=by
 intro c hc e;subst e;obtain⟨i,hi,hx⟩:=List.mem_iff_getElem.1 hc;simp only[bK,Bool.and_eq_true] at h;have h2:=h.2;rw[jJ,List.all_eq_true] at h2;have:=h2 i (List.mem_range.2 hi);rw[List.getD_eq_getElem?_getD,List.getElem?_eq_getElem hi,hx] at this;simp[gR,mL,eZ] at this
theorem sM {l:List UInt8} (h:∀ c∈l,c≠47) (r:List UInt8):Lib.indexByte (l++47::r) 47=l.length:=by
 induction l with
 | nil=>simp[Lib.indexByte]
 | cons c l ih=>
  have hc:(c==47)=false:=beq_eq_false_iff_ne.2 (h c (by simp));have i:=ih (fun x hx=>h x (by simp[hx]));simp only[List.cons_append,Lib.indexByte,hc,i];have:((l.length:Int) == -1)=false:=beq_eq_false_iff_ne.2 (by omega);simp[this]
theorem zEy (p k:List UInt8):((Op.bytesLess (p++[47]) k || (p++[47])==k)&&Op.bytesLess k (p++[48]))=(p++[47]).isPrefixOf k:=by
 induction p generalizing k with
 | nil=>
  cases k with
  | nil=>rfl
  | cons d r=>
   rw[Bool.eq_iff_iff];simp only[List.nil_append,Op.bytesLess,List.isPrefixOf,Bool.and_eq_true,Bool.or_eq_true,decide_eq_true_eq,beq_iff_eq,UInt8.lt_iff_toNat_lt];have n47:(47:UInt8).toNat=47:=rfl;have n48:(48:UInt8).toNat=48:=rfl;have hd:(47:UInt8)=d↔d.toNat=47:=⟨fun e=>by rw[<-e];rfl,fun e=>UInt8.toNat_inj.1 (by rw[e];rfl)⟩;rw[n47,n48,hd];simp only[Bool.false_eq_true,and_false,or_false,and_true];constructor
   ·rintro⟨h|h,h2⟩
    ·omega
    ·rw[<-List.cons.inj h |>.1] ; rfl
   ·intro e;refine⟨?_,by omega⟩;have e':=hd.2 e
    cases r with
    | nil=>right;rw[<-e']
    | cons x r=>left;right;exact⟨e,rfl⟩
 | cons c p ih=>
  cases k with
  | nil=>simp[Op.bytesLess]
  | cons d k=>
   have:=ih k;simp only[List.cons_append,Op.bytesLess,List.isPrefixOf,List.cons_beq_cons];by_cases e:c=d
   ·subst e;have n:¬c<c:=by simp
    simp only[n,decide_false,Bool.false_or,beq_self_eq_true,Bool.true_and];exact this
   ·have e1:(c==d)=false:=beq_eq_false_iff_ne.2 e;have e2:(d==c)=false:=beq_eq_false_iff_ne.2 (Ne.symm e);rw[e1,e2];by_cases l:c<d
    ·have n:¬d<c:=by rw[UInt8.lt_iff_toNat_lt] at *;omega
     simp[l,n]
    ·simp[l]
def queB (s:ByteArray):ByteArray:=⟨#[113,47]⟩++s
def aZ (q:ByteArray):ByteArray:=⟨#[109,47]⟩++q++⟨#[47]⟩
def toB (q:ByteArray):ByteArray:=⟨#[109,47]⟩++q++⟨#[48]⟩
def msgB (q:ByteArray) (n:Nat):ByteArray:=aZ q++⟨(six n).toArray⟩
theorem zMT (s:ByteArray):(queB s).data.toList=113::47::s.data.toList:=by simp[queB,ByteArray.data_append]
theorem rI (s:ByteArray):(aZ s).data.toList=109::47::(s.data.toList++[47]):=by simp[aZ,ByteArray.data_append]
theorem zNc (s:ByteArray):(toB s).data.toList=109::47::(s.data.toList++[48]):=by simp[toB,ByteArray.data_append]
theorem mN (s:ByteArray) (n:Nat):(msgB s n).data.toList=109::47::(s.data.toList++47::six n):=by
 simp[msgB,ByteArray.data_append,rI]
theorem kG {a b:ByteArray} (h:a.data.toList=b.data.toList):a=b:=gV (by rw[Lib.toList_data,Lib.toList_data,h])
theorem zGi {a b:List UInt8} (ha:∀ c∈a,c≠47) (hb:∀ c∈b,c≠47) {x y:List UInt8} (h:a++47::x=b++47::y):a=b/\x=y:=by
 have e1:=sM ha x;have e2:=sM hb y;rw[h,e2] at e1;have l:b.length=a.length:=by omega
 exact⟨(List.append_inj h l.symm).1,(List.cons.inj (List.append_inj h l.symm).2).2⟩
theorem zCP (q k:ByteArray):hasS (aZ q) (toB q) k=(aZ q).data.toList.isPrefixOf k.data.toList:=by
 have e:=zEy (109::47::q.data.toList) k.data.toList;unfold hasS leS ltS nilS;simp only[Lib.toList_data];rw[rI,zNc] at *;simp only[List.cons_append] at e;rw[<-e];simp
theorem zKW {a b:ByteArray} (ha:bK a.data.toList=true) (hb:bK b.data.toList=true) (m:Nat):hasS (aZ a) (toB a) (msgB b m)=eqS a b:=by
 rw[zCP,Bool.eq_iff_iff,List.isPrefixOf_iff_prefix,eV,rI,mN];constructor
 ·rintro⟨t,ht⟩;simp only[List.cons_append,List.append_assoc,List.cons.injEq,true_and,List.nil_append] at ht;exact kG (zGi (xC ha) (xC hb) ht).1
 ·rintro rfl;exact⟨six m,by simp⟩
theorem zKp (p x y:List UInt8):Op.bytesLess (p++x) (p++y)=Op.bytesLess x y:=by
 induction p with
 | nil=>rfl
 | cons c p ih=>simp[Op.bytesLess,ih]
theorem zM1 (a:ByteArray) {n m:Nat} (hn:n<=999999) (hm:m<=999999):ltS (msgB a n) (msgB a m)=decide (n<m):=by
 unfold ltS;rw[Lib.toList_data,Lib.toList_data,mN,mN];have:=zKp (109::47::(a.data.toList++[47])) (six n) (six m);simp only[List.cons_append,List.append_assoc,List.nil_append] at this;rw[this,zMS n m hn hm]
theorem zBk {s:ByteArray} (h:bK s.data.toList=true):s.size<=6:=by
 simp only[bK,Bool.and_eq_true,decide_eq_true_eq,fR] at h;omega
theorem pS (q:ByteArray) (n:Nat):(msgB q n).size=q.size+9:=by
 rw[Lib.size_eq,mN,Lib.size_eq];simp[six]
theorem zAv (l r:List UInt8) (acc:Nat):Lib.decFrom acc (l++r)=(Lib.decFrom acc l).bind fun m=>Lib.decFrom m r:=by
 induction l generalizing acc with
 | nil=>simp[Lib.decFrom]
 | cons b l ih=>
  simp only[List.cons_append,Lib.decFrom]
  cases Lib.digitVal b with
  | none=>rfl
  | some d=>exact ih _
theorem wG (d:Nat) (h:d<10):Lib.digitVal (UInt8.ofNat (48+d))=some d:=by
 have:(UInt8.ofNat (48+d)).toNat=48+d:=by simp;omega
 simp only[Lib.digitVal,this];rw[if_pos (by omega)];simp
theorem zDQ (n:Nat):Lib.decFrom 0 (Lib.decDigits n)=some n:=by
 induction n using Nat.strongRecOn with
 | _ n ih=>
  rw[Lib.decDigits];by_cases h:n<10
  ·rw[dif_pos h];simp only[Lib.decFrom,wG n h];simp
  ·rw[dif_neg h,zAv,ih (n / 10) (by omega)];simp only[Option.bind_some,Lib.decFrom,wG (n % 10) (Nat.mod_lt _ (by omega))];congr 1;omega
theorem zAu (n:Nat):∀ c∈Lib.decDigits n,eZ c=true:=by
 have one:∀ d,d<10->eZ (UInt8.ofNat (48+d))=true:=fun d hd=>by
  have:(UInt8.ofNat (48+d)).toNat=48+d:=by simp;omega
  simp only[eZ,this,Bool.and_eq_true,decide_eq_true_eq];omega
 induction n using Nat.strongRecOn with
 | _ n ih=>
  intro c hc;rw[Lib.decDigits] at hc;by_cases h:n<10
  ·rw[dif_pos h] at hc;simp at hc;rw[hc];simpa using one n h
  ·rw[dif_neg h,List.mem_append] at hc;rcases hc with hc|hc
   ·exact ih (n / 10) (by omega) c hc
   ·simp at hc;rw[hc];simpa using one (n % 10) (by omega)
theorem rM {c:UInt8} (h:eZ c=true) (x:UInt8) (hx:eZ x=false):c≠x:=by
 rintro rfl;rw[h] at hx;cases hx
theorem zMO (n:Nat):Lib.decDigits n≠[]:=by
 rw[Lib.decDigits];split<;>simp
theorem zJY (n:Nat):Lib.atoi (Lib.decDigits n)=some (n:Int):=by
 have h:=zDQ n;have hd:=zAu n
 cases e:Lib.decDigits n with
 | nil=>exact absurd e (zMO n)
 | cons b r=>
  rw[e] at h hd;have hb:=hd b (by simp);have n1:(b==45)=false:=beq_eq_false_iff_ne.2 (rM hb 45 (by decide));have n2:(b==43)=false:=beq_eq_false_iff_ne.2 (rM hb 43 (by decide));simp[Lib.atoi,n1,n2,Lib.decNat,h]
theorem eQ (n:Nat) (h:n<=9999999):(Lib.decDigits n).length<=7:=by
 rw[Lib.decDigits_length];have s:∀ m k,m<10 ^ (k+1)->Lib.nDigits m<=k+1:=by
  intro m k
  induction k generalizing m with
  | zero=>intro hm;rw[Lib.nDigits,dif_pos (by simpa using hm)];omega
  | succ k ih=>
   intro hm;rw[Lib.nDigits];split
   ·omega
   ·have:=ih (m / 10) (by rw[Nat.pow_succ] at hm;omega);omega
 exact s n 6 (by omega)
theorem zDE {l:List UInt8} {x:UInt8} (h:∀ c∈l,c≠x) (r:List UInt8):Lib.indexByte (l++x::r) x=l.length:=by
 induction l with
 | nil=>simp[Lib.indexByte]
 | cons c l ih=>
  have hc:(c==x)=false:=beq_eq_false_iff_ne.2 (h c (by simp));have i:=ih (fun y hy=>h y (by simp[hy]));simp only[List.cons_append,Lib.indexByte,hc,i];have:((l.length:Int) == -1)=false:=beq_eq_false_iff_ne.2 (by omega);simp[this]
def decB (n:Nat):ByteArray:=⟨(Lib.decDigits n).toArray⟩
theorem eM (n:Nat):(decB n).data.toList=Lib.decDigits n:=by simp[decB]
def dA (a b:Nat) (r:ByteArray):ByteArray:=decB a++⟨#[32]⟩++decB b++⟨#[32]⟩++r
theorem vQ (a b:Nat) (r:ByteArray):(dA a b r).data.toList=Lib.decDigits a++32::(Lib.decDigits b++32::r.data.toList):=by
 simp[dA,ByteArray.data_append,eM]
theorem zEr (a b:Nat) (r:ByteArray):Lib.indexByte (dA a b r).data.toList 32=(decB a).size:=by
 rw[vQ,zDE (fun c hc=>rM (zAu a c hc) 32 (by decide)),Lib.size_eq,eM]
end Go.Proofs.YtnboipekkahmnaaGreatDoor
namespace Go.Proofs
section
open Go.Shelf
def Tryz.laysM171_ren:Go.Shelf.Ren:=⟨fun|171=>178|243=>234|246=>272|283=>310|284=>311|285=>312|286=>313|129=>306|317=>332|318=>333|319=>334|320=>335|337=>342|338=>343|n=>n,fun|3=>3|9=>9|2=>2|4=>4|171=>383|0=>0|53=>35|37=>247|5=>5|173=>385|212=>405|51=>350|20=>20|213=>406|46=>311|232=>415|233=>416|n=>n,fun|17=>3|18=>4|19=>5|n=>n⟩
theorem Tryz.laysM171:Go.Proofs.LaysM.n171 Tryz.prog Tryz.laysM171_ren:={
 mixed:=by kernel_rfl
 f129:=Tryz.func306.trans (congrArg some (by kernel_rfl))
 f171:=Tryz.func178.trans (congrArg some (by kernel_rfl))
 f243:=Tryz.func234.trans (congrArg some (by kernel_rfl))
 f246:=Tryz.func272.trans (congrArg some (by kernel_rfl))
 f283:=Tryz.func310.trans (congrArg some (by kernel_rfl))
 f284:=Tryz.func311.trans (congrArg some (by kernel_rfl))
 f285:=Tryz.func312.trans (congrArg some (by kernel_rfl))
 f286:=Tryz.func313.trans (congrArg some (by kernel_rfl))
 f317:=Tryz.func332.trans (congrArg some (by kernel_rfl))
 f318:=Tryz.func333.trans (congrArg some (by kernel_rfl))
 f319:=Tryz.func334.trans (congrArg some (by kernel_rfl))
 f320:=Tryz.func335.trans (congrArg some (by kernel_rfl))
 f337:=Tryz.func342.trans (congrArg some (by kernel_rfl))
 f338:=Tryz.func343.trans (congrArg some (by kernel_rfl))
 t0:=Tryz.underlying0
 a0:=Tryz.isAgg0
 z0:=Tryz.sizeOf0
 v0:=Tryz.zeroValue0
 t2:=Tryz.underlying2
 a2:=Tryz.isAgg2
 z2:=Tryz.sizeOf2
 v2:=Tryz.zeroValue2
 t3:=Tryz.underlying3
 a3:=Tryz.isAgg3
 z3:=Tryz.sizeOf3
 v3:=Tryz.zeroValue3
 t4:=Tryz.underlying4
 a4:=Tryz.isAgg4
 z4:=Tryz.sizeOf4
 v4:=Tryz.zeroValue4
 t5:=Tryz.underlying5
 a5:=Tryz.isAgg5
 z5:=Tryz.sizeOf5
 v5:=Tryz.zeroValue5
 t9:=Tryz.underlying9
 a9:=Tryz.isAgg9
 z9:=Tryz.sizeOf9
 v9:=Tryz.zeroValue9
 t20:=Tryz.underlying20
 a20:=Tryz.isAgg20
 z20:=Tryz.sizeOf20
 v20:=Tryz.zeroValue20
 t37:=Tryz.underlying247
 a37:=Tryz.isAgg247
 z37:=Tryz.sizeOf247
 v37:=Tryz.zeroValue247
 t46:=Tryz.underlying311
 a46:=Tryz.isAgg311
 z46:=Tryz.sizeOf311
 v46:=Tryz.zeroValue311
 t51:=Tryz.underlying350
 a51:=Tryz.isAgg350
 z51:=Tryz.sizeOf350
 v51:=Tryz.zeroValue350
 t53:=Tryz.underlying35
 a53:=Tryz.isAgg35
 z53:=Tryz.sizeOf35
 v53:=Tryz.zeroValue35
 t171:=Tryz.underlying383
 a171:=Tryz.isAgg383
 z171:=Tryz.sizeOf383
 v171:=Tryz.zeroValue383
 t173:=Tryz.underlying385
 a173:=Tryz.isAgg385
 z173:=Tryz.sizeOf385
 v173:=Tryz.zeroValue385
 t212:=Tryz.underlying405
 a212:=Tryz.isAgg405
 z212:=Tryz.sizeOf405
 v212:=Tryz.zeroValue405
 t213:=Tryz.underlying406
 a213:=Tryz.isAgg406
 z213:=Tryz.sizeOf406
 t232:=Tryz.underlying415
 a232:=Tryz.isAgg415
 z232:=Tryz.sizeOf415
 v232:=Tryz.zeroValue415
 t233:=Tryz.underlying416
 a233:=Tryz.isAgg416
 z233:=Tryz.sizeOf416
 v233:=Tryz.zeroValue416
 g17:=by kernel_rfl
 g18:=by kernel_rfl
 g19:=by kernel_rfl
 i0:=by kernel_rfl
 i2:=by kernel_rfl
 i3:=by kernel_rfl
 i4:=by kernel_rfl
 i5:=by kernel_rfl
 i9:=by kernel_rfl
 i20:=by kernel_rfl
 i37:=by kernel_rfl
 i46:=by kernel_rfl
 i51:=by kernel_rfl
 i53:=by kernel_rfl
 i171:=by kernel_rfl
 i173:=by kernel_rfl
 i212:=by kernel_rfl
 i232:=by kernel_rfl
 i233:=by kernel_rfl
 m17:=by kernel_rfl
 m18:=by kernel_rfl
 m19:=by kernel_rfl }
open Go.RowKit Go.Sort Go.Lib in
theorem Tryz.strconv_Itoa (n:Int) (h0:-9223372036854775808<=n) (h1:n<=9223372036854775807) (w:World) (htab:Lib.TabIs Tryz.prog w "internal/strconv.uint64pow10" .u64 Lib.pow10Tab):
  Calls Tryz.prog 178 #[.int .i64 n] w fun e w'=>e=.returned (.string ⟨(Lib.itoa n).toArray⟩)/\∃ k os,w'=grow (w.drewN k) os:=Any.strconv_Itoa Tryz.laysM171 n h0 h1 w htab
def Tryz.lays105_ren:Go.Shelf.Ren:=⟨fun|105=>179|212=>235|99=>236|165=>237|166=>206|170=>205|169=>208|263=>273|264=>274|206=>275|240=>254|241=>276|276=>291|277=>314|n=>n,fun|9=>9|3=>3|4=>4|20=>20|0=>0|46=>311|109=>312|5=>5|72=>284|76=>45|51=>350|146=>351|53=>35|148=>353|70=>282|37=>247|75=>42|127=>339|164=>365|80=>267|n=>n,fun|n=>n⟩
theorem Tryz.lays105:Go.Proofs.Lays.n105 Tryz.prog Tryz.lays105_ren:={
 mixed:=by kernel_rfl
 f99:=Tryz.func236.trans (congrArg some (by kernel_rfl))
 f105:=Tryz.func179.trans (congrArg some (by kernel_rfl))
 f165:=Tryz.func237.trans (congrArg some (by kernel_rfl))
 f166:=Tryz.func206.trans (congrArg some (by kernel_rfl))
 f169:=Tryz.func208.trans (congrArg some (by kernel_rfl))
 f170:=Tryz.func205.trans (congrArg some (by kernel_rfl))
 f206:=Tryz.func275.trans (congrArg some (by kernel_rfl))
 f212:=Tryz.func235.trans (congrArg some (by kernel_rfl))
 f240:=Tryz.func254.trans (congrArg some (by kernel_rfl))
 f241:=Tryz.func276.trans (congrArg some (by kernel_rfl))
 f263:=Tryz.func273.trans (congrArg some (by kernel_rfl))
 f264:=Tryz.func274.trans (congrArg some (by kernel_rfl))
 f276:=Tryz.func291.trans (congrArg some (by kernel_rfl))
 f277:=Tryz.func314.trans (congrArg some (by kernel_rfl))
 t0:=Tryz.underlying0
 a0:=Tryz.isAgg0
 z0:=Tryz.sizeOf0
 v0:=Tryz.zeroValue0
 t3:=Tryz.underlying3
 a3:=Tryz.isAgg3
 z3:=Tryz.sizeOf3
 v3:=Tryz.zeroValue3
 t4:=Tryz.underlying4
 a4:=Tryz.isAgg4
 z4:=Tryz.sizeOf4
 v4:=Tryz.zeroValue4
 t5:=Tryz.underlying5
 a5:=Tryz.isAgg5
 z5:=Tryz.sizeOf5
 v5:=Tryz.zeroValue5
 t9:=Tryz.underlying9
 a9:=Tryz.isAgg9
 z9:=Tryz.sizeOf9
 v9:=Tryz.zeroValue9
 t20:=Tryz.underlying20
 a20:=Tryz.isAgg20
 z20:=Tryz.sizeOf20
 v20:=Tryz.zeroValue20
 t37:=Tryz.underlying247
 a37:=Tryz.isAgg247
 z37:=Tryz.sizeOf247
 v37:=Tryz.zeroValue247
 t46:=Tryz.underlying311
 a46:=Tryz.isAgg311
 z46:=Tryz.sizeOf311
 v46:=Tryz.zeroValue311
 t51:=Tryz.underlying350
 a51:=Tryz.isAgg350
 z51:=Tryz.sizeOf350
 v51:=Tryz.zeroValue350
 t53:=Tryz.underlying35
 a53:=Tryz.isAgg35
 z53:=Tryz.sizeOf35
 v53:=Tryz.zeroValue35
 t70:=Tryz.underlying282
 a70:=Tryz.isAgg282
 z70:=Tryz.sizeOf282
 v70:=Tryz.zeroValue282
 t72:=Tryz.underlying284
 a72:=Tryz.isAgg284
 z72:=Tryz.sizeOf284
 v72:=Tryz.zeroValue284
 t75:=Tryz.underlying42
 a75:=Tryz.isAgg42
 z75:=Tryz.sizeOf42
 v75:=Tryz.zeroValue42
 t76:=Tryz.underlying45
 a76:=Tryz.isAgg45
 z76:=Tryz.sizeOf45
 v76:=Tryz.zeroValue45
 t109:=Tryz.underlying312
 a109:=Tryz.isAgg312
 z109:=Tryz.sizeOf312
 v109:=Tryz.zeroValue312
 t127:=Tryz.underlying339
 a127:=Tryz.isAgg339
 z127:=Tryz.sizeOf339
 v127:=Tryz.zeroValue339
 t146:=Tryz.underlying351
 a146:=Tryz.isAgg351
 z146:=Tryz.sizeOf351
 v146:=Tryz.zeroValue351
 t148:=Tryz.underlying353
 a148:=Tryz.isAgg353
 z148:=Tryz.sizeOf353
 v148:=Tryz.zeroValue353
 t164:=Tryz.underlying365
 a164:=Tryz.isAgg365
 z164:=Tryz.sizeOf365
 v164:=Tryz.zeroValue365 }
theorem Tryz.Builder_Extra_105:Builder.Extra Tryz.prog Tryz.lays105_ren:={
 sizeBuilder:=by kernel_rfl
 liesBuilder:=by kernel_rfl
 t5:=Tryz.underlying5
 a5:=Tryz.isAgg5
 z5:=Tryz.sizeOf5
 v5:=Tryz.zeroValue5
 infoByte:=by kernel_rfl
 cellsByte:=by kernel_rfl
 sizeByte:=by kernel_rfl
 neB5:=by decide }
open Go.RowKit Go.Lib in
theorem Tryz.strings_Repeat (s:ByteArray) (c:Nat) (w:World) (hc:c<=9223372036854775807) (hlen:s.size*c<=140737488355328):
  Calls Tryz.prog 179 #[.string s,.int .i64 c] w fun e w'=>e=.returned (.string ⟨(Lib.repeatL s.data.toList c).toArray⟩)/\Below w.heap.size w w':=Any.strings_Repeat Tryz.lays105 Tryz.Builder_Extra_105 s c w hc hlen
end
end Go.Proofs
namespace Go.Proofs.YtnboipekkahmnaaGreatDoor
section
open Go.RowKit Go.Joins
theorem qZ (s:ByteArray) (w:World) (hs:s.size<=1000):
  Calls Tryz.prog 151 #[.string s] w fun e w'=>e=.returned (.string (queB s))/\w'=w:=by
 go_enter Tryz.func151,Tryz.ntmps151;go_wp2;go_ret;exact⟨rfl,rfl⟩
theorem pM (s:ByteArray) (w:World) (hs:s.size<=1000):
  Calls Tryz.prog 157 #[.string s] w fun e w'=>e=.returned (.agg #[.string (aZ s),.string (toB s)])/\Below w.heap.size w w':=by
 go_enter Tryz.func157,Tryz.ntmps157;go_wp2;exact bodyPost_ret (v:=.agg #[.string (⟨#[109,47]⟩++s++⟨#[47]⟩),.string (⟨#[109,47]⟩++s++⟨#[48]⟩)]) (by simp[results,Tryz.results157,go_sem]) rfl ⟨rfl,below_alloc1 _ _⟩
def cP (n:Int):Nat:=(max n 0).toNat % 1000000
theorem zD9 (w:World) (k:Nat) (os:Array Obj):Below w.heap.size w (Go.Sort.grow (w.drewN k) os):=by
 refine⟨rfl,rfl,rfl,?_,fun i hi=>?_⟩
 ·show w.heap.size<=(w.heap++os).size;simp
 ·show(w.heap++os)[i]?=w.heap[i]?;rw[Array.getElem?_append_left hi]
theorem xU (n:Nat) (w:World) (hn:n<=999999999) (htab:Lib.TabIs Tryz.prog w "internal/strconv.uint64pow10" .u64 Lib.pow10Tab):
  Calls Tryz.prog 178 #[.int .i64 n] w fun e w'=>e=.returned (.string (decB n))/\Below w.heap.size w w':=
 (Tryz.strconv_Itoa n (by omega) (by omega) w htab).mono fun e w' ⟨he,k,os,hw⟩=>⟨by rw[he,Lib.itoa_nonneg];rfl,by rw[hw];exact zD9 w k os⟩
theorem zGb (c:Nat):Lib.repeatL [48] c=List.replicate c 48:=by
 induction c with
 | zero=>rfl
 | succ c ih=>simp[Lib.repeatL,ih,List.replicate_succ]
theorem zGq (c:Nat) (w:World) (hc:c<=1000):
  Calls Tryz.prog 179 #[.string ⟨#[48]⟩,.int .i64 c] w fun e w'=>e=.returned (.string ⟨(List.replicate c (48:UInt8)).toArray⟩)/\Below w.heap.size w w':=
 (Tryz.strings_Repeat ⟨#[48]⟩ c w (by omega) (by have:(⟨#[48]⟩:ByteArray).size=1:=rfl;rw[this];omega)).mono fun e w' ⟨he,hb⟩=>⟨by
  rw[he];exact congrArg (fun l:List UInt8=>Ending.returned (.string ⟨l.toArray⟩)) (zGb c),hb⟩
theorem iE (q:ByteArray) (n:Int) (w:World) (hq:q.size<=1000) (h0:-9223372036854775808<=n) (h1:n<=9223372036854775807)
  (htab:Lib.TabIs Tryz.prog w "internal/strconv.uint64pow10" .u64 Lib.pow10Tab):
  Calls Tryz.prog 120 #[.string q,.int .i64 n] w fun e w'=>e=.returned (.string (msgB q (cP n)))/\Below w.heap.size w w':=by
 have hnum:cP n<=999999:=by unfold cP;omega
 have hlen:=zL9 (cP n) hnum;have hsz:(decB (cP n)).size=(Lib.decDigits (cP n)).length:=by rw[Lib.size_eq,eM]
 have hpad:=zAT (cP n) hnum;have hle:(decB (cP n)).size<=6:=by omega
 have HE:=hide (show max n 0 % 1000000=((cP n:Nat):Int) by unfold cP;omega);have HF:=hide (show(6:Int)-((decB (cP n)).size:Int)=((6-(decB (cP n)).size:Nat):Int) by omega);have HV:=hide (show aZ q++⟨(List.replicate (6-(decB (cP n)).size) (48:UInt8)).toArray⟩++decB (cP n)=msgB q (cP n) by
  refine kG ?_;rw[mN,<-hpad,hsz];simp[ByteArray.data_append,rI,eM])
 have HT:=hide htab;clear htab hsz hpad hlen;have hrep:(⟨(List.replicate (6-(decB (cP n)).size) (48:UInt8)).toArray⟩:ByteArray).size<=6:=by rw[Lib.size_eq];simp
 have HR:=fun w=>hide (zGq (6-(decB (cP n)).size) w (by omega));generalize hz:(⟨(List.replicate (6-(decB (cP n)).size) (48:UInt8)).toArray⟩:ByteArray)=z at *;clear hz;go_enter Tryz.func120,Tryz.ntmps120;go_wp2_with fail;rw[HE.out];refine(xU _ _ (by omega) HT.out).mono ?_;rintro e w1 ⟨rfl,hb1⟩;go_wp2_with fail;rw[HF.out];refine((HR _).out).mono ?_;rintro e w2 ⟨rfl,hb2⟩;go_wp2;go_ret;exact⟨zFN HV.out,aB hb1 (Nat.le_refl _) hb2⟩
theorem zBT:Tryz.prog.globalNamed "internal/strconv.uint64pow10" = some 3:=by kernel_rfl
theorem rQ {w w':World} (h:Lib.TabIs Tryz.prog w "internal/strconv.uint64pow10" .u64 Lib.pow10Tab) (hb:Below w.heap.size w w'):Lib.TabIs Tryz.prog w' "internal/strconv.uint64pow10" .u64 Lib.pow10Tab:=
 tab_stays zBT h hb (Nat.le_refl _)
theorem mM (n lo hi:Int) (w:World) (h1:lo<=n) (h2:n<=hi):
  Calls Tryz.prog 232 #[.int .i64 n,.int .i64 lo,.int .i64 hi] w fun e w'=>e=.returned (.bool true)/\w'=w:=by
 go_enter Tryz.func232,Tryz.ntmps232;go_wp2;go_ret;exact⟨rfl,rfl⟩
theorem zBf (n lo hi:Int) (w:World) (h:n<lo∨hi<n):
  Calls Tryz.prog 232 #[.int .i64 n,.int .i64 lo,.int .i64 hi] w fun e w'=>e=.returned (.bool false)/\w'=w:=by
 by_cases h1:n<lo
 ·go_enter Tryz.func232,Tryz.ntmps232;go_wp2;go_ret;exact⟨rfl,rfl⟩
 ·have h2:hi<n:=by omega
  have h3:lo<=n:=by omega
  go_enter Tryz.func232,Tryz.ntmps232;go_wp2;go_ret;exact⟨bB (by simp[h2]),rfl⟩
theorem zDG (a b:Nat) (r:ByteArray) (w:World) (ha:a<=9999999) (hb:b<=9999999) (hr:r.size<=1000) (htab:Lib.TabIs Tryz.prog w "internal/strconv.uint64pow10" .u64 Lib.pow10Tab):
  Calls Tryz.prog 233 #[.int .i64 a,.int .i64 b,.string r] w fun e w'=>e=.returned (.string (dA a b r))/\Below w.heap.size w w':=by
 have ea:(decB a).size<=7:=by rw[Lib.size_eq,eM];exact eQ a ha
 have eb:(decB b).size<=7:=by rw[Lib.size_eq,eM];exact eQ b hb
 have HT:=hide htab;clear htab;go_enter Tryz.func233,Tryz.ntmps233;go_wp2_with fail;refine(xU a _ (by omega) HT.out).mono ?_;rintro e w1 ⟨rfl,hb1⟩;go_wp2_with fail;refine(xU b _ (by omega) (rQ HT.out hb1)).mono ?_;rintro e w2 ⟨rfl,hb2⟩;go_wp2;go_ret;exact⟨rfl,aB hb1 (Nat.le_refl _) hb2⟩
theorem kH (n t:Nat) (d:ByteArray) (w:World) (hn:n<=999999) (ht:1<=t) (ht':t<=9) (hd:d.toList.isEmpty=true∨(d.toList.isEmpty=false/\bK d.data.toList=true)) (hs:d.size<=1000) (htab:Lib.TabIs Tryz.prog w "internal/strconv.uint64pow10" .u64 Lib.pow10Tab):
  Calls Tryz.prog 172 #[.agg #[.int .i64 n,.int .i64 t,.string d]] w fun e w'=>e=.returned (.tuple #[.string (dA n t d),.nilIface])/\Below w.heap.size w w':=by
 have hB:=below_alloc1 w (Obj.cells #[.int .i64 n,.int .i64 t,.string d] 145);have HT:=hide (rQ htab hB);clear htab;rcases hd with hd|⟨hd,hd'⟩
 all_goals
  go_enter Tryz.func172,Tryz.ntmps172;go_wp2_with (first
   | (go_at_call 232;refine(mM _ _ _ _ ?_ ?_).mono ?_;omega;omega;rintro e w1 ⟨rfl,rfl⟩)
   | (go_at_call 150;refine(kM _ _).mono ?_;rintro e w1 ⟨rfl,rfl⟩)
   | (go_at_call 233;refine(zDG _ _ _ _ (by omega) (by omega) (by omega) HT.out).mono ?_;rintro e w1 ⟨rfl,hb⟩;replace hB:=aB hB (Nat.le_refl _) hb;clear hb))
  go_ret2;exact⟨rfl,hB⟩
theorem qA (n t:Int) (d:ByteArray) (w:World) (h:(n<0∨999999<n)∨(0<=n/\n<=999999/\(t<1∨9<t))):
  Calls Tryz.prog 172 #[.agg #[.int .i64 n,.int .i64 t,.string d]] w fun e w'=>e=.returned (.tuple #[.string ⟨#[]⟩,.iface 114 (.int .i64 1)])/\Below w.heap.size w w':=by
 have hB:=below_alloc1 w (Obj.cells #[.int .i64 n,.int .i64 t,.string d] 145);rcases h with h|⟨h,h',h''⟩
 all_goals
  go_enter Tryz.func172,Tryz.ntmps172;go_wp2_with (first
   | (go_at_call 232;refine(mM _ _ _ _ ?_ ?_).mono ?_;omega;omega;rintro e w1 ⟨rfl,rfl⟩)
   | (go_at_call 232;refine(zBf _ _ _ _ ?_).mono ?_;omega;rintro e w1 ⟨rfl,rfl⟩))
  go_ret2;exact⟨rfl,hB⟩
theorem qO (n t:Int) (d:ByteArray) (w:World) (hn:0<=n) (hn':n<=999999) (ht:1<=t) (ht':t<=9) (hd:d.toList.isEmpty=false) (hd':bK d.data.toList=false):
  Calls Tryz.prog 172 #[.agg #[.int .i64 n,.int .i64 t,.string d]] w fun e w'=>e=.returned (.tuple #[.string ⟨#[]⟩,.iface 114 (.int .i64 3)])/\Below w.heap.size w w':=by
 have hB:=below_alloc1 w (Obj.cells #[.int .i64 n,.int .i64 t,.string d] 145)
 all_goals
  go_enter Tryz.func172,Tryz.ntmps172;go_wp2_with (first
   | (go_at_call 232;refine(mM _ _ _ _ ?_ ?_).mono ?_;omega;omega;rintro e w1 ⟨rfl,rfl⟩)
   | (go_at_call 150;refine(kM _ _).mono ?_;rintro e w1 ⟨rfl,rfl⟩))
  go_ret2;exact⟨rfl,hB⟩
theorem nE (k:Int) (t u:Nat) (d:ByteArray) (w:World) (ht:t<=9) (hu:u<=2000000) (hs:d.size<=28) (htab:Lib.TabIs Tryz.prog w "internal/strconv.uint64pow10" .u64 Lib.pow10Tab):
  Calls Tryz.prog 213 #[.agg #[.int .i64 k,.int .i64 t,.int .i64 u,.string d]] w fun e w'=>e=.returned (.tuple #[.string (dA t u d),.nilIface])/\Below w.heap.size w w':=by
 have hB:=below_alloc1 w (Obj.cells #[.int .i64 k,.int .i64 t,.int .i64 u,.string d] 99);have HT:=hide (rQ htab hB);clear htab
 all_goals
  go_enter Tryz.func213,Tryz.ntmps213;go_wp2_with (first
   | (go_at_call 232;refine(mM _ _ _ _ ?_ ?_).mono ?_;omega;omega;rintro e w1 ⟨rfl,rfl⟩)
   | (go_at_call 233;refine(zDG _ _ _ _ (by omega) (by omega) (by omega) HT.out).mono ?_;rintro e w1 ⟨rfl,hb⟩;replace hB:=aB hB (Nat.le_refl _) hb;clear hb))
  go_ret2;exact⟨rfl,hB⟩
theorem oL (k t u:Int) (d:ByteArray) (w:World) (h:(t<0∨9<t)∨(0<=t/\t<=9/\((u<0∨2000000<u)∨(0<=u/\u<=2000000/\28<d.size)))):
  Calls Tryz.prog 213 #[.agg #[.int .i64 k,.int .i64 t,.int .i64 u,.string d]] w fun e w'=>e=.returned (.tuple #[.string ⟨#[]⟩,.iface 114 (.int .i64 1)])/\Below w.heap.size w w':=by
 have hB:=below_alloc1 w (Obj.cells #[.int .i64 k,.int .i64 t,.int .i64 u,.string d] 99);rcases h with h|⟨h,h',h''|⟨h2,h3,h4⟩⟩
 all_goals
  go_enter Tryz.func213,Tryz.ntmps213;go_wp2_with (first
   | (go_at_call 232;refine(mM _ _ _ _ ?_ ?_).mono ?_;omega;omega;rintro e w1 ⟨rfl,rfl⟩)
   | (go_at_call 232;refine(zBf _ _ _ _ ?_).mono ?_;omega;rintro e w1 ⟨rfl,rfl⟩))
  go_ret2;exact⟨rfl,hB⟩
theorem zDs (s f b g r:ByteArray) (c1 c2:Bool) (x y:Int) (w:World) (hs:s.size<=maxLen) (hb:b.size<=maxLen)
  (h1:cutV s (Lib.indexByte s.data.toList 32)=.tuple #[.string f,.string b,.bool c1]) (h2:cutV b (Lib.indexByte b.data.toList 32)=.tuple #[.string g,.string r,.bool c2])
  (hx:∀ w',Below w.heap.size w w'->Calls Tryz.prog 220 #[.string f] w' fun e w''=>(∃ ev,e=.returned (.tuple #[.int .i64 x,ev]))/\Below w'.heap.size w' w'')
  (hy:∀ w',Below w.heap.size w w'->Calls Tryz.prog 220 #[.string g] w' fun e w''=>(∃ ev,e=.returned (.tuple #[.int .i64 y,ev]))/\Below w'.heap.size w' w''):
  Calls Tryz.prog 216 #[.string s] w fun e w'=>e=.returned (.tuple #[.int .i64 x,.int .i64 y,.string r])/\Below w.heap.size w w':=by
 have k1:=fun w=>zAk s 32 w hs;have k2:=fun w=>zAk b 32 w hb;rw[h1] at k1;rw[h2] at k2;have K1:=hide k1;have K2:=hide k2;have HX:=hide hx;have HY:=hide hy;have hB:=Below.refl w.heap.size w;clear k1 k2 hx hy h1 h2;go_enter Tryz.func216,Tryz.ntmps216;go_wp2_with fail;refine(K1.out _).mono ?_;rintro e w1 ⟨rfl,hb1⟩;replace hB:=aB hB (Nat.le_refl _) hb1;go_wp2_with fail;refine(K2.out _).mono ?_;rintro e w2 ⟨rfl,hb2⟩;replace hB:=aB hB (Nat.le_refl _) hb2;go_wp2_with fail;refine(HX.out _ hB).mono ?_;rintro e w3 ⟨⟨ev,rfl⟩,hb3⟩;replace hB:=aB hB (Nat.le_refl _) hb3;go_wp2_with fail;refine(HY.out _ hB).mono ?_;rintro e w4 ⟨⟨ev',rfl⟩,hb4⟩;replace hB:=aB hB (Nat.le_refl _) hb4;go_wp2;go_ret3;exact⟨rfl,hB⟩
def mP (b:Nat) (r:ByteArray):ByteArray:=decB b++⟨#[32]⟩++r
theorem rJ (b:Nat) (r:ByteArray):(mP b r).data.toList=Lib.decDigits b++32::r.data.toList:=by simp[mP,ByteArray.data_append,eM]
theorem zKT (a b:Nat) (r:ByteArray):cutV (dA a b r) (Lib.indexByte (dA a b r).data.toList 32)=.tuple #[.string (decB a),.string (mP b r),.bool true]:=by
 rw[zEr,cutV,if_pos (by omega),Int.toNat_natCast];have e1:qE (dA a b r) (decB a).size=decB a:=kG (by rw[oT,vQ,Lib.size_eq,eM];simp);have e2:qD (dA a b r) ((decB a).size+1)=mP b r:=kG (by rw[oM,vQ,rJ,Lib.size_eq,eM,List.drop_append];simp);rw[e1,e2]
theorem zJH (b:Nat) (r:ByteArray):cutV (mP b r) (Lib.indexByte (mP b r).data.toList 32)=.tuple #[.string (decB b),.string r,.bool true]:=by
 have i:Lib.indexByte (mP b r).data.toList 32=(decB b).size:=by
  rw[rJ,zDE (fun c hc=>rM (zAu b c hc) 32 (by decide)),Lib.size_eq,eM]
 rw[i,cutV,if_pos (by omega),Int.toNat_natCast];have e1:qE (mP b r) (decB b).size=decB b:=kG (by rw[oT,rJ,Lib.size_eq,eM];simp);have e2:qD (mP b r) ((decB b).size+1)=r:=kG (by rw[oM,rJ,Lib.size_eq,eM,List.drop_append];simp);rw[e1,e2]
theorem zIl (a b:Nat) (r:ByteArray) (ha:a<=9999999) (hb:b<=9999999):(dA a b r).size<=r.size+16/\(mP b r).size<=r.size+8:=by
 have ea:=eQ a ha;have eb:=eQ b hb;rw[Lib.size_eq,Lib.size_eq,Lib.size_eq,vQ,rJ];simp only[List.length_append,List.length_cons];omega
end
end Go.Proofs.YtnboipekkahmnaaGreatDoor
namespace Go.Proofs
section
open Go.Shelf
def Tryz.laysC172_ren:Go.Shelf.Ren:=⟨fun|172=>220|244=>258|245=>259|247=>292|279=>293|280=>294|281=>295|282=>296|287=>319|316=>320|171=>178|205=>321|321=>337|322=>338|243=>234|246=>272|283=>310|284=>311|285=>312|286=>313|129=>306|317=>332|318=>333|319=>334|320=>335|337=>342|338=>343|n=>n,fun|9=>9|3=>3|75=>42|76=>45|4=>4|5=>5|167=>367|37=>247|0=>0|85=>368|2=>2|168=>370|53=>35|175=>393|46=>311|210=>396|127=>339|145=>411|143=>409|21=>21|171=>383|173=>385|212=>405|51=>350|20=>20|213=>406|232=>415|233=>416|80=>267|n=>n,fun|15=>1|16=>2|17=>3|18=>4|19=>5|n=>n⟩
theorem Tryz.laysC172:Go.Proofs.LaysC.n172 Tryz.prog Tryz.laysC172_ren:={
 mixed:=by kernel_rfl
 f129:=Tryz.func306.trans (congrArg some (by kernel_rfl))
 f171:=Tryz.func178.trans (congrArg some (by kernel_rfl))
 f172:=Tryz.func220.trans (congrArg some (by kernel_rfl))
 f205:=Tryz.func321.trans (congrArg some (by kernel_rfl))
 f243:=Tryz.func234.trans (congrArg some (by kernel_rfl))
 f244:=Tryz.func258.trans (congrArg some (by kernel_rfl))
 f245:=Tryz.func259.trans (congrArg some (by kernel_rfl))
 f246:=Tryz.func272.trans (congrArg some (by kernel_rfl))
 f247:=Tryz.func292.trans (congrArg some (by kernel_rfl))
 f279:=Tryz.func293.trans (congrArg some (by kernel_rfl))
 f280:=Tryz.func294.trans (congrArg some (by kernel_rfl))
 f281:=Tryz.func295.trans (congrArg some (by kernel_rfl))
 f282:=Tryz.func296.trans (congrArg some (by kernel_rfl))
 f283:=Tryz.func310.trans (congrArg some (by kernel_rfl))
 f284:=Tryz.func311.trans (congrArg some (by kernel_rfl))
 f285:=Tryz.func312.trans (congrArg some (by kernel_rfl))
 f286:=Tryz.func313.trans (congrArg some (by kernel_rfl))
 f287:=Tryz.func319.trans (congrArg some (by kernel_rfl))
 f316:=Tryz.func320.trans (congrArg some (by kernel_rfl))
 f317:=Tryz.func332.trans (congrArg some (by kernel_rfl))
 f318:=Tryz.func333.trans (congrArg some (by kernel_rfl))
 f319:=Tryz.func334.trans (congrArg some (by kernel_rfl))
 f320:=Tryz.func335.trans (congrArg some (by kernel_rfl))
 f321:=Tryz.func337.trans (congrArg some (by kernel_rfl))
 f322:=Tryz.func338.trans (congrArg some (by kernel_rfl))
 f337:=Tryz.func342.trans (congrArg some (by kernel_rfl))
 f338:=Tryz.func343.trans (congrArg some (by kernel_rfl))
 t0:=Tryz.underlying0
 a0:=Tryz.isAgg0
 z0:=Tryz.sizeOf0
 v0:=Tryz.zeroValue0
 t2:=Tryz.underlying2
 a2:=Tryz.isAgg2
 z2:=Tryz.sizeOf2
 v2:=Tryz.zeroValue2
 t3:=Tryz.underlying3
 a3:=Tryz.isAgg3
 z3:=Tryz.sizeOf3
 v3:=Tryz.zeroValue3
 t4:=Tryz.underlying4
 a4:=Tryz.isAgg4
 z4:=Tryz.sizeOf4
 v4:=Tryz.zeroValue4
 t5:=Tryz.underlying5
 a5:=Tryz.isAgg5
 z5:=Tryz.sizeOf5
 v5:=Tryz.zeroValue5
 t9:=Tryz.underlying9
 a9:=Tryz.isAgg9
 z9:=Tryz.sizeOf9
 v9:=Tryz.zeroValue9
 t20:=Tryz.underlying20
 a20:=Tryz.isAgg20
 z20:=Tryz.sizeOf20
 v20:=Tryz.zeroValue20
 t21:=Tryz.underlying21
 a21:=Tryz.isAgg21
 z21:=Tryz.sizeOf21
 v21:=Tryz.zeroValue21
 t37:=Tryz.underlying247
 a37:=Tryz.isAgg247
 z37:=Tryz.sizeOf247
 v37:=Tryz.zeroValue247
 t46:=Tryz.underlying311
 a46:=Tryz.isAgg311
 z46:=Tryz.sizeOf311
 v46:=Tryz.zeroValue311
 t51:=Tryz.underlying350
 a51:=Tryz.isAgg350
 z51:=Tryz.sizeOf350
 v51:=Tryz.zeroValue350
 t53:=Tryz.underlying35
 a53:=Tryz.isAgg35
 z53:=Tryz.sizeOf35
 v53:=Tryz.zeroValue35
 t75:=Tryz.underlying42
 a75:=Tryz.isAgg42
 z75:=Tryz.sizeOf42
 v75:=Tryz.zeroValue42
 t76:=Tryz.underlying45
 a76:=Tryz.isAgg45
 z76:=Tryz.sizeOf45
 v76:=Tryz.zeroValue45
 t85:=Tryz.underlying368
 a85:=Tryz.isAgg368
 z85:=Tryz.sizeOf368
 v85:=Tryz.zeroValue368
 t127:=Tryz.underlying339
 a127:=Tryz.isAgg339
 z127:=Tryz.sizeOf339
 v127:=Tryz.zeroValue339
 t143:=Tryz.underlying409
 a143:=Tryz.isAgg409
 z143:=Tryz.sizeOf409
 v143:=Tryz.zeroValue409
 t145:=Tryz.underlying411
 a145:=Tryz.isAgg411
 z145:=Tryz.sizeOf411
 v145:=Tryz.zeroValue411
 t167:=Tryz.underlying367
 a167:=Tryz.isAgg367
 z167:=Tryz.sizeOf367
 v167:=Tryz.zeroValue367
 t168:=Tryz.underlying370
 a168:=Tryz.isAgg370
 z168:=Tryz.sizeOf370
 v168:=Tryz.zeroValue370
 t171:=Tryz.underlying383
 a171:=Tryz.isAgg383
 z171:=Tryz.sizeOf383
 v171:=Tryz.zeroValue383
 t173:=Tryz.underlying385
 a173:=Tryz.isAgg385
 z173:=Tryz.sizeOf385
 v173:=Tryz.zeroValue385
 t175:=Tryz.underlying393
 a175:=Tryz.isAgg393
 z175:=Tryz.sizeOf393
 v175:=Tryz.zeroValue393
 t210:=Tryz.underlying396
 a210:=Tryz.isAgg396
 z210:=Tryz.sizeOf396
 v210:=Tryz.zeroValue396
 t212:=Tryz.underlying405
 a212:=Tryz.isAgg405
 z212:=Tryz.sizeOf405
 v212:=Tryz.zeroValue405
 t213:=Tryz.underlying406
 a213:=Tryz.isAgg406
 z213:=Tryz.sizeOf406
 t232:=Tryz.underlying415
 a232:=Tryz.isAgg415
 z232:=Tryz.sizeOf415
 v232:=Tryz.zeroValue415
 t233:=Tryz.underlying416
 a233:=Tryz.isAgg416
 z233:=Tryz.sizeOf416
 v233:=Tryz.zeroValue416
 g15:=by kernel_rfl
 g16:=by kernel_rfl
 g17:=by kernel_rfl
 g18:=by kernel_rfl
 g19:=by kernel_rfl
 t80:=Tryz.underlying267
 a80:=Tryz.isAgg267
 z80:=Tryz.sizeOf267
 v80:=Tryz.zeroValue267
 i0:=by kernel_rfl
 i2:=by kernel_rfl
 i3:=by kernel_rfl
 i4:=by kernel_rfl
 i5:=by kernel_rfl
 i9:=by kernel_rfl
 i20:=by kernel_rfl
 i21:=by kernel_rfl
 i37:=by kernel_rfl
 i46:=by kernel_rfl
 i51:=by kernel_rfl
 i53:=by kernel_rfl
 i75:=by kernel_rfl
 i76:=by kernel_rfl
 i80:=by kernel_rfl
 i85:=by kernel_rfl
 i127:=by kernel_rfl
 i143:=by kernel_rfl
 i145:=by kernel_rfl
 i167:=by kernel_rfl
 i168:=by kernel_rfl
 i171:=by kernel_rfl
 i173:=by kernel_rfl
 i175:=by kernel_rfl
 i210:=by kernel_rfl
 i212:=by kernel_rfl
 i232:=by kernel_rfl
 i233:=by kernel_rfl
 m15:=by kernel_rfl
 m16:=by kernel_rfl
 m17:=by kernel_rfl
 m18:=by kernel_rfl
 m19:=by kernel_rfl
 c0:=by kernel_rfl
 c2:=by kernel_rfl
 c3:=by kernel_rfl
 c4:=by kernel_rfl
 c5:=by kernel_rfl
 c9:=by kernel_rfl
 c20:=by kernel_rfl
 c21:=by kernel_rfl
 c37:=by kernel_rfl
 c46:=by kernel_rfl
 c51:=by kernel_rfl
 c53:=by kernel_rfl
 c75:=by kernel_rfl
 c76:=by kernel_rfl
 c80:=by kernel_rfl
 c85:=by kernel_rfl
 c127:=by kernel_rfl
 c143:=by kernel_rfl
 c145:=by kernel_rfl
 c167:=by kernel_rfl
 c168:=by kernel_rfl
 c171:=by kernel_rfl
 c173:=by kernel_rfl
 c175:=by kernel_rfl
 c210:=by kernel_rfl
 c212:=by kernel_rfl
 c213:=by kernel_rfl
 c232:=by kernel_rfl
 c233:=by kernel_rfl }
open Go.RowKit in
theorem Tryz.strconv_Atoi_ok (s:ByteArray) (hmax:s.size<=9223372036854775806) (v:Int) (h:Lib.atoiAll s.data.toList=.ok v) (w:World):
  Calls Tryz.prog 220 #[.string s] w fun e w'=>e=.returned (.tuple #[.int .i64 v,.nilIface])/\(w'=w∨∃ t,w'=Lib.bytesWorld w 5 t):=Any.strconv_Atoi_ok Tryz.laysC172 s hmax v h w
open Go.RowKit in
theorem Tryz.strconv_Atoi_syntax_var (s:ByteArray) (hlim:s.size<=281474976710656) (h:Lib.atoiAll s.data.toList=.«syntax») (tp:TypeId) (p:Value) (w:World) (hvar:w.var? Tryz.prog "strconv.ErrSyntax" = some #[.iface tp p]):
  Calls Tryz.prog 220 #[.string s] w fun e w'=>∃ N,e=.returned (.tuple #[.int .i64 0,.iface 370 (.pointer (some ⟨N,0,none⟩))])/\w.heap.size<=N/\w'.heap[N]?=some (.cells #[.string ⟨#[65,116,111,105]⟩,.string s,.iface tp p] 396 (0,0))/\Below w.heap.size w w':=Any.strconv_Atoi_syntax_var Tryz.laysC172 s hlim h tp p w hvar
open Go.RowKit in
theorem Tryz.strconv_Atoi_range_var (s:ByteArray) (hlim:s.size<=281474976710656) (h:Lib.atoiAll s.data.toList=.range) (tp:TypeId) (p:Value) (w:World) (hvar:w.var? Tryz.prog "strconv.ErrRange" = some #[.iface tp p]):
  Calls Tryz.prog 220 #[.string s] w fun e w'=>∃ N,e=.returned (.tuple #[.int .i64 (Lib.atoiSat s.data.toList),.iface 370 (.pointer (some ⟨N,0,none⟩))])/\w.heap.size<=N/\w'.heap[N]?=some (.cells #[.string ⟨#[65,116,111,105]⟩,.string s,.iface tp p] 396 (0,0))/\Below w.heap.size w w':=Any.strconv_Atoi_range_var Tryz.laysC172 s hlim h tp p w hvar
end
end Go.Proofs
namespace Go.Proofs.YtnboipekkahmnaaGreatDoor
section
open Go.RowKit Go.Joins
def zCq (w:World) (name:String):Prop:=∃ tp p,w.var? Tryz.prog name=some #[.iface tp p]
structure Laid (w:World):Prop where
 tab:Lib.TabIs Tryz.prog w "internal/strconv.uint64pow10" .u64 Lib.pow10Tab
 syn:zCq w "strconv.ErrSyntax"
 rng:zCq w "strconv.ErrRange"
theorem zBP:Tryz.prog.globalNamed "strconv.ErrSyntax" = some 1:=by kernel_rfl
theorem zAY:Tryz.prog.globalNamed "strconv.ErrRange" = some 2:=by kernel_rfl
theorem iL {w w':World} (h:Laid w) (hb:Below w.heap.size w w'):Laid w':=by
 obtain⟨t,⟨a,b,hs⟩,⟨c,d,hr⟩⟩:=h;exact⟨rQ t hb,⟨a,b,var_stays zBP hs hb (Nat.le_refl _)⟩,⟨c,d,var_stays zAY hr hb (Nat.le_refl _)⟩⟩
theorem yD (s:ByteArray) (hs:s.size<=1000):∃ x:Int,∀ w,Laid w->
  Calls Tryz.prog 220 #[.string s] w fun e w'=>(∃ ev,e=.returned (.tuple #[.int .i64 x,ev]))/\Below w.heap.size w w':=by
 cases h:Lib.atoiAll s.data.toList with
 | ok v=>
  refine⟨v,fun w _=>(Tryz.strconv_Atoi_ok s (by omega) v h w).mono ?_⟩;rintro e w' ⟨he,hw⟩;refine⟨⟨_,he⟩,?_⟩;rcases hw with rfl|⟨t,rfl⟩
  ·exact Below.refl _ _
  ·exact below_bytesWorld _ w 5 t (Nat.le_refl _)
 | «syntax»=>
  refine⟨0,fun w hL=>?_⟩;obtain⟨tp,p,hv⟩:=hL.syn;refine(Tryz.strconv_Atoi_syntax_var s (by omega) h tp p w hv).mono ?_;rintro e w' ⟨N,he,_,_,hb⟩;exact⟨⟨_,he⟩,hb⟩
 | range=>
  refine⟨Lib.atoiSat s.data.toList,fun w hL=>?_⟩;obtain⟨tp,p,hv⟩:=hL.rng;refine(Tryz.strconv_Atoi_range_var s (by omega) h tp p w hv).mono ?_;rintro e w' ⟨N,he,_,_,hb⟩;exact⟨⟨_,he⟩,hb⟩
theorem wP (s:ByteArray) (hs:s.size<=1000):∃ (x y:Int) (r:ByteArray),r.size<=1000/\∀ w,Laid w->
  Calls Tryz.prog 216 #[.string s] w fun e w'=>e=.returned (.tuple #[.int .i64 x,.int .i64 y,.string r])/\Below w.heap.size w w':=by
 have cut:∀ z:ByteArray,z.size<=1000->∃ (f b:ByteArray) (c:Bool),f.size<=1000/\b.size<=1000/\cutV z (Lib.indexByte z.data.toList 32)=.tuple #[.string f,.string b,.bool c]:=by
  intro z hz;unfold cutV;split
  ·refine⟨_,_,_,?_,?_,rfl⟩
   ·rw[Lib.size_eq,oT,List.length_take];have:=fR z;omega
   ·rw[Lib.size_eq,oM,List.length_drop];have:=fR z;omega
  ·exact⟨_,_,_,hz,Nat.zero_le _,rfl⟩
 obtain⟨f,b,c1,hf,hb,h1⟩:=cut s hs;obtain⟨g,r,c2,hg,hr,h2⟩:=cut b hb;obtain⟨x,hx⟩:=yD f hf;obtain⟨y,hy⟩:=yD g hg;exact⟨x,y,r,hr,fun w hL=>zDs s f b g r c1 c2 x y w (by unfold maxLen;omega) (by unfold maxLen;omega) h1 h2 (fun w' hb'=>hx w' (iL hL hb')) (fun w' hb'=>hy w' (iL hL hb'))⟩
end
end Go.Proofs.YtnboipekkahmnaaGreatDoor
