import Derived.Test.YtnboipekkahmnaaGreatDoorS07
import Derived.Shelf.SlicesE.Clone
import Derived.Shelf.SlicesQ.Contains
set_option maxHeartbeats 8000000
set_option maxRecDepth 100000
namespace Go.Proofs.YtnboipekkahmnaaGreatDoor
open Obj renaming cells→o_
open World renaming cell?_of_block→b_,cell?_setCell_other→t_,cell?_setCell_same→u_,ownsRow.lt→l_
open Go.RowKit.Below renaming heap_setCell→h_,refl→r_
open Nat renaming le_refl→n_
open Tryz renaming prog→p_
open Value renaming string→v_
open Go.Joins renaming below_alloc1→a_
section
open Go.RowKit Go.Joins
theorem zD8 {vs:List Ver} {x:Ver} {n:Int} (h:n<x.deed):bE (vs++[x]) n=bE vs n:=by
 have e:dZ (vs++[x]) n=dZ vs n:=by
  unfold dZ;rw[List.reverse_append,List.reverse_singleton,List.singleton_append,List.find?_cons,decide_eq_false (by omega)]
 unfold bE;rw[e]
theorem tQ {d n:Int} (h:n<d) (key:ByteArray):∀ (l:List Chg) (R:ByteArray->List Ver),bE (cW R d l key) n=bE (R key) n
 | [],R=>rfl
 | c::l,R=>by
  have e:cW R d (c::l)=cW (putG R c.key (R c.key++[⟨d,c.val,c.gone⟩])) d l:=rfl;rw[e,tQ h key l];by_cases hk:key=c.key
  ·subst hk;rw[bH];exact zD8 h
  ·rw[aW _ _ hk]
theorem zEj {F:List (ByteArray×ByteArray)} (h:F.Pairwise fun a b=>ltS b.1 a.1=false) (hn:(F.map (·.1)).Nodup):F.Pairwise fun a b=>ltS a.1 b.1=true:=by
 have hn':F.Pairwise fun a b=>a.1≠b.1:=List.pairwise_map.1 hn;refine(h.and hn').imp fun {a b} h'=>?_;rcases jZ a.1 b.1 with k|k|k
 ·exact k
 ·exact absurd k h'.2
 ·rw[h'.1] at k;cases k
theorem zFo:∀ {F G:List (ByteArray×ByteArray)},F.Pairwise (fun a b=>ltS a.1 b.1=true)->G.Pairwise (fun a b=>ltS a.1 b.1=true)->(∀ r,r∈F↔r∈G)->F=G
 | [],[],_,_,_=>rfl
 | [],b::G,_,_,h=>by have:=(h b).2 (by simp);cases this
 | a::F,[],_,_,h=>by have:=(h a).1 (by simp);cases this
 | a::F,b::G,hF,hG,h=>by
  rw[List.pairwise_cons] at hF hG;have e:a=b:=by
   rcases List.mem_cons.1 ((h a).1 (by simp)) with e|h1
   ·exact e
   ·rcases List.mem_cons.1 ((h b).2 (by simp)) with e|h2
    ·exact e.symm
    ·have:=kP (hG.1 a h1);rw[hF.1 b h2] at this;cases this
  subst e;refine congrArg (a::·) (zFo hF.2 hG.2 fun r=>?_);have:=h r;constructor
  ·intro hr;rcases List.mem_cons.1 (this.1 (List.mem_cons_of_mem _ hr)) with e|h'
   ·subst e;have:=hF.1 r hr;rw[bA] at this;cases this
   ·exact h'
  ·intro hr;rcases List.mem_cons.1 (this.2 (List.mem_cons_of_mem _ hr)) with e|h'
   ·subst e;have:=hG.1 r hr;rw[bA] at this;cases this
   ·exact h'
theorem zI8 (l:List (ByteArray×ByteArray)) (key:ByteArray):(jS l key).length<=1:=by
 unfold jS;have:∀ (l:List (ByteArray×ByteArray)) (R:ByteArray->List Ver),(R key).length<=1->((l.foldl (fun R r=>putG R r.1 [⟨0,r.2,false⟩]) R) key).length<=1:=by
  intro l
  induction l with
  | nil=>exact fun R h=>h
  | cons r l ih=>
   intro R h;refine ih _ ?_;by_cases e:key=r.1
   ·simp[putG,e]
   ·simp[putG,e];exact h
 exact this l _ (by simp)
def valR (l:List (ByteArray×ByteArray)) (key:ByteArray):ByteArray×Bool:=match l.find? fun r=>eqS r.1 key with
 | some r=>(r.2,true)
 | none=>(⟨#[]⟩,false)
theorem zBv {l:List (ByteArray×ByteArray)} {key:ByteArray} (h:∀ r∈l,eqS r.1 key=false):valR l key=(⟨#[]⟩,false):=by
 unfold valR;rw[List.find?_eq_none.2 fun r hr=>by rw[h r hr];simp]
def inR (l:List (ByteArray×ByteArray)) (s:ByteArray×ByteArray):List (ByteArray×ByteArray):=l.filter fun r=>hasS s.1 s.2 r.1
theorem rS (vs:List Ver) (n:Int):(fO vs n=-1/\∀ x∈vs,n<x.deed)∨∃ p:Nat,∃ h:p<vs.length,fO vs n=(p:Int)/\vs[p].deed<=n/\∀ j (hj:j<vs.length),p<j->n<vs[j].deed:=by
 unfold fO
 cases hf:vs.reverse.findIdx? (fun x=>decide (x.deed<=n)) with
 | none=>
  left;refine⟨rfl,fun x hx=>?_⟩;have:=List.findIdx?_eq_none_iff.1 hf x (by simpa using hx);simpa using this
 | some j=>
  right;obtain⟨hj,hp,hlt⟩:=List.findIdx?_eq_some_iff_getElem.1 hf;have hj':j<vs.length:=by simpa using hj
  refine⟨vs.length-1-j,by omega,by show(vs.length:Int)-1-(j:Int)=_;omega,?_,fun i hi h=>?_⟩
  ·rw[List.getElem_reverse] at hp;simpa using hp
  ·have hi2:vs.length-1-i<j:=by omega
   have:=hlt (vs.length-1-i) hi2;rw[List.getElem_reverse] at this;have e:vs.length-1-(vs.length-1-i)=i:=by omega
   simp only[e] at this;simpa using this
theorem uW (a b:List Ver) (n:Int):dZ (a++b) n=(dZ b n).or (dZ a n):=by
 unfold dZ;rw[List.reverse_append,List.find?_append]
theorem zK {l:List Ver} {x:Ver} {n:Int} (h:x.deed<=n):dZ (l++[x]) n=some x:=by
 rw[uW];unfold dZ;simp[h]
def dN (vs:List Ver) (n:Int):List Ver:=
 if fO vs n<0 then vs else if (vs[(fO vs n).toNat]?.map (·.gone)).getD false then vs.drop ((fO vs n).toNat+1) else vs.drop (fO vs n).toNat
theorem sN {vs:List Ver} {n:Int} (h:fO vs n=-1):dN vs n=vs:=by unfold dN;rw[h];rfl
theorem sW {vs:List Ver} {n:Int} {p:Nat} (h:p<vs.length) (e:fO vs n=(p:Int)):dN vs n=if vs[p].gone then vs.drop (p+1) else vs.drop p:=by
 unfold dN;rw[e,if_neg (by omega),Int.toNat_natCast,List.getElem?_eq_getElem h];rfl
theorem zC0 {vs:List Ver} {n m:Int} (hm:n<=m):bE (dN vs n) m=bE vs m:=by
 rcases rS vs n with⟨e,_⟩|⟨p,hp,e,h1,h2⟩
 ·rw[sN e]
 ·rw[sW hp e];by_cases hg:vs[p].gone=true
  ·rw[if_pos hg];have hs:vs=(vs.take p++[vs[p]])++vs.drop (p+1):=by
    rw[<-List.take_succ_eq_append_getElem hp,List.take_append_drop]
   have ha:dZ (vs.take p++[vs[p]]) m=some vs[p]:=zK (by omega);have hl:dZ vs m=(dZ (vs.drop (p+1)) m).or (some vs[p]):=by
    conv=>lhs;rw[hs]
    rw[uW,ha]
   unfold bE;rw[hl]
   cases hb:dZ (vs.drop (p+1)) m with
   | none=>simp[hg]
   | some x=>rfl
  ·rw[if_neg hg];have hs:vs=vs.take p++vs.drop p:=(List.take_append_drop p vs).symm;have hl:dZ vs m=(dZ (vs.drop p) m).or (dZ (vs.take p) m):=by
    conv=>lhs;rw[hs]
    rw[uW]
   unfold bE;rw[hl]
   cases hb:dZ (vs.drop p) m with
   | none=>
    unfold dZ at hb;rw[List.find?_eq_none] at hb;have hi:vs[p]∈vs.drop p:=by rw[List.drop_eq_getElem_cons hp];exact List.mem_cons_self
    have:=hb vs[p] (List.mem_reverse.2 hi);simp at this;omega
   | some x=>rfl
theorem zIE (vs:List Ver) (n:Int):(dN vs n).length<=vs.length:=by
 unfold dN;split
 ·exact n_ _
 ·split<;>simp
theorem uN (n:Int):dN [] n=[]:=sN rfl
def keysV (R:ByteArray->List Ver) (K:List ByteArray):Prop:=K.Nodup/\∀ k,k∈K↔k.size<=maxLen/\R k≠[]
def inK (K:List ByteArray) (key:ByteArray):Bool:=K.any fun y=>decide (y=key)
theorem zFq (K:List ByteArray) (key:ByteArray):inK K key=true↔key∈K:=by simp[inK]
def vacR (R:ByteArray->List Ver) (n:Int) (K:List ByteArray):ByteArray->List Ver:=fun key=>if inK K key then dN (R key) n else R key
theorem zJV (R:ByteArray->List Ver) (n:Int):vacR R n []=R:=rfl
theorem vJ {R:ByteArray->List Ver} {n:Int} {K:List ByteArray} {key:ByteArray} (h:key∈K):vacR R n K key=dN (R key) n:=if_pos ((zFq K key).2 h)
theorem pV {R:ByteArray->List Ver} {n:Int} {K:List ByteArray} {key:ByteArray} (h:key∉K):vacR R n K key=R key:=if_neg (fun e=>h ((zFq K key).1 e))
theorem uR (R:ByteArray->List Ver) (n:Int) (K:List ByteArray) (key:ByteArray):vacR R n (K++[key])=fun k=>if k=key then dN (R key) n else vacR R n K k:=by
 funext k;by_cases e:k=key
 ·subst e;rw[vJ (by simp)];simp
 ·show vacR R n (K++[key]) k=if k=key then dN (R key) n else vacR R n K k;rw[if_neg e];by_cases h:k∈K
  ·rw[vJ h,vJ (by simp[h])]
  ·rw[pV h,pV (by simp[h,e])]
theorem zBR (r:ByteArray×ByteArray) (l:List (ByteArray×ByteArray)) (key:ByteArray):valR (r::l) key=if eqS r.1 key then (r.2,true) else valR l key:=by
 unfold valR;rw[List.find?_cons];cases eqS r.1 key<;>rfl
theorem kU {l:List (ByteArray×ByteArray)} (hl:bV l) (key v:ByteArray):valR l key=(v,true)↔(key,v)∈l:=by
 induction l with
 | nil=>simp[valR]
 | cons r l ih=>
  replace hl:=List.pairwise_cons.1 hl;rw[zBR]
  cases h:eqS r.1 key with
  | true=>
   have e:=(eV _ _).1 h;subst e;constructor
   ·intro h';have:r.2=v:=by simpa using h'
    subst this;simp
   ·intro h';rcases List.mem_cons.1 h' with e|e
    ·rw[if_pos rfl,show r.2=v from (congrArg Prod.snd e).symm]
    ·have:=hl.1 _ e;rw[bA] at this;cases this
  | false=>
   rw[if_neg (by simp),ih hl.2,List.mem_cons];constructor
   ·exact .inr
   ·rintro(e|e)
    ·rw[<-e,pG] at h;cases h
    ·exact e
theorem xN {l:List (ByteArray×ByteArray)} {key:ByteArray} (h:(valR l key).2=false):valR l key=(⟨#[]⟩,false):=by
 unfold valR at h ⊢;split at h<;>simp_all
theorem zJO {l m:List (ByteArray×ByteArray)} (hl:bV l) (hm:bV m) {key:ByteArray} (h:∀ v,(key,v)∈l↔(key,v)∈m):valR l key=valR m key:=by
 cases e:(valR l key).2 with
 | true=>
  have e1:valR l key=((valR l key).1,true):=by rw[<-e]
  have:=(kU hm key _).2 ((h _).1 ((kU hl key _).1 e1));rw[e1,this]
 | false=>
  cases e':(valR m key).2 with
  | false=>rw[xN e,xN e']
  | true=>
   have e1:valR m key=((valR m key).1,true):=by rw[<-e']
   have:=(kU hl key _).2 ((h _).2 ((kU hm key _).1 e1));rw[this] at e;cases e
theorem uJ {l:List (ByteArray×ByteArray)} (hl:bV l) {c:Chg} {key:ByteArray} (hk:key≠c.key):valR (apply1 l c) key=valR l key:=by
 refine zJO (jO hl c) hl fun v=>?_
 cases h:c.gone with
 | true=>
  rw[iF h,List.mem_filter,rH hk];simp
 | false=>
  rw[iX hl h,List.mem_append,List.mem_cons,List.mem_filter,List.mem_filter];constructor
  ·rintro(h'|h'|h')
   ·exact h'.1
   ·exact absurd (congrArg Prod.fst h') hk
   ·exact h'.1
  ·intro h'
   cases e:ltS key c.key with
   | true=>exact .inl ⟨h',rfl⟩
   | false=>
    refine .inr (.inr ⟨h',?_⟩);have h2:leS c.key key=true:=by rw[mA,e];rfl
    rcases(jM _ _).1 h2 with h3|h3
    ·exact h3
    ·exact absurd h3.symm hk
theorem zEA {l:List (ByteArray×ByteArray)} (hl:bV l) (c:Chg):valR (apply1 l c) c.key=if c.gone then (⟨#[]⟩,false) else (c.val,true):=by
 cases h:c.gone with
 | true=>
  refine zBv fun r hr=>?_;rw[iF h,List.mem_filter] at hr;simpa using hr.2
 | false=>
  refine(kU (jO hl c) _ _).2 ?_;rw[iX hl h];simp
def sayR (R:ByteArray->List Ver) (n:Int) (P:List (ByteArray×ByteArray)):Prop:=∀ key,bE (R key) n=valR P key
theorem zA {vs:List Ver} {x:Ver} {n:Int} (h:x.deed<=n):bE (vs++[x]) n=if x.gone then (⟨#[]⟩,false) else (x.val,true):=by
 unfold bE;rw[zK h]
theorem zJs {R:ByteArray->List Ver} {d n:Int} {P:List (ByteArray×ByteArray)} (hd:d<=n) (hP:bV P) (h:sayR R n P):∀ (cs:List Chg),sayR (cW R d cs) n (iB P cs):=by
 intro cs
 induction cs generalizing R P with
 | nil=>exact h
 | cons c cs ih=>
  have:sayR (putG R c.key (R c.key++[⟨d,c.val,c.gone⟩])) n (apply1 P c):=fun key=>by
   by_cases e:key=c.key
   ·subst e;rw[bH,zA (by exact hd),zEA hP]
   ·rw[aW _ _ e,uJ hP e];exact h key
  exact ih (jO hP c) this
theorem zM4 {R:ByteArray->List Ver} {n:Int} {P F:List (ByteArray×ByteArray)} {s:ByteArray×ByteArray} (hP:bV P) (hk:∀ r∈P,r.1.size<=1000000) (h:sayR R n P) (h1:F.Pairwise fun a b=>ltS b.1 a.1=false) (h2:(F.map (·.1)).Nodup) (hF:∀ r,r∈F↔told R n s r):F=inR P s:=by
 refine zFo (zEj h1 h2) (hP.filter _) fun r=>?_;unfold inR;rw[hF,List.mem_filter];unfold told;rw[h r.1,kU hP];constructor
 ·rintro⟨_,h3,h4⟩;exact⟨h4,h3⟩
 ·rintro⟨h3,h4⟩;exact⟨by have:=hk r h3;unfold maxLen;omega,h4,h3⟩
def nC (R:ByteArray->List Ver) (n:Int):Prop:=∀ key,∀ x∈R key,x.deed<=n
theorem zH2 (l:List (ByteArray×ByteArray)):nC (jS l) 0:=by
 have aux:∀ (l:List (ByteArray×ByteArray)) (R:ByteArray->List Ver),nC R 0->nC (l.foldl (fun R r=>putG R r.1 [⟨0,r.2,false⟩]) R) 0:=by
  intro l
  induction l with
  | nil=>exact fun R h=>h
  | cons r l ih=>
   intro R h;refine ih _ fun key x hx=>?_;dsimp only at hx;by_cases e:key=r.1
   ·subst e;rw[bH] at hx;rw[List.mem_singleton.1 hx];exact Int.le_refl _
   ·rw[aW _ _ e] at hx;exact h key x hx
 exact aux l _ fun key x hx=>by cases hx
theorem zG4 {R:ByteArray->List Ver} {d:Int} (h:nC R d):∀ (cs:List Chg),nC (cW R d cs) d:=by
 intro cs
 induction cs generalizing R with
 | nil=>exact h
 | cons c cs ih=>
  refine ih fun key x hx=>?_;dsimp only at hx;by_cases e:key=c.key
  ·subst e;rw[bH] at hx;rcases List.mem_append.1 hx with hx|hx
   ·exact h _ x hx
   ·rw[List.mem_singleton.1 hx];exact Int.le_refl _
  ·rw[aW _ _ e] at hx;exact h key x hx
theorem zHH {R:ByteArray->List Ver} {a b:Int} (h:nC R a) (hab:a<=b):nC R b:=fun key x hx=>Int.le_trans (h key x hx) hab
theorem zJr {vs:List Ver} {n:Int} {x:Ver} (h:x∈dN vs n):x∈vs:=by
 unfold dN at h;split at h
 ·exact h
 ·split at h<;>exact List.mem_of_mem_drop h
theorem zLo {l:List (ByteArray×ByteArray)} (hp:bV l):sayR (jS l) 0 l:=by
 have aux:∀ (l:List (ByteArray×ByteArray)),bV l->∀ (R:ByteArray->List Ver) (key:ByteArray),bE ((l.foldl (fun R r=>putG R r.1 [⟨0,r.2,false⟩]) R) key) 0=if (valR l key).2 then valR l key else bE (R key) 0:=by
  intro l
  induction l with
  | nil=>intro _ R key;rfl
  | cons r l ih=>
   intro hp R key;replace hp:=List.pairwise_cons.1 hp;rw[List.foldl_cons,ih hp.2,zBR]
   cases he:eqS r.1 key with
   | true=>
    have e:=(eV _ _).1 he;subst e;have hm:valR l r.1=(⟨#[]⟩,false):=zBv fun x hx=>rH fun e=>by
     have:=hp.1 x hx;rw[e,bA] at this;cases this
    rw[hm,bH];rfl
   | false=>
    have e:key≠r.1:=fun e=>by rw[e,pG] at he;cases he
    rw[aW _ _ e];simp
 intro key;have:=aux l hp (fun _=>[]) key
 cases e:(valR l key).2 with
 | true=>rw[e] at this;exact this
 | false=>rw[e] at this;rw[xN e];exact this
structure aU where
 n:Int
 keys:List ByteArray
def posD (ds:List aU) (n:Int):Nat:=ds.findIdx fun d=>!decide (d.n<n)
def iN (ds:List aU) (n:Int):Bool:=match ds[posD ds n]? with
 | some d=>d.n==n
 | none=>false
def cR (ds:List aU) (n:Int):Nat:=if iN ds n=true then posD ds n+1 else posD ds n
def gS (ds:List aU):Prop:=ds.Pairwise fun a b=>a.n<b.n
theorem zE3 (ds:List aU) (n:Int):posD ds n<=ds.length:=List.findIdx_le_length
theorem zFd {ds:List aU} {n:Int} {i:Nat} (hi:i<=ds.length) (h1:∀ m (hm:m<ds.length),m<i->ds[m].n<n) (h2:∀ m (hm:m<ds.length),i<=m->n<=ds[m].n):posD ds n=i:=by
 unfold posD;rcases Nat.lt_trichotomy (ds.findIdx fun d=>!decide (d.n<n)) i with h|h|h
 ·have hl:ds.findIdx (fun d=>!decide (d.n<n))<ds.length:=by omega
  have:=List.findIdx_getElem (p:=fun d:aU=>!decide (d.n<n)) (xs:=ds) (w:=hl);have h3:=h1 _ hl h;simp[h3] at this
 ·exact h
 ·have hl:i<ds.length:=Nat.lt_of_lt_of_le h List.findIdx_le_length;have:=List.not_of_lt_findIdx (p:=fun d:aU=>!decide (d.n<n)) (xs:=ds) (i:=i) h;have h3:=h2 i hl (n_ _);simp at this;omega
theorem nW {ds:List aU} (h:gS ds) {i j:Nat} (hj:j<ds.length) (hij:i<j):(ds[i]'(by omega)).n<ds[j].n:=List.pairwise_iff_getElem.1 h i j (by omega) hj hij
theorem zFi {ds:List aU} {n:Int} {m:Nat} (hm:m<ds.length) (h:m<posD ds n):ds[m].n<n:=by
 have:=List.not_of_lt_findIdx (p:=fun d:aU=>!decide (d.n<n)) (xs:=ds) (i:=m) h;simpa using this
theorem zAM {ds:List aU} (hr:gS ds) {n:Int} {m:Nat} (hm:m<ds.length) (h:posD ds n<=m):n<=ds[m].n:=by
 have hl:posD ds n<ds.length:=by omega
 have h1:=List.findIdx_getElem (p:=fun d:aU=>!decide (d.n<n)) (xs:=ds) (w:=hl);have h3:n<=(ds[ds.findIdx fun d=>!decide (d.n<n)]'hl).n:=by simpa using h1
 have h2:n<=(ds[posD ds n]'hl).n:=h3;rcases Nat.lt_or_ge (posD ds n) m with h'|h'
 ·have:=nW hr hm h';omega
 ·have e:posD ds n=m:=by omega
  simpa[e] using h2
theorem zLC {ds:List aU} {n:Int} (h:∀ d∈ds,d.n<n):posD ds n=ds.length/\iN ds n=false:=by
 have e:posD ds n=ds.length:=zFd (n_ _) (fun m hm _=>h _ (List.getElem_mem hm)) (fun m hm h'=>by omega);exact⟨e,by rw[iN,e,List.getElem?_eq_none (n_ _)]⟩
theorem zBi (ds:List aU) (n:Int):cR ds n<=ds.length:=by
 unfold cR;split
 ·rename_i h;unfold iN at h;split at h
  ·rename_i d hd;have:=(List.getElem?_eq_some_iff.1 hd).1;omega
  ·cases h
 ·exact zE3 ds n
theorem zKx {ds:List aU} {n:Int} {m:Nat} (hm:m<ds.length) (h:m<cR ds n):ds[m].n<=n:=by
 unfold cR at h;split at h
 ·rename_i hk;rcases Nat.lt_or_ge m (posD ds n) with h'|h'
  ·have:=zFi hm h';omega
  ·have e:m=posD ds n:=by omega
   unfold iN at hk;rw[<-e,List.getElem?_eq_getElem hm] at hk;simp at hk;omega
 ·have:=zFi hm h;omega
theorem zKA {ds:List aU} (hr:gS ds) {n:Int} {m:Nat} (hm:m<ds.length) (h:cR ds n<=m):n<ds[m].n:=by
 unfold cR at h;split at h
 ·rename_i hk;have h1:posD ds n<m:=by omega
  have h2:=zAM hr (n:=n) (m:=posD ds n) (by omega) (n_ _);have:=nW hr hm h1;omega
 ·rename_i hk;have h1:=zAM hr hm h;rcases Nat.lt_or_ge (posD ds n) m with h'|h'
  ·have h2:=zAM hr (n:=n) (m:=posD ds n) (by omega) (n_ _);have:=nW hr hm h';omega
  ·have e:m=posD ds n:=by omega
   unfold iN at hk;rw[<-e,List.getElem?_eq_getElem hm] at hk;simp at hk;omega
theorem zFJ {ds:List aU} (hr:gS ds) (n:Int):ds.drop (cR ds n)=ds.filter fun d=>decide (n<d.n):=by
 conv=>rhs;rw[<-List.take_append_drop (cR ds n) ds]
 rw[List.filter_append];have h1:(ds.take (cR ds n)).filter (fun d=>decide (n<d.n))=[]:=by
  rw[List.filter_eq_nil_iff];intro d hd;obtain⟨m,hm,rfl⟩:=List.mem_iff_getElem.1 hd;rw[List.length_take] at hm;have:=zKx (ds:=ds) (n:=n) (m:=m) (by omega) (by omega);rw[List.getElem_take];simp;omega
 have h2:(ds.drop (cR ds n)).filter (fun d=>decide (n<d.n))=ds.drop (cR ds n):=by
  rw[List.filter_eq_self];intro d hd;obtain⟨m,hm,rfl⟩:=List.mem_iff_getElem.1 hd;rw[List.length_drop] at hm;have:=zKA hr (n:=n) (m:=cR ds n+m) (by omega) (by omega);rw[List.getElem_drop];simpa using this
 rw[h1,h2,List.nil_append]
def zLM (reads:List (ByteArray×ByteArray)) (d:aU):Bool:=d.keys.any fun k=>reads.any fun s=>hasS s.1 s.2 k
def lC (ds:List aU) (reads:List (ByteArray×ByteArray)) (since:Int):Bool:=(ds.drop (cR ds since)).all fun d=>!zLM reads d
theorem zHB (ds:List aU) (since:Int):lC ds [] since=true:=by
 unfold lC zLM;simp
theorem zFu {ds:List aU} (hr:gS ds) (k:Nat):gS (ds.drop k):=hr.drop
theorem zBW {ds:List aU} (hr:gS ds) (reads:List (ByteArray×ByteArray)) (since:Int):lC ds reads since=(ds.filter fun d=>decide (since<d.n)).all fun d=>!zLM reads d:=by
 unfold lC;rw[zFJ hr]
def nN (s:ByteArray×ByteArray):List Value:=[.string s.1,.string s.2]
theorem lW (s:ByteArray×ByteArray):(nN s).length=2:=rfl
theorem zHp (l:List (ByteArray×ByteArray)):∀ u∈l.flatMap nN,u.oneCell'=true:=by
 intro u hu;obtain⟨s,_,hu⟩:=List.mem_flatMap.1 hu;simp only[nN,List.mem_cons,List.not_mem_nil,or_false] at hu;rcases hu with rfl|rfl<;>rfl
theorem zBI:(Tryz.prog.info? 80).map (fun i=>(i.zero,i.size,i.bytes))=some (some (.agg #[.string ⟨#[]⟩,.string ⟨#[]⟩]),2,32):=by kernel_rfl
def lL (w:World) (B:Nat) (v:Value) (l:List (ByteArray×ByteArray)):Prop:=w.ownsRow B 80 2 v l.length (l.flatMap nN)
theorem sI {w:World} {B:Nat} {v:Value} {l:List (ByteArray×ByteArray)} (h:lL w B v l):∃ ao cap,v=.slice ao l.length cap/\bY w ao l/\(∀ b,v.ownBlock=some b->B<=b):=by
 have hlt:∀ b,v.ownBlock=some b->B<=b:=fun b hb=>(l_ h b hb).1;rcases aX h with⟨hv,h0⟩|⟨g,cap,hv,_⟩
 ·have e:l=[]:=List.length_eq_zero_iff.1 h0;subst e;exact⟨none,0,hv,.inl rfl,hlt⟩
 ·refine⟨_,cap,hv,.inr ⟨g,0,rfl,fun i hi=>?_⟩,hlt⟩;unfold lL at h;rw[hv] at h;have a:=(dU lW h i 0 hi (by omega)).1;have b:=(dU lW h i 1 hi (by omega)).1;rw[Nat.zero_add];exact⟨a,b⟩
theorem iQ {w:World} {B:Nat} {e:TypeId} {size:Nat} {v:Value} {n:Nat} {xs:List Value} (h:w.ownsRow B e size v n xs):∃ ao cap,v=.slice ao n cap:=by
 rcases aX h with⟨hv,h0⟩|⟨g,cap,hv,_⟩
 ·exact⟨none,0,by rw[h0];exact hv⟩
 ·exact⟨_,cap,hv⟩
structure VW (w:World) (B wb vb:Nat) (since:Int) (cv rv:Value) (chs:List Chg) (rds:List (ByteArray×ByteArray)):Prop where
 c0:w.cell? ⟨wb,0,none⟩=some (.pointer (some ⟨vb,0,none⟩))
 c1:w.cell? ⟨wb,1,none⟩=some (.int .i64 since)
 c2:w.cell? ⟨wb,2,none⟩=some cv
 c3:w.cell? ⟨wb,3,none⟩=some rv
 soft:∀ j,w.frozen? ⟨wb,j,none⟩=false
 chs:bO w B cv chs
 rds:lL w B rv rds
 lo:B<=wb
 nc:cv.ownBlock≠some wb
 nr:rv.ownBlock≠some wb
 ap:apV cv rv
def inVW (wb:Nat) (cv rv:Value) (k:Nat):Prop:=k=wb∨cv.ownBlock=some k∨rv.ownBlock=some k
theorem VW.lt {w:World} {B wb vb:Nat} {since:Int} {cv rv:Value} {chs:List Chg} {rds:List (ByteArray×ByteArray)} (h:VW w B wb vb since cv rv chs rds) {k:Nat} (hk:inVW wb cv rv k):k<w.heap.size:=by
 rcases hk with rfl|e|e
 ·exact World.block_lt_of_cell? _ _ h.c0
 ·exact(l_ h.chs k e).2
 ·exact(l_ h.rds k e).2
theorem VW.low {w:World} {B wb vb:Nat} {since:Int} {cv rv:Value} {chs:List Chg} {rds:List (ByteArray×ByteArray)} (h:VW w B wb vb since cv rv chs rds) {k:Nat} (hk:inVW wb cv rv k):B<=k:=by
 rcases hk with rfl|e|e
 ·exact h.lo
 ·exact(l_ h.chs k e).1
 ·exact(l_ h.rds k e).1
theorem VW.kept {w w':World} {B wb vb:Nat} {since:Int} {cv rv:Value} {chs:List Chg} {rds:List (ByteArray×ByteArray)} (h:VW w B wb vb since cv rv chs rds) (hk:∀ k,inVW wb cv rv k->w'.heap[k]?=w.heap[k]?):VW w' B wb vb since cv rv chs rds where
 c0:=(b_ (w:=w) (hk wb (.inl rfl))).trans h.c0
 c1:=(b_ (w:=w) (hk wb (.inl rfl))).trans h.c1
 c2:=(b_ (w:=w) (hk wb (.inl rfl))).trans h.c2
 c3:=(b_ (w:=w) (hk wb (.inl rfl))).trans h.c3
 soft:=fun j=>(World.frozen?_of_block (w:=w) (hk wb (.inl rfl))).trans (h.soft j)
 chs:=aI h.chs fun k e=>hk k (.inr (.inl e))
 rds:=aI h.rds fun k e=>hk k (.inr (.inr e))
 lo:=h.lo
 nc:=h.nc
 nr:=h.nr
 ap:=h.ap
theorem VW.on {w w':World} {B wb vb:Nat} {since:Int} {cv rv:Value} {chs:List Chg} {rds:List (ByteArray×ByteArray)} (h:VW w B wb vb since cv rv chs rds) (hb:Below w.heap.size w w'):VW w' B wb vb since cv rv chs rds:=h.kept fun k hk=>hb.block k (h.lt hk)
theorem VW.setC {w:World} {B wb vb:Nat} {since:Int} {cv rv cv':Value} {chs chs':List Chg} {rds:List (ByteArray×ByteArray)} (h:VW w B wb vb since cv rv chs rds) (ho:bO w B cv' chs') (hf:∀ k,cv'.ownBlock=some k->¬inVW wb cv rv k):
  VW (w.setCell ⟨wb,2,none⟩ cv') B wb vb since cv' rv chs' rds where
 c0:=(t_ _ _ _ _ (by simp)).trans h.c0
 c1:=(t_ _ _ _ _ (by simp)).trans h.c1
 c2:=u_ _ _ _ h.c2
 c3:=(t_ _ _ _ _ (by simp)).trans h.c3
 soft:=fun j=>by rw[World.frozen?_setCell];exact h.soft j
 chs:=aI ho fun k e=>h_ _ _ _ _ (fun e'=>hf k e (.inl e'))
 rds:=aI h.rds fun k e=>h_ _ _ _ _ (fun e'=>h.nr (by rw[e,e']))
 lo:=h.lo
 nc:=fun e=>hf wb e (.inl rfl)
 nr:=h.nr
 ap:=fun k e e'=>hf k e (.inr (.inr e'))
theorem VW.setR {w w3:World} {B wb vb:Nat} {since:Int} {cv rv rv':Value} {chs:List Chg} {rds rds':List (ByteArray×ByteArray)} (h:VW w B wb vb since cv rv chs rds) (hg:w.grownBy w3 rv.ownBlock) (ho:lL w3 B rv' rds') (hf:∀ k,rv'.ownBlock=some k->rv.ownBlock=some k∨w.heap.size<=k):
  VW (w3.setCell ⟨wb,3,none⟩ rv') B wb vb since cv rv' chs rds':=by
 have bw:w3.heap[wb]?=w.heap[wb]?:=hg.block wb (h.lt (.inl rfl)) (Ne.symm h.nr);have nw:∀ k,rv'.ownBlock=some k->k≠wb:=fun k e e'=>by
  rcases hf k e with e2|e2
  ·exact h.nr (by rw[e2,e'])
  ·have:=h.lt (k:=wb) (.inl rfl);omega
 exact {
  c0:=(t_ _ _ _ _ (by simp)).trans ((b_ (w:=w) bw).trans h.c0)
  c1:=(t_ _ _ _ _ (by simp)).trans ((b_ (w:=w) bw).trans h.c1)
  c2:=(t_ _ _ _ _ (by simp)).trans ((b_ (w:=w) bw).trans h.c2)
  c3:=u_ _ _ _ ((b_ (w:=w) bw).trans h.c3)
  soft:=fun j=>by rw[World.frozen?_setCell];exact(World.frozen?_of_block (w:=w) bw).trans (h.soft j)
  chs:=aI h.chs fun k e=>(h_ _ _ _ _ (fun e'=>h.nc (by rw[e,e']))).trans (hg.block k (l_ h.chs k e).2 (fun e'=>h.ap k e e'.symm))
  rds:=aI ho fun k e=>h_ _ _ _ _ (nw k e)
  lo:=h.lo
  nc:=h.nc
  nr:=fun e=>nw wb e rfl
  ap:=fun k e e'=>by
   rcases hf k e' with e2|e2
   ·exact h.ap k e e2
   ·have:=(l_ h.chs k e).2;omega }
theorem VW.down {w:World} {B B' wb vb:Nat} {since:Int} {cv rv:Value} {chs:List Chg} {rds:List (ByteArray×ByteArray)} (h:VW w B wb vb since cv rv chs rds) (hB:B'<=B):VW w B' wb vb since cv rv chs rds:=
 ⟨h.c0,h.c1,h.c2,h.c3,h.soft,dJ h.chs hB,ownsRow_le h.rds hB,Nat.le_trans hB h.lo,h.nc,h.nr,h.ap⟩
def farW (w w':World) (wb:Nat) (cv rv cv' rv':Value):Prop:=∀ j,j<w.heap.size->¬inVW wb cv rv j->w'.heap[j]?=w.heap[j]?/\¬inVW wb cv' rv' j
theorem farW.trans {w w1 w2:World} {wb:Nat} {cv rv cv1 rv1 cv2 rv2:Value} (h:farW w w1 wb cv rv cv1 rv1) (hs:w.heap.size<=w1.heap.size) (h':farW w1 w2 wb cv1 rv1 cv2 rv2):farW w w2 wb cv rv cv2 rv2:=fun j hj hn=>by
 obtain⟨a,b⟩:=h j hj hn;obtain⟨c,d⟩:=h' j (Nat.lt_of_lt_of_le hj hs) b;exact⟨c.trans a,d⟩
theorem farW.on {w w':World} {wb:Nat} {cv rv:Value} (hb:Below w.heap.size w w'):farW w w' wb cv rv cv rv:=fun j hj hn=>⟨hb.block j hj,hn⟩
theorem farW.setC {w:World} {wb:Nat} {cv rv cv':Value} {n:Nat} (hf:∀ k,cv'.ownBlock=some k->n<=k) {u:Value}:∀ j,j<n->¬inVW wb cv rv j->(w.setCell ⟨wb,2,none⟩ u).heap[j]?=w.heap[j]?/\¬inVW wb cv' rv j:=fun j hj hn=>by
 refine⟨h_ _ _ _ _ (fun e=>hn (.inl e)),?_⟩;rintro(e|e|e)
 ·exact hn (.inl e)
 ·have:=hf j e;omega
 ·exact hn (.inr (.inr e))
theorem zFg {w w':World} {B vb mb n wb:Nat} {now:Int} {D:DataW Value} {g:ByteArray->Value} {R:ByteArray->List Ver} {cv rv cv' rv':Value} (h:VS w B vb mb now n D g R) (hf:farW w w' wb cv rv cv' rv') (ha:∀ k,inVS vb mb g k->¬inVW wb cv rv k):VS w' B vb mb now n D g R/\∀ k,inVS vb mb g k->¬inVW wb cv' rv' k:=
 ⟨h.kept fun k hk=>(hf k (h.lt hk) (ha k hk)).1,fun k hk=>(hf k (h.lt hk) (ha k hk)).2⟩
end
end Go.Proofs.YtnboipekkahmnaaGreatDoor
namespace Go.Proofs
open Obj renaming cells→o_
open World renaming cell?_of_block→b_,cell?_setCell_other→t_,cell?_setCell_same→u_,ownsRow.lt→l_
open Go.RowKit.Below renaming heap_setCell→h_,refl→r_
open Nat renaming le_refl→n_
open Tryz renaming prog→p_
open Value renaming string→v_
open Go.Joins renaming below_alloc1→a_
section
open Go.Shelf
def Tryz.cloneS_ren:Go.Shelf.Ren:=⟨fun|41=>130|n=>n,fun|22=>37|23=>80|4=>4|n=>n,fun|n=>n⟩
theorem Tryz.cloneS:Go.Proofs.SlLaysE0.n41 p_ Tryz.cloneS_ren:={
 mixed:=by kernel_rfl
 f41:=⟨Tryz.f130.name,by decide,Tryz.func130.trans (congrArg some (by kernel_rfl))⟩
 t4:=Tryz.underlying4
 a4:=Tryz.isAgg4
 z4:=Tryz.sizeOf4
 v4:=Tryz.zeroValue4
 t22:=Tryz.underlying37
 a22:=Tryz.isAgg37
 z22:=Tryz.sizeOf37
 v22:=Tryz.zeroValue37 }
def Tryz.containsS_ren:Go.Shelf.Ren:=⟨fun|7=>165|6=>227|n=>n,fun|22=>37|24=>80|4=>4|0=>0|3=>3|n=>n,fun|n=>n⟩
theorem Tryz.containsS:Go.Proofs.SlLaysQ.n7 p_ Tryz.containsS_ren:={
 mixed:=by kernel_rfl
 f6:=⟨Tryz.f227.name,by decide,Tryz.func227.trans (congrArg some (by kernel_rfl))⟩
 f7:=⟨Tryz.f165.name,by decide,Tryz.func165.trans (congrArg some (by kernel_rfl))⟩
 t0:=Tryz.underlying0
 a0:=Tryz.isAgg0
 z0:=Tryz.sizeOf0
 v0:=Tryz.zeroValue0
 t3:=Tryz.underlying3
 a3:=Tryz.isAgg3
 z3:=Tryz.sizeOf3
 v3:=Tryz.zeroValue3
 t4:=Tryz.underlying4
 a4:=Tryz.isAgg4
 z4:=Tryz.sizeOf4
 v4:=Tryz.zeroValue4
 t22:=Tryz.underlying37
 a22:=Tryz.isAgg37
 z22:=Tryz.sizeOf37
 v22:=Tryz.zeroValue37 }
end
end Go.Proofs
namespace Go.Proofs.YtnboipekkahmnaaGreatDoor
open Obj renaming cells→o_
open World renaming cell?_of_block→b_,cell?_setCell_other→t_,cell?_setCell_same→u_,ownsRow.lt→l_
open Go.RowKit.Below renaming heap_setCell→h_,refl→r_
open Nat renaming le_refl→n_
open Tryz renaming prog→p_
open Value renaming string→v_
open Go.Joins renaming below_alloc1→a_
section
open Go.RowKit Go.Joins
theorem rY (l:List Chg) (b off cap:Nat) (key:ByteArray) (w:World) (hl:dG w b off l) (hn:l.length<=9223372036854775806):
  Calls p_ 168 #[.slice (some ⟨b,off,none⟩) l.length cap,.string key] w fun e w'=>e=.returned (.tuple #[.int .i64 (cU l key),.bool (fB l key)])/\Below w.heap.size w w':=by
 go_enter Tryz.func168,Tryz.ntmps168;go_wp2
 go_loop [4] (fun i=>∃ k:Nat,k<=l.length/\i=.int .i64 k/\k<=cU l key) (fun i=>l.length-(intOf i).toNat)
 case atStart=>exact⟨0,Nat.zero_le _,rfl,Nat.zero_le _⟩
 case round=>
  obtain⟨k,hk,rfl,hp⟩:=hrel;by_cases hlt:k<l.length
  ·obtain⟨c0,_,_⟩:=hl k hlt;have hlt':(k:Int)<(l.length:Int):=by omega
   cases hc:ltS l[k].key key with
   | true=>
    have hc':Op.bytesLess l[k].key.toList key.toList=true:=hc;have HP:=hide (zEe hp hlt hc);clear hc;go_wp2
    go_round
    case rel=>exact⟨k+1,by omega,by go_num,HP.out⟩
    case measure=>simp[intOf];omega
   | false=>
    have hc':Op.bytesLess l[k].key.toList key.toList=false:=hc;have HE:=hide (zA7 hp (fun _=>hc));have HF:=hide (show fB l key=(l[k].key.toList==key.toList) by rw[fB,HE.out,List.getElem?_eq_getElem hlt];rfl);clear hc;go_wp2;go_quiet (fail);go_wp2;go_ret2;exact⟨by rw[HE.out,HF.out];rfl,below_draws _ _ _⟩
  ·have HE:=hide (zA7 hp (fun h=>absurd h hlt));have HF:=hide (show fB l key=false by rw[fB,HE.out,List.getElem?_eq_none (by omega)]);have hd:decide ((k:Int)<(l.length:Int))=false:=by simp;omega
   go_wp2;go_quiet (fail);go_wp2;go_ret2;exact⟨by rw[HE.out,HF.out];rfl,below_draws _ _ _⟩
theorem zAZ (ao:Option Addr) (cap:Nat) (key:ByteArray) (w:World):
  Calls p_ 168 #[.slice ao 0 cap,.string key] w fun e w'=>e=.returned (.tuple #[.int .i64 0,.bool false])/\Below w.heap.size w w':=by
 go_enter Tryz.func168,Tryz.ntmps168;go_wp2;refine wp_loop_rounds 1 ?_;rw[rounds_succ];go_wp2;go_quiet (fail);go_wp2;go_ret2;exact⟨rfl,below_draws _ _ _⟩
end
section
open Go.RowKit Go.Joins
attribute [local go_sem ↓] Go.wp_at_zero Go.wp_at_succ
theorem zEH (l:List Chg) (p q:Nat) (c:Chg) (hp:p<=l.length):(l.take p++c::l.drop q).length=p+1+(l.length-q):=by
 simp[List.length_take];omega
theorem zT (W:World) (b off cap p q:Nat) (l:List Chg) (c:Chg) (hl:dG W b off l) (hp:p<=l.length) (hq:q<=l.length) (hc:l.length<=cap) (hn:l.length<=1000):
  Calls p_ 231 #[.slice (some ⟨W.heap.size+1,0,none⟩) 3 3]
   ((W.alloc (o_ #[.string c.key,.string c.val,.bool c.gone] 133)).alloc (o_ #[.slice (some ⟨b,off,none⟩) p cap,.slice (some ⟨W.heap.size,0,none⟩) 1 1,.slice (if cap=q then some ⟨b,off,none⟩ else some ⟨b,off+q*3,none⟩) (l.length-q) (cap-q)] 36)).drew fun e w'=>
    ∃ v,e=.returned v/\bO w' W.heap.size v (l.take p++c::l.drop q)/\Below W.heap.size W w':=by
 have hB:=(below_alloc2 W (o_ #[.string c.key,.string c.val,.bool c.gone] 133) (o_ #[.slice (some ⟨b,off,none⟩) p cap,.slice (some ⟨W.heap.size,0,none⟩) 1 1,.slice (if cap=q then some ⟨b,off,none⟩ else some ⟨b,off+q*3,none⟩) (l.length-q) (cap-q)] 36)).drew;generalize hX:((W.alloc (o_ #[.string c.key,.string c.val,.bool c.gone] 133)).alloc (o_ #[.slice (some ⟨b,off,none⟩) p cap,.slice (some ⟨W.heap.size,0,none⟩) 1 1,.slice (if cap=q then some ⟨b,off,none⟩ else some ⟨b,off+q*3,none⟩) (l.length-q) (cap-q)] 36)).drew=X at hB ⊢;have g0:X.cell? ⟨W.heap.size+1,0,none⟩=some (.slice (some ⟨b,off,none⟩) p cap):=by rw[<-hX];simp
 have g1:X.cell? ⟨W.heap.size+1,1,none⟩=some (.slice (some ⟨W.heap.size,0,none⟩) 1 1):=by rw[<-hX];simp
 have g2:X.cell? ⟨W.heap.size+1,2,none⟩=some (Value.slice (if cap=q then some ⟨b,off,none⟩ else some ⟨b,off+q*3,none⟩) (l.length-q) (cap-q)):=by rw[<-hX];simp
 have k1:dG X W.heap.size 0 [c]:=by
  intro i hi;have e:i=0:=by simp at hi;omega
  subst e;rw[<-hX];simp
 have s1:=zL (zEw (gC hB hl) p) cap;rw[List.length_take,Nat.min_eq_left hp] at s1;have s2:=zL k1 1;have s3:nR X (if cap=q then some ⟨b,off,none⟩ else some ⟨b,off+q*3,none⟩) (l.length-q) (cap-q) (cG (l.drop q)):=by
  by_cases e:cap=q
  ·rw[if_pos e];have e2:l.drop q=[]:=List.drop_eq_nil_of_le (by omega);have e3:l.length-q=0:=by omega
   rw[e2,e3];exact zIx X _ _
  ·rw[if_neg e];have:=zL (zED (gC hB hl) q) (cap-q);rwa [List.length_drop] at this
 refine(zG (W.heap.size+1) _ _ _ p 1 (l.length-q) _ _ _ _ _ _ X g0 g1 g2 s1 s2 s3 (by omega) (by omega)).mono ?_;rintro e w' ⟨v,rfl,ho,hb⟩;refine⟨v,rfl,?_,aB hB (n_ _) hb⟩;unfold bO;rw[zEH l p q c hp];have e:cG (l.take p++c::l.drop q)=cG (l.take p)++cG [c]++cG (l.drop q):=by
  rw[tJ,List.append_assoc];congr 1
 rw[e];exact ownsRow_le ho hB.size
theorem zGx (W:World) (c:Chg):
  Calls p_ 231 #[.slice (some ⟨W.heap.size+1,0,none⟩) 3 3]
   ((W.alloc (o_ #[.string c.key,.string c.val,.bool c.gone] 133)).alloc (o_ #[.slice none 0 0,.slice (some ⟨W.heap.size,0,none⟩) 1 1,.slice none 0 0] 36)).drew fun e w'=>
    ∃ v,e=.returned v/\bO w' W.heap.size v [c]/\Below W.heap.size W w':=by
 have hB:=(below_alloc2 W (o_ #[.string c.key,.string c.val,.bool c.gone] 133) (o_ #[.slice none 0 0,.slice (some ⟨W.heap.size,0,none⟩) 1 1,.slice none 0 0] 36)).drew;generalize hX:((W.alloc (o_ #[.string c.key,.string c.val,.bool c.gone] 133)).alloc (o_ #[.slice none 0 0,.slice (some ⟨W.heap.size,0,none⟩) 1 1,.slice none 0 0] 36)).drew=X at hB ⊢;have g0:X.cell? ⟨W.heap.size+1,0,none⟩=some (.slice none 0 0):=by rw[<-hX];simp
 have g1:X.cell? ⟨W.heap.size+1,1,none⟩=some (.slice (some ⟨W.heap.size,0,none⟩) 1 1):=by rw[<-hX];simp
 have g2:X.cell? ⟨W.heap.size+1,2,none⟩=some (.slice none 0 0):=by rw[<-hX];simp
 have k1:dG X W.heap.size 0 [c]:=by
  intro i hi;have e:i=0:=by simp at hi;omega
  subst e;rw[<-hX];simp
 refine(zG (W.heap.size+1) _ _ _ 0 1 0 _ _ _ _ _ _ X g0 g1 g2 (zCX X) (zL k1 1) (zCX X) (by omega) (by omega)).mono ?_;rintro e w' ⟨v,rfl,ho,hb⟩;exact⟨v,rfl,ownsRow_le ho hB.size,aB hB (n_ _) hb⟩
theorem zKw (l:List Chg) (b off cap:Nat) (c:Chg) (w:World) (hl:dG w b off l) (hc:l.length<=cap) (hcap:cap<=9223372036854775807) (hn:l.length<=1000):
  Calls p_ 171 #[.slice (some ⟨b,off,none⟩) l.length cap,.agg #[.string c.key,.string c.val,.bool c.gone]] w fun e w'=>
   ∃ v,e=.returned v/\bO w' w.heap.size v (putL l c)/\Below w.heap.size w w':=by
 have hB:=a_ w (o_ #[.string c.key,.string c.val,.bool c.gone] 133);have a0:(w.alloc (o_ #[.string c.key,.string c.val,.bool c.gone] 133)).cell? ⟨w.heap.size,0,none⟩=some (.string c.key):=by simp
 have a1:(w.alloc (o_ #[.string c.key,.string c.val,.bool c.gone] 133)).cell? ⟨w.heap.size,1,none⟩=some (.string c.val):=by simp
 have a2:(w.alloc (o_ #[.string c.key,.string c.val,.bool c.gone] 133)).cell? ⟨w.heap.size,2,none⟩=some (.bool c.gone):=by simp
 have hple:=zBl l c.key;have HP:=fun w' (h:Below w.heap.size w w')=>hide (rY l b off cap c.key w' (gC h hl) (by omega));have hlt:fB l c.key=true->cU l c.key<l.length:=fun h=>by
  rcases Nat.lt_or_ge (cU l c.key) l.length with k|k
  ·exact k
  ·rw[fB,List.getElem?_eq_none k] at h;cases h
 unfold putL;generalize cU l c.key=p at *;generalize fB l c.key=fd at *;cases fd
 ·clear hlt;simp only[Bool.false_eq_true,if_false];go_enter Tryz.func171,Tryz.ntmps171;go_wp2_with fail;refine((HP _ hB).out).mono ?_;rintro e w1 ⟨rfl,hb⟩;replace hB:=aB hB (n_ _) hb;replace a0:=aA hb a0;replace a1:=aA hb a1;replace a2:=aA hb a2;have i0:(0:Int)<=(p:Int):=by omega
  have i1:(p:Int)<=(l.length:Int):=by omega
  have i2:(p:Int)<=(cap:Int):=by omega
  have i3:(l.length:Int)<=(cap:Int):=by omega
  have m0:=World.new_ne w1 _ a0;have m1:=World.new_ne w1 _ a1;have m2:=World.new_ne w1 _ a2;have HC:=hide (zT w1 b off cap p p l c (gC hB hl) (by omega) (by omega) (by omega) hn);go_wp2
  go_region_held3 (fun w'=>w'.cell? ⟨w.heap.size,0,none⟩=some (.string c.key)/\w'.cell? ⟨w.heap.size,1,none⟩=some (.string c.val)/\w'.cell? ⟨w.heap.size,2,none⟩=some (.bool c.gone)) (first|go_keep|exact⟨aA hb2 a0,aA hb2 a1,aA hb2 a2⟩) (first|(go_at_call 231;refine HC.out.mono ?_;rintro e w2 ⟨v,rfl,ho,hb2⟩;dsimp only))
  go_wp2
  all_goals
   go_ret;exact⟨v,rfl,dJ ho hB.size,aB hB (n_ _) hb2⟩
 ·have hlt':=hlt rfl;clear hlt;simp only[if_true];go_enter Tryz.func171,Tryz.ntmps171;go_wp2_with fail;refine((HP _ hB).out).mono ?_;rintro e w1 ⟨rfl,hb⟩;replace hB:=aB hB (n_ _) hb;replace a0:=aA hb a0;replace a1:=aA hb a1;replace a2:=aA hb a2;have i0:(0:Int)<=(p:Int):=by omega
  have i1:(p:Int)<=(l.length:Int):=by omega
  have i2:(p:Int)<=(cap:Int):=by omega
  have i3:(l.length:Int)<=(cap:Int):=by omega
  have i4:(0:Int)<=(p:Int)+1:=by omega
  have i5:(p:Int)+1<=(l.length:Int):=by omega
  have i6:(p:Int)+1<=(cap:Int):=by omega
  have m0:=World.new_ne w1 _ a0;have m1:=World.new_ne w1 _ a1;have m2:=World.new_ne w1 _ a2;have HC:=hide (zT w1 b off cap p (p+1) l c (gC hB hl) (by omega) (by omega) (by omega) hn);go_wp2
  go_region_held3 (fun w'=>w'.cell? ⟨w.heap.size,0,none⟩=some (.string c.key)/\w'.cell? ⟨w.heap.size,1,none⟩=some (.string c.val)/\w'.cell? ⟨w.heap.size,2,none⟩=some (.bool c.gone)) (first|go_keep|exact⟨aA hb2 a0,aA hb2 a1,aA hb2 a2⟩) (first|(go_at_call 231;refine HC.out.mono ?_;rintro e w2 ⟨v,rfl,ho,hb2⟩;dsimp only))
  go_wp2
  all_goals
   go_ret;exact⟨v,rfl,dJ ho hB.size,aB hB (n_ _) hb2⟩
theorem zL0 (c:Chg) (w:World):
  Calls p_ 171 #[.slice none 0 0,.agg #[.string c.key,.string c.val,.bool c.gone]] w fun e w'=>
   ∃ v,e=.returned v/\bO w' w.heap.size v [c]/\Below w.heap.size w w':=by
 have hB:=a_ w (o_ #[.string c.key,.string c.val,.bool c.gone] 133);have a0:(w.alloc (o_ #[.string c.key,.string c.val,.bool c.gone] 133)).cell? ⟨w.heap.size,0,none⟩=some (.string c.key):=by simp
 have a1:(w.alloc (o_ #[.string c.key,.string c.val,.bool c.gone] 133)).cell? ⟨w.heap.size,1,none⟩=some (.string c.val):=by simp
 have a2:(w.alloc (o_ #[.string c.key,.string c.val,.bool c.gone] 133)).cell? ⟨w.heap.size,2,none⟩=some (.bool c.gone):=by simp
 have HP:=fun w'=>hide (zAZ none 0 c.key w');go_enter Tryz.func171,Tryz.ntmps171;go_wp2_with fail;refine((HP _).out).mono ?_;rintro e w1 ⟨rfl,hb⟩;replace hB:=aB hB (n_ _) hb;replace a0:=aA hb a0;replace a1:=aA hb a1;replace a2:=aA hb a2;have m0:=World.new_ne w1 _ a0;have m1:=World.new_ne w1 _ a1;have m2:=World.new_ne w1 _ a2;have HC:=hide (zGx w1 c);go_wp2
 go_region_held3 (fun w'=>w'.cell? ⟨w.heap.size,0,none⟩=some (.string c.key)/\w'.cell? ⟨w.heap.size,1,none⟩=some (.string c.val)/\w'.cell? ⟨w.heap.size,2,none⟩=some (.bool c.gone)) (first|go_keep|exact⟨aA hb2 a0,aA hb2 a1,aA hb2 a2⟩) (first|(go_at_call 231;refine HC.out.mono ?_;rintro e w2 ⟨v,rfl,ho,hb2⟩;dsimp only))
 go_wp2
 all_goals
  go_ret;exact⟨v,rfl,dJ ho hB.size,aB hB (n_ _) hb2⟩
theorem zIA (l:List Chg) (b off cap:Nat) (key:ByteArray) (w:World) (hl:dG w b off l) (hn:l.length<=1000) (p:Nat) (hp:cU l key=p) (hf:fB l key=true) (hlt:p<l.length):
  Calls p_ 105 #[.slice (some ⟨b,off,none⟩) l.length cap,.string key] w fun e w'=>
   e=.returned (.tuple #[.agg #[.string l[p].key,.string l[p].val,.bool l[p].gone],.bool true])/\Below w.heap.size w w':=by
 have hB:=a_ w (o_ #[.string ⟨#[]⟩,v_ ⟨#[]⟩,Value.bool false] 133);have fz:=aQ w #[v_ ⟨#[]⟩,v_ ⟨#[]⟩,Value.bool false] 133;have r0:(w.alloc (o_ #[.string ⟨#[]⟩,v_ ⟨#[]⟩,Value.bool false] 133)).cell? ⟨w.heap.size,0,none⟩=some (.string ⟨#[]⟩):=by simp
 have r1:(w.alloc (o_ #[.string ⟨#[]⟩,v_ ⟨#[]⟩,Value.bool false] 133)).cell? ⟨w.heap.size,1,none⟩=some (.string ⟨#[]⟩):=by simp
 have r2:(w.alloc (o_ #[.string ⟨#[]⟩,v_ ⟨#[]⟩,Value.bool false] 133)).cell? ⟨w.heap.size,2,none⟩=some (.bool false):=by simp
 have h0:w.heap.size<(w.alloc (o_ #[.string ⟨#[]⟩,v_ ⟨#[]⟩,Value.bool false] 133)).heap.size:=by simp
 have HP:=fun w' (h:Below w.heap.size w w')=>hide (rY l b off cap key w' (gC h hl) (by omega));rw[hp,hf] at HP;clear hp hf;have i1:(p:Int)<(l.length:Int):=by omega
 go_enter Tryz.func105,Tryz.ntmps105;go_wp2_with fail;refine((HP _ hB).out).mono ?_;rintro e w1 ⟨rfl,hb⟩;replace hB:=aB hB (n_ _) hb;replace fz:=fun j=>aE hb h0 (fz j);replace r0:=aA hb r0;replace r1:=aA hb r1;replace r2:=aA hb r2;obtain⟨c0,c1,c2⟩:=gC hB hl p hlt;clear hb h0;go_wp2;exact bodyPost_ret (v:=.tuple #[.agg #[.string l[p].key,.string l[p].val,.bool l[p].gone],.bool true]) (by simp[results,Tryz.results105,go_sem,r0,r1,r2]) rfl ⟨rfl,((hB.setCell (n_ _) _).setCell (n_ _) _).setCell (n_ _) _⟩
theorem zHt (l:List Chg) (b off cap:Nat) (key:ByteArray) (w:World) (hl:dG w b off l) (hn:l.length<=1000) (hf:fB l key=false):
  Calls p_ 105 #[.slice (some ⟨b,off,none⟩) l.length cap,.string key] w fun e w'=>
   e=.returned (.tuple #[.agg #[.string ⟨#[]⟩,.string ⟨#[]⟩,.bool false],.bool false])/\Below w.heap.size w w':=by
 have hB:=a_ w (o_ #[.string ⟨#[]⟩,v_ ⟨#[]⟩,Value.bool false] 133);have fz:=aQ w #[v_ ⟨#[]⟩,v_ ⟨#[]⟩,Value.bool false] 133;have r0:(w.alloc (o_ #[.string ⟨#[]⟩,v_ ⟨#[]⟩,Value.bool false] 133)).cell? ⟨w.heap.size,0,none⟩=some (.string ⟨#[]⟩):=by simp
 have r1:(w.alloc (o_ #[.string ⟨#[]⟩,v_ ⟨#[]⟩,Value.bool false] 133)).cell? ⟨w.heap.size,1,none⟩=some (.string ⟨#[]⟩):=by simp
 have r2:(w.alloc (o_ #[.string ⟨#[]⟩,v_ ⟨#[]⟩,Value.bool false] 133)).cell? ⟨w.heap.size,2,none⟩=some (.bool false):=by simp
 have h0:w.heap.size<(w.alloc (o_ #[.string ⟨#[]⟩,v_ ⟨#[]⟩,Value.bool false] 133)).heap.size:=by simp
 have HP:=fun w' (h:Below w.heap.size w w')=>hide (rY l b off cap key w' (gC h hl) (by omega));rw[hf] at HP;clear hf;generalize cU l key=p at HP;go_enter Tryz.func105,Tryz.ntmps105;go_wp2_with fail;refine((HP _ hB).out).mono ?_;rintro e w1 ⟨rfl,hb⟩;replace hB:=aB hB (n_ _) hb;replace fz:=fun j=>aE hb h0 (fz j);replace r0:=aA hb r0;replace r1:=aA hb r1;replace r2:=aA hb r2;clear hb h0;go_wp2;exact bodyPost_ret (v:=.tuple #[.agg #[.string ⟨#[]⟩,.string ⟨#[]⟩,.bool false],.bool false]) (by simp[results,Tryz.results105,go_sem,r0,r1,r2]) rfl ⟨rfl,((hB.setCell (n_ _) _).setCell (n_ _) _).setCell (n_ _) _⟩
theorem zIY (ao:Option Addr) (cap:Nat) (key:ByteArray) (w:World):
  Calls p_ 105 #[.slice ao 0 cap,.string key] w fun e w'=>
   e=.returned (.tuple #[.agg #[.string ⟨#[]⟩,.string ⟨#[]⟩,.bool false],.bool false])/\Below w.heap.size w w':=by
 have hB:=a_ w (o_ #[.string ⟨#[]⟩,v_ ⟨#[]⟩,Value.bool false] 133);have fz:=aQ w #[v_ ⟨#[]⟩,v_ ⟨#[]⟩,Value.bool false] 133;have r0:(w.alloc (o_ #[.string ⟨#[]⟩,v_ ⟨#[]⟩,Value.bool false] 133)).cell? ⟨w.heap.size,0,none⟩=some (.string ⟨#[]⟩):=by simp
 have r1:(w.alloc (o_ #[.string ⟨#[]⟩,v_ ⟨#[]⟩,Value.bool false] 133)).cell? ⟨w.heap.size,1,none⟩=some (.string ⟨#[]⟩):=by simp
 have r2:(w.alloc (o_ #[.string ⟨#[]⟩,v_ ⟨#[]⟩,Value.bool false] 133)).cell? ⟨w.heap.size,2,none⟩=some (.bool false):=by simp
 have h0:w.heap.size<(w.alloc (o_ #[.string ⟨#[]⟩,v_ ⟨#[]⟩,Value.bool false] 133)).heap.size:=by simp
 have HP:=fun w' (_:True)=>hide (zAZ ao cap key w');go_enter Tryz.func105,Tryz.ntmps105;go_wp2_with fail;refine((HP _ trivial).out).mono ?_;rintro e w1 ⟨rfl,hb⟩;replace hB:=aB hB (n_ _) hb;replace fz:=fun j=>aE hb h0 (fz j);replace r0:=aA hb r0;replace r1:=aA hb r1;replace r2:=aA hb r2;clear hb h0;go_wp2;exact bodyPost_ret (v:=.tuple #[.agg #[.string ⟨#[]⟩,.string ⟨#[]⟩,.bool false],.bool false]) (by simp[results,Tryz.results105,go_sem,r0,r1,r2]) rfl ⟨rfl,((hB.setCell (n_ _) _).setCell (n_ _) _).setCell (n_ _) _⟩
end
end Go.Proofs.YtnboipekkahmnaaGreatDoor
namespace Go.Proofs
open Obj renaming cells→o_
open World renaming cell?_of_block→b_,cell?_setCell_other→t_,cell?_setCell_same→u_,ownsRow.lt→l_
open Go.RowKit.Below renaming heap_setCell→h_,refl→r_
open Nat renaming le_refl→n_
open Tryz renaming prog→p_
open Value renaming string→v_
open Go.Joins renaming below_alloc1→a_
section
open Go.Shelf
def Tryz.cloneC_ren:Go.Shelf.Ren:=⟨fun|41=>121|n=>n,fun|22=>36|23=>133|4=>4|n=>n,fun|n=>n⟩
theorem Tryz.cloneC:Go.Proofs.SlLaysE0.n41 p_ Tryz.cloneC_ren:={
 mixed:=by kernel_rfl
 f41:=⟨Tryz.f121.name,by decide,Tryz.func121.trans (congrArg some (by kernel_rfl))⟩
 t4:=Tryz.underlying4
 a4:=Tryz.isAgg4
 z4:=Tryz.sizeOf4
 v4:=Tryz.zeroValue4
 t22:=Tryz.underlying36
 a22:=Tryz.isAgg36
 z22:=Tryz.sizeOf36
 v22:=Tryz.zeroValue36 }
end
end Go.Proofs
namespace Go.Proofs.YtnboipekkahmnaaGreatDoor
open Obj renaming cells→o_
open World renaming cell?_of_block→b_,cell?_setCell_other→t_,cell?_setCell_same→u_,ownsRow.lt→l_
open Go.RowKit.Below renaming heap_setCell→h_,refl→r_
open Nat renaming le_refl→n_
open Tryz renaming prog→p_
open Value renaming string→v_
open Go.Joins renaming below_alloc1→a_
section
open Go.RowKit Go.Joins Go.Shelf Go.Lib Go.WideShapes
theorem uO (l:List Chg) (v:Value) (B:Nat) (w:World) (h:bO w B v l) (hl:l.length<=1000000):
  Calls p_ 121 #[v] w fun e w'=>∃ v',e=.returned v'/\bO w' w.heap.size v' l/\Below w.heap.size w w':=by
 obtain⟨i0,hi0,hz0,hz1,hz2⟩:=info_parts qS;rcases aX h with⟨rfl,h0⟩|⟨g,cap,rfl,_⟩
 ·refine(AnyE.slices_Clone_nil Tryz.cloneC 0 0 w).mono ?_;rintro e w' ⟨rfl,rfl⟩;have e:l=[]:=List.length_eq_zero_iff.1 h0;subst e;exact⟨_,rfl,World.ownsRow_nil _ _ _ _,r_ _ _⟩
 ·refine(AnyE.slices_Clone Tryz.cloneC i0 _ 3 40 hi0 hz0 hz1 hz2 rfl (by omega) Tryz.sizeOf133 g 0 l.length cap (cG l) w (tF l) (by unfold maxLen;omega) (by omega) (fun j u hj=>?_) (pF l)).mono ?_
  ·have:=World.ownsRow.cells h (g:=g) rfl j u hj;rw[Go.WideShapes.add_plain] at this;simpa using this
  ·rintro e w' ⟨v',rfl,ho,_,hb⟩;exact⟨v',rfl,ho,hb⟩
theorem zAB (l:List Chg) (c:Chg) (v:Value) (B:Nat) (w:World) (h:bO w B v l) (hn:l.length<=1000):
  Calls p_ 171 #[v,.agg #[.string c.key,.string c.val,.bool c.gone]] w fun e w'=>∃ g cap,e=.returned (.slice (some ⟨g,0,none⟩) (insL l c).length cap)/\bO w' w.heap.size (.slice (some ⟨g,0,none⟩) (insL l c).length cap) (insL l c)/\Below w.heap.size w w':=by
 have fin:∀ {w':World} {u:Value},bO w' w.heap.size u (insL l c)->∃ g cap,u=.slice (some ⟨g,0,none⟩) (insL l c).length cap:=fun ho=>by
  obtain⟨g,cap,e,_⟩:=zDr ho (zKt l c);exact⟨g,cap,e⟩
 rcases aX h with⟨rfl,h0⟩|⟨g,cap,rfl,_,_,hc,hm⟩
 ·have e:l=[]:=List.length_eq_zero_iff.1 h0;subst e;refine(zL0 c w).mono ?_;rintro e w' ⟨u,rfl,ho,hb⟩;obtain⟨g,cap,rfl⟩:=fin (u:=u) ho;exact⟨g,cap,rfl,ho,hb⟩
 ·have hch:dG w g 0 l:=eW l 0 fun j u hj=>by
   have:=World.ownsRow.cells h (g:=g) rfl j u hj;rwa [Go.WideShapes.add_plain] at this
  refine(zKw l g 0 cap c w hch hc (by unfold maxLen at hm;omega) hn).mono ?_;rintro e w' ⟨u,rfl,ho,hb⟩;rw[zLv] at ho;obtain⟨g2,cap2,rfl⟩:=fin (u:=u) ho;exact⟨g2,cap2,rfl,ho,hb⟩
theorem zLl (l:List (ByteArray×ByteArray)) (v:Value) (B:Nat) (w:World) (h:lL w B v l) (hl:l.length<=1000000):
  Calls p_ 130 #[v] w fun e w'=>∃ v',e=.returned v'/\lL w' w.heap.size v' l/\Below w.heap.size w w':=by
 obtain⟨i0,hi0,hz0,hz1,hz2⟩:=info_parts zBI;rcases aX h with⟨rfl,h0⟩|⟨g,cap,rfl,_⟩
 ·refine(AnyE.slices_Clone_nil Tryz.cloneS 0 0 w).mono ?_;rintro e w' ⟨rfl,rfl⟩;have e:l=[]:=List.length_eq_zero_iff.1 h0;subst e;exact⟨_,rfl,World.ownsRow_nil _ _ _ _,r_ _ _⟩
 ·refine(AnyE.slices_Clone Tryz.cloneS i0 _ 2 32 hi0 hz0 hz1 hz2 rfl (by omega) Tryz.sizeOf80 g 0 l.length cap (l.flatMap nN) w (pN nN 2 lW l) (by unfold maxLen;omega) (by omega) (fun j u hj=>?_) (zHp l)).mono ?_
  ·have:=World.ownsRow.cells h (g:=g) rfl j u hj;rw[Go.WideShapes.add_plain] at this;simpa using this
  ·rintro e w' ⟨v',rfl,ho,_,hb⟩;exact⟨v',rfl,ho,hb⟩
def eqSp (x y:ByteArray×ByteArray):Bool:=eqS x.1 y.1&&eqS x.2 y.2
theorem zNJ (x y:ByteArray×ByteArray):eqSp x y=true↔x=y:=by
 unfold eqSp;rw[Bool.and_eq_true,eV,eV];exact⟨fun ⟨a,b⟩=>Prod.ext a b,fun e=>by rw[e];exact⟨rfl,rfl⟩⟩
theorem zK5:EqlAt p_ 80 (fun x=>.agg (nN x).toArray) eqSp:=by
 refine⟨fun x y w=>?_,GuardAt.agg _ (by kernel_rfl)⟩;have u3:=Tryz.underlying9;have a3:=Tryz.isAgg9;have z3:=Tryz.sizeOf9;have hS:Tryz.prog.underlying 80=some (.struct (Tryz.prog.fieldsOf 80)):=by kernel_rfl
 have hp:Tryz.prog.stoodInHeld 80=false:=by kernel_rfl
 simp only[nN];rw[run_eql_struct,show(10000:Nat)=9999+1 from rfl,run_equalIn_agg w 9999 80 _ _ hS hp];simp only[Program.fieldsOf,Tryz.underlying80]
 go_simp
 by_cases h1:x.1.toList=y.1.toList<;>by_cases h2:x.2.toList=y.2.toList<;>simp[eqSp,eqS,h1,h2]
def zCr (l:List (ByteArray×ByteArray)) (s:ByteArray×ByteArray):Bool:=l.any fun y=>eqSp s y
theorem zGP (ao:Option Addr) (cap:Nat) (s:ByteArray×ByteArray) (w:World):
  Calls p_ 227 #[.slice ao 0 cap,.agg #[.string s.1,.string s.2]] w fun e w'=>e=.returned (.int .i64 (-1))/\Below w.heap.size w w':=by
 go_enter Tryz.func227,Tryz.ntmps227;go_wp2;refine wp_loop_rounds 1 ?_;rw[rounds_succ];go_wp2;go_ret;exact⟨rfl,a_ _ _⟩
theorem zB3 (ao:Option Addr) (cap:Nat) (s:ByteArray×ByteArray) (w:World):
  Calls p_ 165 #[.slice ao 0 cap,.agg #[.string s.1,.string s.2]] w fun e w'=>e=.returned (.bool false)/\Below w.heap.size w w':=by
 have hB:=a_ w (o_ #[.string s.1,.string s.2] 80);go_enter Tryz.func165,Tryz.ntmps165;go_wp2_with (go_at_call 227;refine(zGP _ _ s _).mono ?_;rintro e w1 ⟨rfl,hb⟩;replace hB:=aB hB (n_ _) hb)
 go_ret;exact⟨rfl,hB⟩
theorem zD7 (l:List (ByteArray×ByteArray)) (v:Value) (B:Nat) (s:ByteArray×ByteArray) (w:World) (h:lL w B v l):
  Calls p_ 165 #[v,.agg #[.string s.1,.string s.2]] w fun e w'=>e=.returned (.bool (zCr l s))/\Below w.heap.size w w':=by
 rcases aX h with⟨rfl,h0⟩|⟨g,cap,rfl,_,_,hc,hm⟩
 ·have e:l=[]:=List.length_eq_zero_iff.1 h0;subst e;exact zB3 _ _ s w
 ·have:=AnyQ.slices_Contains Tryz.containsS 2 Tryz.isAgg80 Tryz.sizeOf80 nN lW eqSp zK5 g 0 l.length cap l s w (n_ _) (by unfold maxLen at hm;omega) (fun j hj i u hu=>?_)
  ·rw[List.take_length] at this;exact this
  ·have e:l[j]! = l[j]:=by simp[hj]
   rw[e] at hu;have hi:i<2:=by
    rcases Nat.lt_or_ge i 2 with h'|h'
    ·exact h'
    ·rw[List.getElem?_eq_none (by rw[lW];exact h')] at hu;cases hu
   unfold lL at h;have:=(dU lW h j i hj hi).1;rw[Nat.zero_add,this];exact hu
def qB (l:List Chg) (key:ByteArray):Option Chg:=if fB l key then l[cU l key]? else none
theorem zJX (l:List Chg) (v:Value) (B:Nat) (key:ByteArray) (w:World) (h:bO w B v l) (hn:l.length<=1000):
  Calls p_ 105 #[v,.string key] w fun e w'=>(match qB l key with
   | some c=>e=.returned (.tuple #[.agg #[.string c.key,.string c.val,.bool c.gone],.bool true])
   | none=>e=.returned (.tuple #[.agg #[.string ⟨#[]⟩,.string ⟨#[]⟩,.bool false],.bool false]))/\Below w.heap.size w w':=by
 rcases aX h with⟨rfl,h0⟩|⟨g,cap,rfl,_,_,hc,hm⟩
 ·have e:l=[]:=List.length_eq_zero_iff.1 h0;subst e;exact zIY none 0 key w
 ·have hch:dG w g 0 l:=eW l 0 fun j u hj=>by
   have:=World.ownsRow.cells h (g:=g) rfl j u hj;rwa [Go.WideShapes.add_plain] at this
  unfold qB
  cases hf:fB l key with
  | false=>exact zHt l g 0 cap key w hch hn hf
  | true=>
   have hlt:cU l key<l.length:=by
    rcases Nat.lt_or_ge (cU l key) l.length with k|k
    ·exact k
    ·rw[fB,List.getElem?_eq_none k] at hf;cases hf
   rw[if_pos rfl,List.getElem?_eq_getElem hlt];exact zIA l g 0 cap key w hch hn _ rfl hf hlt
end
section
open Go.RowKit Go.Joins
theorem zE7 {B vb mb n:Nat} {now:Int} {D:DataW Value} {g:ByteArray->Value} {R:ByteArray->List Ver} (w:World) (h:VS w B vb mb now n D g R):
  Calls p_ 94 #[.pointer (some ⟨vb,0,none⟩)] w fun e w'=>e=.returned (.int .i64 now)/\w'=w:=by
 have c:=h.num;go_enter Tryz.func94,Tryz.ntmps94;go_wp2;go_ret;exact⟨rfl,rfl⟩
theorem zK4 {B vb mb n:Nat} {now:Int} {D:DataW Value} {g:ByteArray->Value} {R:ByteArray->List Ver} (key:ByteArray) (at_:Int) (w:World) (h:VS w B vb mb now n D g R) (hk:key.size<=maxLen) (hR:(R key).length<=1000000):
  Calls p_ 107 #[.pointer (some ⟨vb,0,none⟩),.string key,.int .i64 at_] w fun e w'=>e=.returned (.tuple #[.string (bE (R key) at_).1,.bool (bE (R key) at_).2])/\Below w.heap.size w w':=by
 have c:=h.mp;have hl:=h.looked hk;obtain⟨ao,cap,e,hI,_,_⟩:=nF (h.rows key);rw[e] at hl;have HI:=hide hI;clear hI e;generalize R key=vs at *;go_enter Tryz.func107,Tryz.ntmps107;go_wp2_with (go_at_call 169;refine(sZ ao cap vs at_ _ hR HI.out).mono ?_;rintro e w1 ⟨rfl,hb⟩)
 go_ret2;exact⟨rfl,hb⟩
end
section
open Go.RowKit Go.Joins Go.Shelf
attribute [local go_sem ↓] Go.wp_at_zero Go.wp_at_succ
theorem zLr {B vb mb n:Nat} {now:Int} {D:DataW Value} {g:ByteArray->Value} {R:ByteArray->List Ver} (w:World) (h:VS w B vb mb now n D g R):
  Calls p_ 62 #[.pointer (some ⟨vb,0,none⟩)] w fun e w'=>∃ wb,e=.returned (.pointer (some ⟨wb,0,none⟩))/\VW w' w.heap.size wb vb now (.slice none 0 0) (.slice none 0 0) [] []/\Below w.heap.size w w':=by
 have HV:=hide h;clear h;go_enter Tryz.func62,Tryz.ntmps62;go_wp2_with (go_at_call 94;refine(zE7 _ HV.out).mono ?_;rintro e w1 ⟨rfl,rfl⟩)
 go_ret;refine⟨_,rfl,⟨aC _ _ _ 0,aC _ _ _ 1,aC _ _ _ 2,aC _ _ _ 3,fun j=>aQ _ _ _ j,World.ownsRow_nil _ _ _ _,World.ownsRow_nil _ _ _ _,n_ _,by simp[Value.ownBlock],by simp[Value.ownBlock],fun k e=>by simp[Value.ownBlock] at e⟩,a_ _ _⟩
def cH (l:List Chg) (c:Chg):Nat:=if aD c=0 then if 12<(insL l c).length then 2 else 0 else aD c
def bG (l:List Chg) (c:Chg):List Chg:=if cH l c=0 then insL l c else l
def pK (w w':World) (B wb vb:Nat) (since:Int) (cv rv:Value) (chs:List Chg) (rds:List (ByteArray×ByteArray)):Prop:=∃ cv',VW w' B wb vb since cv' rv chs rds/\Below B w w'/\farW w w' wb cv rv cv' rv
theorem yS {w w':World} {B wb vb:Nat} {since:Int} {cv rv:Value} {chs:List Chg} {rds:List (ByteArray×ByteArray)} (h:VW w B wb vb since cv rv chs rds) (hB:B<=w.heap.size) (hb:Below w.heap.size w w'):pK w w' B wb vb since cv rv chs rds:=⟨cv,h.on hb,hb.mono hB,farW.on hb⟩
theorem zBF {w w1:World} {B wb vb:Nat} {since:Int} {cv rv cv':Value} {chs chs':List Chg} {rds:List (ByteArray×ByteArray)} (h:VW w B wb vb since cv rv chs rds) (hB:B<=w.heap.size) (hb:Below w.heap.size w w1) (ho:bO w1 w.heap.size cv' chs'):pK w (w1.setCell ⟨wb,2,none⟩ cv') B wb vb since cv rv chs' rds:=by
 have hf:∀ k,cv'.ownBlock=some k->w.heap.size<=k:=fun k e=>(l_ ho k e).1;refine⟨cv',(h.on hb).setC (dJ ho hB) (fun k e hin=>by have:=hf k e;have:=h.lt hin;omega),(hb.mono hB).setCell (p:=⟨wb,2,none⟩) h.lo _,fun j hj hn=>?_⟩;obtain⟨a,b⟩:=farW.setC (w:=w1) (wb:=wb) (cv:=cv) (rv:=rv) (cv':=cv') hf (u:=cv') j hj hn;exact⟨a.trans (hb.block j hj),b⟩
theorem zBg (c:Chg) {B wb vb:Nat} {since:Int} {cv rv:Value} {chs:List Chg} {rds:List (ByteArray×ByteArray)} (w:World) (h:VW w B wb vb since cv rv chs rds) (hB:B<=w.heap.size) (hn:chs.length<=100) (hk:c.key.size<=maxLen):
  Calls p_ 109 #[.pointer (some ⟨wb,0,none⟩),.agg #[.string c.key,.string c.val,.bool c.gone]] w fun e w'=>e=.returned (errV (cH chs c))/\pK w w' B wb vb since cv rv (bG chs c) rds:=by
 have HV:=hide h;have hB0:=a_ w (o_ #[.string c.key,.string c.val,.bool c.gone] 133);have a0:(w.alloc (o_ #[.string c.key,.string c.val,.bool c.gone] 133)).cell? ⟨w.heap.size,0,none⟩=some (.string c.key):=aC _ _ _ 0;have a1:(w.alloc (o_ #[.string c.key,.string c.val,.bool c.gone] 133)).cell? ⟨w.heap.size,1,none⟩=some (.string c.val):=aC _ _ _ 1;have a2:(w.alloc (o_ #[.string c.key,.string c.val,.bool c.gone] 133)).cell? ⟨w.heap.size,2,none⟩=some (.bool c.gone):=aC _ _ _ 2;have c2:=aA hB0 h.c2;have f2:=aE hB0 (h.lt (.inl rfl)) (h.soft 2);have hwb:=h.lt (k:=wb) (.inl rfl);have HB0:=hide hB0;clear h hB0;unfold bG;by_cases hf:aD c=0
 ·have HF:=hide hf;have hlen:=yP chs c;have hae:cH chs c=if 12<(insL chs c).length then 2 else 0:=if_pos hf;rw[hae];clear hf hae;by_cases h12:12<(insL chs c).length
  ·have h12':(12:Int)<((insL chs c).length:Int):=by omega
   rw[if_pos h12,if_neg (by decide)];have HP:=fun w1 (hb:Below w.heap.size w w1)=>hide (zAB chs c cv B w1 ((HV.out.on hb).chs) (by omega));generalize (insL chs c).length=m at *;go_enter Tryz.func109,Tryz.ntmps109;go_wp2_with (first
    | (go_at_call 170;refine(gB c _ hk).mono ?_;rintro e w1 ⟨rfl,hb1⟩;rw[HF.out];simp only[errV];have HB1:=hide (aB HB0.out (n_ _) hb1);replace a0:=aA hb1 a0;replace a1:=aA hb1 a1;replace a2:=aA hb1 a2;replace c2:=aA hb1 c2;clear hb1))
   go_region_held3 (fun w'=>w'.cell? ⟨w.heap.size,0,none⟩=some (.string c.key)/\w'.cell? ⟨w.heap.size,1,none⟩=some (.string c.val)/\w'.cell? ⟨w.heap.size,2,none⟩=some (.bool c.gone)/\w'.cell? ⟨wb,2,none⟩=some cv)
    (first|go_keep|exact⟨aA hb2 a0,aA hb2 a1,aA hb2 a2,aA hb2 c2⟩) (first|(go_at_call 171;refine(HP _ HB1.out.drew).out.mono ?_;rintro e w2 ⟨g,cap,rfl,ho,hb2'⟩;have hb2:=aB (r_ _ w1).drew (n_ _) hb2';clear hb2';dsimp only))
   all_goals
    go_wp2;go_ret;exact⟨rfl,yS HV.out hB (aB HB1.out (n_ _) hb2)⟩
  ·have h12':¬(12:Int)<((insL chs c).length:Int):=by omega
   rw[if_neg h12,if_pos rfl];have HP:=fun w1 (hb:Below w.heap.size w w1)=>hide (zAB chs c cv B w1 ((HV.out.on hb).chs) (by omega));generalize hl:insL chs c=l2 at *;clear hl;go_enter Tryz.func109,Tryz.ntmps109;go_wp2_with (first
    | (go_at_call 170;refine(gB c _ hk).mono ?_;rintro e w1 ⟨rfl,hb1⟩;rw[HF.out];simp only[errV];have HB1:=hide (aB HB0.out (n_ _) hb1);replace a0:=aA hb1 a0;replace a1:=aA hb1 a1;replace a2:=aA hb1 a2;replace c2:=aA hb1 c2;replace f2:=aE HB1.out hwb (HV.out.soft 2);clear hb1))
   go_region_held3 (fun w'=>w'.cell? ⟨w.heap.size,0,none⟩=some (.string c.key)/\w'.cell? ⟨w.heap.size,1,none⟩=some (.string c.val)/\w'.cell? ⟨w.heap.size,2,none⟩=some (.bool c.gone)/\w'.cell? ⟨wb,2,none⟩=some cv)
    (first|go_keep|exact⟨aA hb2 a0,aA hb2 a1,aA hb2 a2,aA hb2 c2⟩) (first|(go_at_call 171;refine(HP _ HB1.out.drew).out.mono ?_;rintro e w2 ⟨g,cap,rfl,ho,hb2'⟩;have hb2:=aB (r_ _ w1).drew (n_ _) hb2';clear hb2';dsimp only))
   all_goals
    have c2':=aA hb2 c2;have f2':=aE (aB HB1.out (n_ _) hb2) hwb (HV.out.soft 2);go_wp2;go_ret;exact⟨rfl,zBF HV.out hB (aB HB1.out (n_ _) hb2) (dJ ho HB1.out.size)⟩
 ·have hae:cH chs c=aD c:=if_neg hf;rw[hae,if_neg hf];generalize hfe:aD c=f at *;have HFE:=hide hfe;have he:errV f=.iface 114 (.int .i64 f):=by unfold errV;rw[if_neg hf]
  have HE:=hide he;clear hae hf hfe he;go_enter Tryz.func109,Tryz.ntmps109;go_wp2_with (first
   | (go_at_call 170;refine(gB c _ hk).mono ?_;rintro e w1 ⟨rfl,hb1⟩;rw[HFE.out,HE.out];have HB1:=hide (aB HB0.out (n_ _) hb1);clear hb1))
  go_ret;exact⟨by rw[HE.out];rfl,yS HV.out hB HB1.out⟩
theorem zKP (key val:ByteArray) {B wb vb:Nat} {since:Int} {cv rv:Value} {chs:List Chg} {rds:List (ByteArray×ByteArray)} (w:World) (h:VW w B wb vb since cv rv chs rds) (hB:B<=w.heap.size) (hn:chs.length<=100) (hk:key.size<=maxLen):
  Calls p_ 47 #[.pointer (some ⟨wb,0,none⟩),.string key,.string val] w fun e w'=>e=.returned (errV (cH chs ⟨key,val,false⟩))/\pK w w' B wb vb since cv rv (bG chs ⟨key,val,false⟩) rds:=by
 have HV:=hide h;clear h;go_enter Tryz.func47,Tryz.ntmps47;go_wp2_with (go_at_call 109;refine(zBg ⟨key,val,false⟩ _ HV.out hB hn hk).mono ?_;rintro e w1 ⟨rfl,ha⟩;have HA:=hide ha;clear ha)
 go_ret;exact⟨rfl,HA.out⟩
theorem zEO (key:ByteArray) {B wb vb:Nat} {since:Int} {cv rv:Value} {chs:List Chg} {rds:List (ByteArray×ByteArray)} (w:World) (h:VW w B wb vb since cv rv chs rds) (hB:B<=w.heap.size) (hn:chs.length<=100) (hk:key.size<=maxLen):
  Calls p_ 86 #[.pointer (some ⟨wb,0,none⟩),.string key] w fun e w'=>e=.returned (errV (cH chs ⟨key,⟨#[]⟩,true⟩))/\pK w w' B wb vb since cv rv (bG chs ⟨key,⟨#[]⟩,true⟩) rds:=by
 have HV:=hide h;clear h;go_enter Tryz.func86,Tryz.ntmps86;go_wp2_with (go_at_call 109;refine(zBg ⟨key,⟨#[]⟩,true⟩ _ HV.out hB hn hk).mono ?_;rintro e w1 ⟨rfl,ha⟩;have HA:=hide ha;clear ha)
 go_ret;exact⟨rfl,HA.out⟩
theorem rF {B wb vb:Nat} {since:Int} {cv rv:Value} {chs:List Chg} {rds:List (ByteArray×ByteArray)} (w:World) (h:VW w B wb vb since cv rv chs rds) (hn:chs.length<=100):
  Calls p_ 55 #[.pointer (some ⟨wb,0,none⟩)] w fun e w'=>∃ v,e=.returned v/\bO w' w.heap.size v chs/\Below w.heap.size w w':=by
 have HC:=hide h.chs;have c2:=h.c2;clear h;go_enter Tryz.func55,Tryz.ntmps55;go_wp2_with (go_at_call 121;refine(uO chs cv B _ HC.out (by omega)).mono ?_;rintro e w1 ⟨v,rfl,ho,hb⟩;have HO:=hide ho;clear ho)
 go_ret;exact⟨v,rfl,HO.out,hb⟩
theorem zJQ {B wb vb:Nat} {since:Int} {cv rv:Value} {chs:List Chg} {rds:List (ByteArray×ByteArray)} (w:World) (h:VW w B wb vb since cv rv chs rds) (hn:chs.length<=100):
  Calls p_ 173 #[.pointer (some ⟨wb,0,none⟩)] w fun e w'=>∃ v,e=.returned v/\bO w' w.heap.size v chs/\Below w.heap.size w w':=by
 have HV:=hide h;clear h;go_enter Tryz.func173,Tryz.ntmps173;go_wp2_with (go_at_call 55;refine(rF _ HV.out hn).mono ?_;rintro e w1 ⟨v,rfl,ho,hb⟩;have HO:=hide ho;clear ho)
 go_ret;exact⟨v,rfl,HO.out,hb⟩
theorem zIP {B wb vb:Nat} {since:Int} {cv rv:Value} {chs:List Chg} {rds:List (ByteArray×ByteArray)} (w:World) (h:VW w B wb vb since cv rv chs rds) (hn:rds.length<=100):
  Calls p_ 66 #[.pointer (some ⟨wb,0,none⟩)] w fun e w'=>∃ v,e=.returned v/\lL w' w.heap.size v rds/\Below w.heap.size w w':=by
 have HC:=hide h.rds;have c3:=h.c3;clear h;go_enter Tryz.func66,Tryz.ntmps66;go_wp2_with (go_at_call 130;refine(zLl rds rv B _ HC.out (by omega)).mono ?_;rintro e w1 ⟨v,rfl,ho,hb⟩;have HO:=hide ho;clear ho)
 go_ret;exact⟨v,rfl,HO.out,hb⟩
theorem zKy {B wb vb B2:Nat} {since:Int} {cv rv mv:Value} {chs mk:List Chg} {rds:List (ByteArray×ByteArray)} (w:World) (h:VW w B wb vb since cv rv chs rds) (hB:B<=w.heap.size) (hm:bO w B2 mv mk) (hn:mk.length<=100):
  Calls p_ 174 #[.pointer (some ⟨wb,0,none⟩),mv] w fun e w'=>e=.returned (.tuple #[])/\pK w w' B wb vb since cv rv mk rds:=by
 have HV:=hide h;have HM:=hide hm;have c2:=h.c2;have f2:=h.soft 2;have hwb:=h.lt (k:=wb) (.inl rfl);clear h hm;go_enter Tryz.func174,Tryz.ntmps174;go_wp2_with (go_at_call 121;refine(uO mk mv B2 _ HM.out (by omega)).mono ?_;rintro e w1 ⟨v,rfl,ho,hb⟩;have HO:=hide ho;obtain⟨va,vc,rfl⟩:=iQ ho;replace c2:=aA hb c2;replace f2:=aE hb hwb f2;clear ho)
 go_end0;exact⟨rfl,zBF HV.out hB hb HO.out⟩
end
section
open Go.RowKit Go.Joins
attribute [local go_sem ↓] Go.wp_at_zero Go.wp_at_succ
theorem zL6 (a b:ByteArray) (w:World):
  Calls p_ 164 #[.string a,.string b] w fun e w'=>e=.returned (.string (endS a b))/\w'=w:=by
 have hm:=fun (w:World) (ts:Array TypeId) (t:TypeId)=>Lib.run_min_strs (P:=p_) w ts t a b;go_enter Tryz.func164,Tryz.ntmps164;go_wp2
 all_goals
  go_ret;refine⟨?_,rfl⟩;simp_all [endS,nilS]
theorem uT (k:ByteArray) (w:World) (hk:k.size<=1000):
  Calls p_ 106 #[.string k] w fun e w'=>e=.returned (.agg #[.string k,.string (cX k)])/\Below w.heap.size w w':=by
 go_enter Tryz.func106,Tryz.ntmps106;go_wp2;exact bodyPost_ret (v:=.agg #[.string k,.string (k++⟨#[0]⟩)]) (by simp[results,Tryz.results106,go_sem]) rfl ⟨rfl,a_ _ _⟩
theorem zLA (af a_t bf bt:ByteArray) (w:World):
  Calls p_ 100 #[.agg #[.string af,.string a_t],.agg #[.string bf,.string bt]] w fun e w'=>e=.returned (.agg #[.string (Lib.maxS af bf),.string (endS a_t bt)])/\Below w.heap.size w w':=by
 have hm:=fun (w:World) (ts:Array TypeId) (t:TypeId)=>Lib.run_max_strs (P:=p_) w ts t af bf;go_enter Tryz.func100,Tryz.ntmps100;go_wp2
 go_region_held3 (fun w'=>w'.cell? ⟨w.heap.size,0,none⟩=some (.string af)/\w'.cell? ⟨w.heap.size,1,none⟩=some (.string a_t)/\w'.cell? ⟨w.heap.size+1,0,none⟩=some (.string bf)/\w'.cell? ⟨w.heap.size+1,1,none⟩=some (.string bt)) (go_keep) (first|(go_at_call 164;refine(zL6 _ _ _).mono ?_;rintro e w' ⟨rfl,rfl⟩))
 all_goals
  go_wp2;exact bodyPost_ret (v:=.agg #[.string (Lib.maxS af bf),.string (endS a_t bt)]) (by simp[results,Tryz.results100,go_sem]) rfl ⟨rfl,(below_alloc3 _ _ _ _).drew⟩
end
end Go.Proofs.YtnboipekkahmnaaGreatDoor
