import Derived.Test.YtnboipekkahmnaaGreatDoorS23
import Derived.Test.YtnboipekkahmnaaGreatDoorRows
set_option maxHeartbeats 8000000
set_option maxRecDepth 100000
namespace Go.Proofs.YtnboipekkahmnaaGreatDoor
open Obj renaming cells→o_
open World renaming cell?_of_block→b_,ownsRow.lt→l_
open Go.RowKit.Below renaming refl→r_
open Nat renaming le_refl→n_
open Go.Proofs.Tryz renaming prog→p_
open Go.Joins renaming below_alloc1→a_
section
open Go.RowKit Go.Joins
theorem zNv {l:Rws} {s:ByteArray×ByteArray}:zCr l s=true↔s∈l:=by
 unfold zCr;rw[List.any_eq_true];constructor
 ·rintro⟨y,hy,e⟩;rw[(zNJ s y).1 e];exact hy
 ·intro h;exact⟨s,h,(zNJ s s).2 rfl⟩
theorem zN0 {l:Rws} {s:ByteArray×ByteArray} (h:cZ l s=0):s∈gX l s:=by
 unfold cZ at h;unfold gX;cases e:zCr l s
 ·rw[e] at h;rw[if_neg (by decide)];by_cases h40:40<=l.length
  ·rw[if_neg (by decide),if_pos h40] at h;cases h
  ·rw[if_neg h40];simp
 ·rw[if_pos rfl];exact zNv.1 e
theorem zAw (l:Rws) (s:ByteArray×ByteArray):∀ x∈l,x∈gX l s:=fun x hx=>by
 unfold gX;split
 ·exact hx
 ·split
  ·exact hx
  ·exact List.mem_append_left _ hx
section
variable {P P':Rws}
theorem zEE (hP:bV P) (hP':bV P') (chs:List Chg) (rds:Rws) (s:ByteArray×ByteArray) {m:Nat} (hm:0<m) (ha:Agr (gX rds (rdS (aF P chs s) s m)) P P'):
  cZ rds (rdS (aF P' chs s) s m)=cZ rds (rdS (aF P chs s) s m)/\gX rds (rdS (aF P' chs s) s m)=gX rds (rdS (aF P chs s) s m)/\(cZ rds (rdS (aF P chs s) s m)=0->(aF P chs s).take m=(aF P' chs s).take m):=by
 by_cases h0:cZ rds (rdS (aF P chs s) s m)=0
 ·obtain⟨q1,q2⟩:=zNQ hP hP' chs s hm (ha _ (zN0 h0));rw[q2];exact⟨rfl,rfl,fun _=>q1⟩
 ·have hn:zCr rds (rdS (aF P chs s) s m)=false/\40<=rds.length:=by
   unfold cZ at h0;split at h0
   ·exact absurd rfl h0
   ·rename_i e;split at h0
    ·rename_i e2;exact⟨by simpa using e,e2⟩
    ·exact absurd rfl h0
  have hr:gX rds (rdS (aF P chs s) s m)=rds:=by
   unfold gX;rw[if_neg (by rw[hn.1];decide),if_pos hn.2]
  rw[hr] at ha;have hn':zCr rds (rdS (aF P' chs s) s m)=false:=by
   cases e:zCr rds (rdS (aF P' chs s) s m)
   ·rfl
   ·obtain⟨_,q2⟩:=zNQ hP' hP chs s hm fun key hk=>(ha _ (zNv.1 e) key hk).symm;rw[<-q2,hn.1] at e;cases e
  refine⟨?_,?_,fun h=>absurd h h0⟩
  ·unfold cZ;rw[hn',hn.1]
  ·unfold gX;rw[hn',hn.1,if_pos hn.2,if_pos hn.2]
theorem zNl (chs:List Chg) (rds:Rws) (key:ByteArray) (ha:Agr (getL chs rds key) P P'):getP chs rds P' key=getP chs rds P key:=by
 unfold getL at ha;unfold getP;split
 ·rename_i hk;rw[if_pos hk] at ha;split
  ·rfl
  ·rename_i e;rw[e] at ha;dsimp only at ha;by_cases h0:cZ rds (key,cX key)=0
   ·rw[if_pos h0,if_pos h0,ha _ (zN0 h0) key (by unfold hasS;rw[(jM _ _).2 (.inr rfl),zLn,(jM _ _).2 (.inr rfl)];simp)]
   ·rw[if_neg h0,if_neg h0]
 ·rfl
theorem zDK (chs:List Chg) (rds:Rws) (key:ByteArray):∀ x∈rds,x∈getL chs rds key:=fun x hx=>by
 unfold getL;split
 ·split
  ·exact hx
  ·exact zAw _ _ x hx
 ·exact hx
theorem tG (chs:List Chg) (rds:Rws) (name:ByteArray):∀ x∈rds,x∈bC chs rds name:=fun x hx=>by
 unfold bC;split
 ·exact zDK _ _ _ x hx
 ·exact hx
theorem zAP (chs:List Chg) (rds:Rws) (name:ByteArray) (ha:Agr (bC chs rds name) P P'):aN P' chs rds name=aN P chs rds name:=by
 unfold bC at ha;unfold aN;split
 ·rename_i h;rw[if_pos h] at ha;rw[zNl chs rds (queB name) ha]
 ·rfl
theorem zNN (chs:List Chg) (rds:Rws) (name:ByteArray) (n tries:Int) (ha:Agr (dQ P chs rds name n tries).2 P P'):dQ P' chs rds name n tries=dQ P chs rds name n tries:=by
 have hf:aN P' chs rds name=aN P chs rds name:=zAP chs rds name (ha.sub fun x hx=>by
  unfold dQ;split
  ·split
   ·exact hx
   ·exact zDK _ _ _ x hx
  ·exact hx)
 unfold dQ at ha ⊢;rw[hf];by_cases h1:(aN P chs rds name).2.2.2=0
 ·rw[if_pos h1] at ha ⊢;rw[if_pos h1];by_cases h2:n<0∨999999<n∨tries<1
  ·rw[if_pos h2,if_pos h2]
  ·rw[if_neg h2] at ha ⊢;rw[if_neg h2];rw[zNl chs _ _ ha]
 ·rw[if_neg h1,if_neg h1]
theorem zEx (chs:List Chg) (rds:Rws) (name:ByteArray) (n tries:Int):∀ x∈rds,x∈(dQ P chs rds name n tries).2:=fun x hx=>by
 unfold dQ;split
 ·split
  ·exact tG _ _ _ x hx
  ·exact zDK _ _ _ x (tG _ _ _ x hx)
 ·exact tG _ _ _ x hx
theorem zOx (chs:List Chg) (rds:Rws) (name:ByteArray) (n tries:Int) (ha:Agr (ackQ P chs rds name n tries).2.2 P P'):ackQ P' chs rds name n tries=ackQ P chs rds name n tries:=by
 have hh:=zNN chs rds name n tries (by
  unfold ackQ at ha;split at ha<;>exact ha)
 unfold ackQ;rw[hh]
theorem zOu (chs:List Chg) (rds:Rws) (name:ByteArray) (n tries u:Int) (ha:Agr (iZ P chs rds name n tries u).2.2 P P'):iZ P' chs rds name n tries u=iZ P chs rds name n tries u:=by
 have hh:=zNN chs rds name n tries (by
  unfold iZ at ha;split at ha
  ·split at ha<;>exact ha
  ·exact ha)
 unfold iZ;rw[hh]
theorem zOq (chs:List Chg) (rds:Rws) (name body:ByteArray) (u:Int) (ha:Agr (fN P chs rds name body u).2.2.2 P P'):fN P' chs rds name body u=fN P chs rds name body u:=by
 have hh:=zAP chs rds name (by
  unfold fN at ha;split at ha
  ·split at ha
   ·split at ha<;>exact ha
   ·exact ha
  ·exact ha)
 unfold fN;rw[hh]
theorem zN3 (chs:List Chg) (rds:Rws) (name:ByteArray) (tries:Int) (dead:ByteArray) (ha:Agr (fD P chs rds name tries dead).2.2 P P'):fD P' chs rds name tries dead=fD P chs rds name tries dead:=by
 have hh:=zAP chs rds name (ha.sub fun x hx=>by
  unfold fD;split
  ·split
   ·exact hx
   ·split
    ·exact hx
    ·split
     ·exact tG _ _ _ x hx
     ·exact tG _ _ _ x hx
  ·exact hx)
 unfold fD at ha ⊢;rw[hh];by_cases h1:qK (aN P chs rds name).2.2.2=0
 ·rw[if_pos h1] at ha ⊢;rw[if_pos h1];by_cases h2:eqS dead name=true
  ·rw[if_pos h2,if_pos h2]
  ·rw[if_neg h2] at ha ⊢;rw[if_neg h2];by_cases h3:dead.toList.isEmpty=true
   ·rw[if_pos h3,if_pos h3]
   ·rw[if_neg h3] at ha ⊢;rw[if_neg h3];have h4:=zAP chs (bC chs rds name) dead (by split at ha<;>exact ha);rw[h4]
 ·rw[if_neg h1,if_neg h1]
theorem zOg (chs:List Chg) (rds:Rws) (key dead body:ByteArray) (ha:Agr (iH P chs rds key dead body).2.2 P P'):iH P' chs rds key dead body=iH P chs rds key dead body:=by
 unfold iH at ha ⊢;by_cases h1:cH chs ⟨key,⟨#[]⟩,true⟩=0
 ·rw[if_pos h1] at ha ⊢;rw[if_pos h1];by_cases h2:nilS dead=true
  ·rw[if_pos h2,if_pos h2]
  ·rw[if_neg h2] at ha ⊢;rw[if_neg h2];have h4:=zAP (bG chs ⟨key,⟨#[]⟩,true⟩) rds dead (by split at ha<;>exact ha);rw[h4]
 ·rw[if_neg h1,if_neg h1]
theorem zDv (chs:List Chg) (rds:Rws) (key dead body:ByteArray):∀ x∈rds,x∈(iH P chs rds key dead body).2.2:=fun x hx=>by
 unfold iH;split
 ·split
  ·exact hx
  ·split
   ·exact tG _ _ _ x hx
   ·exact tG _ _ _ x hx
 ·exact hx
theorem zOa (hP:bV P) (hP':bV P') (chs:List Chg) (rds:Rws) (s:ByteArray×ByteArray) (ha:Agr (rR (aF P chs s) rds s) P P'):
  kT (aF P' chs s) rds s=kT (aF P chs s) rds s/\eE (aF P' chs s) rds s=eE (aF P chs s) rds s/\rR (aF P' chs s) rds s=rR (aF P chs s) rds s:=by
 obtain⟨q1,q2,q3⟩:=zEE hP hP' chs rds s (m:=1) (by decide) ha;unfold kT eE rR;rw[q1];refine⟨?_,?_,q2⟩
 ·by_cases h0:cZ rds (rdS (aF P chs s) s 1)=0
  ·rw[if_pos h0,if_pos h0];have h1:=q3 h0;cases hA:aF P chs s<;>cases hB:aF P' chs s<;>rw[hA,hB] at h1<;>simp at h1<;>rfl
  ·rw[if_neg h0,if_neg h0]
 ·by_cases h0:cZ rds (rdS (aF P chs s) s 1)=0
  ·rw[if_pos h0,if_pos h0];have h1:=q3 h0;cases hA:aF P chs s<;>cases hB:aF P' chs s<;>rw[hA,hB] at h1<;>simp at h1
   exact h1.symm
  ·rw[if_neg h0,if_neg h0]
theorem zAe (name:ByteArray) (tries:Int) (dead:ByteArray) (now u:Int):∀ (k:Nat) (chs:List Chg) (rds:Rws) (at_:ByteArray),∀ x∈rds,x∈(eO P name tries dead now u k chs rds at_).2.2
 | 0,chs,rds,at_=>fun x hx=>hx
 | k+1,chs,rds,at_=>fun x hx=>by
  have h1:x∈rR (aF P chs (at_,toB name)) rds (at_,toB name):=zAw _ _ x hx;unfold eO;dsimp only;split
  ·split
   ·split
    ·exact zAe name tries dead now u k _ _ _ x h1
    ·split
     ·exact h1
     ·split
      ·exact zAe name tries dead now u k _ _ _ x (zDv _ _ _ _ _ x h1)
      ·exact zDv _ _ _ _ _ x h1
   ·exact h1
  ·exact h1
theorem zER (hP:bV P) (hP':bV P') (name:ByteArray) (tries:Int) (dead:ByteArray) (now u:Int):∀ (k:Nat) (chs:List Chg) (rds:Rws) (at_:ByteArray),Agr (eO P name tries dead now u k chs rds at_).2.2 P P'->eO P' name tries dead now u k chs rds at_=eO P name tries dead now u k chs rds at_
 | 0,_,_,_,_=>rfl
 | k+1,chs,rds,at_,ha=>by
  have hs:∀ x∈rR (aF P chs (at_,toB name)) rds (at_,toB name),x∈(eO P name tries dead now u (k+1) chs rds at_).2.2:=fun x h1=>by
   unfold eO;dsimp only;split
   ·split
    ·split
     ·exact zAe name tries dead now u k _ _ _ x h1
     ·split
      ·exact h1
      ·split
       ·exact zAe name tries dead now u k _ _ _ x (zDv _ _ _ _ _ x h1)
       ·exact zDv _ _ _ _ _ x h1
    ·exact h1
   ·exact h1
  obtain⟨q1,q2,q3⟩:=zOa hP hP' chs rds (at_,toB name) (ha.sub hs);unfold eO at ha ⊢;dsimp only at ha ⊢;rw[q1,q2,q3];by_cases h1:kT (aF P chs (at_,toB name)) rds (at_,toB name)=0
  ·rw[if_pos h1] at ha ⊢;rw[if_pos h1];by_cases h2:(mOf (eE (aF P chs (at_,toB name)) rds (at_,toB name)).2 (numK (eE (aF P chs (at_,toB name)) rds (at_,toB name)).1)).2.2.2.2=0
   ·rw[if_pos h2] at ha ⊢;rw[if_pos h2];by_cases h3:now<(mOf (eE (aF P chs (at_,toB name)) rds (at_,toB name)).2 (numK (eE (aF P chs (at_,toB name)) rds (at_,toB name)).1)).2.2.1
    ·rw[if_pos h3] at ha ⊢;rw[if_pos h3];exact zER hP hP' name tries dead now u k _ _ _ ha
    ·rw[if_neg h3] at ha ⊢;rw[if_neg h3];split
     ·rfl
     ·rename_i h4;rw[if_neg h4] at ha;have hb:=zOg (P:=P) (P':=P') chs (rR (aF P chs (at_,toB name)) rds (at_,toB name)) (eE (aF P chs (at_,toB name)) rds (at_,toB name)).1 dead (mOf (eE (aF P chs (at_,toB name)) rds (at_,toB name)).2 (numK (eE (aF P chs (at_,toB name)) rds (at_,toB name)).1)).2.2.2.1 (ha.sub fun x hx=>by
       split
       ·exact zAe name tries dead now u k _ _ _ x hx
       ·exact hx)
      rw[hb];by_cases h5:(iH P chs (rR (aF P chs (at_,toB name)) rds (at_,toB name)) (eE (aF P chs (at_,toB name)) rds (at_,toB name)).1 dead (mOf (eE (aF P chs (at_,toB name)) rds (at_,toB name)).2 (numK (eE (aF P chs (at_,toB name)) rds (at_,toB name)).1)).2.2.2.1).1=0
      ·rw[if_pos h5] at ha ⊢;rw[if_pos h5];exact zER hP hP' name tries dead now u k _ _ _ ha
      ·rw[if_neg h5,if_neg h5]
   ·rw[if_neg h2,if_neg h2]
  ·rw[if_neg h1,if_neg h1]
theorem zNX (hP:bV P) (hP':bV P') (chs:List Chg) (rds:Rws) (name:ByteArray) (now long:Int) (ha:Agr (dK P chs rds name now long).2.2 P P'):dK P' chs rds name now long=dK P chs rds name now long:=by
 have hf:aN P' chs rds name=aN P chs rds name:=zAP chs rds name (ha.sub fun x hx=>by
  unfold dK;split
  ·split
   ·split
    ·exact zAe _ _ _ _ _ _ _ _ _ x hx
    ·exact zAe _ _ _ _ _ _ _ _ _ x hx
   ·exact hx
  ·exact hx)
 unfold dK at ha ⊢;rw[hf];by_cases h1:(aN P chs rds name).2.2.2=0
 ·rw[if_pos h1] at ha ⊢;rw[if_pos h1];by_cases h2:fC now=true/\fC long=true
  ·rw[if_pos h2] at ha ⊢;rw[if_pos h2];have ht:=zER hP hP' name (aN P chs rds name).2.1 (aN P chs rds name).2.2.1 now (now+long) 1000001 chs (bC chs rds name) (aZ name) (by split at ha<;>exact ha);rw[ht]
  ·rw[if_neg h2,if_neg h2]
 ·rw[if_neg h1,if_neg h1]
theorem zNO (hP:bV P) (hP':bV P') (chs:List Chg) (rds:Rws) (name:ByteArray) (ha:Agr (cY P chs rds name).2.2 P P'):cY P' chs rds name=cY P chs rds name:=by
 have hf:aN P' chs rds name=aN P chs rds name:=zAP chs rds name (ha.sub fun x hx=>by
  unfold cY;split
  ·split
   ·split
    ·exact zAw _ _ x hx
    ·exact zAw _ _ x hx
   ·exact zAw _ _ x hx
  ·exact hx)
 unfold cY at ha ⊢;rw[hf];by_cases h1:(aN P chs rds name).2.2.2=0
 ·rw[if_pos h1] at ha ⊢;rw[if_pos h1];obtain⟨q1,q2,q3⟩:=zEE hP hP' chs (bC chs rds name) (aZ name,toB name) (m:=53) (by decide) (by
   split at ha
   ·split at ha<;>exact ha
   ·exact ha)
  have e1:dL (aF P' chs (aZ name,toB name)) (bC chs rds name) (aZ name,toB name) 53=dL (aF P chs (aZ name,toB name)) (bC chs rds name) (aZ name,toB name) 53:=q1;have e2:eP (aF P' chs (aZ name,toB name)) (bC chs rds name) (aZ name,toB name) 53=eP (aF P chs (aZ name,toB name)) (bC chs rds name) (aZ name,toB name) 53:=q2;rw[e1,e2];by_cases h2:dL (aF P chs (aZ name,toB name)) (bC chs rds name) (aZ name,toB name) 53=0
  ·rw[if_pos h2,if_pos h2,q3 h2]
  ·rw[if_neg h2,if_neg h2]
 ·rw[if_neg h1,if_neg h1]
theorem zOr (hP:bV P) (hP':bV P') (chs:List Chg) (rds:Rws) (x:ActL) (ha:Agr (fY P chs rds x).2.2 P P'):fY P' chs rds x=fY P chs rds x:=by
 unfold fY at ha ⊢;by_cases k1:isK x zMK=true
 ·rw[if_pos k1] at ha ⊢;rw[if_pos k1,zN3 chs rds _ _ _ ha]
 rw[if_neg k1] at ha ⊢;rw[if_neg k1];by_cases k2:isK x zNb=true
 ·rw[if_pos k2] at ha ⊢;rw[if_pos k2,zOq chs rds _ _ _ ha]
 rw[if_neg k2] at ha ⊢;rw[if_neg k2];by_cases k3:isK x zLF=true
 ·rw[if_pos k3] at ha ⊢;rw[if_pos k3,zNX hP hP' chs rds _ _ _ ha]
 rw[if_neg k3] at ha ⊢;rw[if_neg k3];by_cases k4:isK x kAck=true
 ·rw[if_pos k4] at ha ⊢;rw[if_pos k4,zOx chs rds _ _ _ ha]
 rw[if_neg k4] at ha ⊢;rw[if_neg k4];by_cases k5:isK x zNj=true
 ·rw[if_pos k5] at ha ⊢;rw[if_pos k5,zOu chs rds _ _ _ _ ha]
 rw[if_neg k5] at ha ⊢;rw[if_neg k5];by_cases k6:isK x kPut=true
 ·rw[if_pos k6,if_pos k6]
 rw[if_neg k6] at ha ⊢;rw[if_neg k6];by_cases k7:isK x zMi=true
 ·rw[if_pos k7,if_pos k7]
 rw[if_neg k7] at ha ⊢;rw[if_neg k7];by_cases k8:isK x kGet=true
 ·rw[if_pos k8] at ha ⊢;rw[if_pos k8,zNl chs rds _ ha]
 rw[if_neg k8] at ha ⊢;rw[if_neg k8];by_cases k9:isK x zHz=true
 ·rw[if_pos k9] at ha ⊢;rw[if_pos k9,zNO hP hP' chs rds _ ha]
 rw[if_neg k9] at ha ⊢;rw[if_neg k9];by_cases hm:x.a<1
 ·unfold dL eP;rw[if_pos hm,if_pos hm,if_pos hm,if_pos hm];rfl
 ·have ha':Agr (eP (aF P chs (lK x)) rds (lK x) x.a) P P':=ha;unfold eP at ha';rw[if_neg hm] at ha';obtain⟨q1,q2,q3⟩:=zEE hP hP' chs rds (lK x) (m:=x.a.toNat) (by omega) ha';unfold dL eP;rw[if_neg hm,if_neg hm,if_neg hm,if_neg hm,q1,q2];by_cases h2:cZ rds (rdS (aF P chs (lK x)) (lK x) x.a.toNat)=0
  ·rw[if_pos h2,if_pos h2,q3 h2]
  ·rw[if_neg h2,if_neg h2]
end
theorem zOs {P:Rws} (chs:List Chg) (rds:Rws) (x:ActL):∀ y∈rds,y∈(fY P chs rds x).2.2:=fun y hy=>by
 unfold fY;split
 ·show y∈(fD P chs rds x.s x.a x.t).2.2;unfold fD;have h1:=tG chs rds x.s y hy;split
  ·split
   ·exact h1
   ·split
    ·exact h1
    ·split
     ·exact tG _ _ _ y h1
     ·exact tG _ _ _ y h1
  ·exact h1
 ·split
  ·show y∈(fN P chs rds x.s x.t x.a).2.2.2;unfold fN;have h1:=tG chs rds x.s y hy;split
   ·split
    ·split<;>exact h1
    ·exact h1
   ·exact h1
  ·split
   ·show y∈(dK P chs rds x.s x.a x.b).2.2;unfold dK;have h1:=tG chs rds x.s y hy;split
    ·split
     ·split
      ·exact zAe _ _ _ _ _ _ _ _ _ y h1
      ·exact zAe _ _ _ _ _ _ _ _ _ y h1
     ·exact h1
    ·exact h1
   ·split
    ·show y∈(ackQ P chs rds x.s x.a x.b).2.2;unfold ackQ;split<;>exact zEx _ _ _ _ _ y hy
    ·split
     ·show y∈(iZ P chs rds x.s x.a x.b x.c).2.2;unfold iZ;split
      ·split<;>exact zEx _ _ _ _ _ y hy
      ·exact zEx _ _ _ _ _ y hy
     ·split
      ·exact hy
      ·split
       ·exact hy
       ·split
        ·exact zDK _ _ _ y hy
        ·split
         ·show y∈(cY P chs rds x.s).2.2;unfold cY;have h1:=tG chs rds x.s y hy;split
          ·split
           ·split<;>exact zAw _ _ y h1
           ·exact zAw _ _ y h1
          ·exact h1
         ·show y∈eP (aF P chs (lK x)) rds (lK x) x.a;unfold eP;split
          ·exact hy
          ·exact zAw _ _ y hy
def xH (P:Rws) (a:List ByteArray×List Chg×Rws) (x:ActL):List ByteArray×List Chg×Rws:=(a.1++[(fY P a.2.1 a.2.2 x).1],(fY P a.2.1 a.2.2 x).2)
def runT (P:Rws) (l:List ActL):List ByteArray×List Chg×Rws:=l.foldl (xH P) ([],[],[])
theorem zNx (P:Rws) (l:List ActL) (x:ActL):runT P (l++[x])=xH P (runT P l) x:=by unfold runT;rw[List.foldl_append];rfl
theorem zNK {P:Rws}:∀ (l:List ActL) (a:List ByteArray×List Chg×Rws),∀ y∈a.2.2,y∈(l.foldl (xH P) a).2.2
 | [],_,_,h=>h
 | x::l,a,y,h=>zNK l (xH P a x) y (zOs _ _ x y h)
theorem zOE {P P':Rws} (hP:bV P) (hP':bV P') {l:List ActL} (ha:Agr (runT P l).2.2 P P'):runT P' l=runT P l:=by
 have aux:∀ (l:List ActL) (a:List ByteArray×List Chg×Rws),Agr (l.foldl (xH P) a).2.2 P P'->l.foldl (xH P') a=l.foldl (xH P) a:=by
  intro l
  induction l with
  | nil=>intro a _;rfl
  | cons x l ih=>
   intro a h;have h1:xH P' a x=xH P a x:=by
    have:=zOr hP hP' a.2.1 a.2.2 x (h.sub fun y hy=>zNK l (xH P a x) y hy);unfold xH;rw[this]
   rw[List.foldl_cons,List.foldl_cons,h1];exact ih _ h
 exact aux l _ ha
def zC1 (H:Nat->List Chg) (now:Nat) (D:jR):Prop:=
 (D.reads=true/\D.at_<=now/\∃ rds,runT (aS (H D.at_)) D.acts=(D.said,[],rds))∨
 (D.reads=false/\1<=D.at_/\D.at_<=now/\∃ chs rds,runT (aS (H (D.at_-1))) D.acts=(D.said,chs,rds)/\chs≠[]/\jW chs=0/\(aK (H (D.at_-1)) chs).length<=40/\chs.length<=12/\H D.at_=aK (H (D.at_-1)) chs)
structure Hs (H:Nat->List Chg) (p:PSt):Prop where
 h0:H 0=[]
 hn:H p.e.now=p.e.x.rows
 ses:∀ i v,p.e.ses i=some v->v.P=aS (H v.n)/\runT v.P (p.cur i).acts=((p.cur i).said,v.chs,v.rds)
 out:∀ D∈p.out,zC1 H p.e.now D
 wr:(p.out.filter fun D=>!D.reads).map (·.at_)=List.range' 1 p.e.now
theorem zC1.more {H H':Nat->List Chg} {now now':Nat} {D:jR} (h:zC1 H now D) (hl:now<=now') (he:∀ n,n<=now->H' n=H n):zC1 H' now' D:=by
 rcases h with⟨a,b,c⟩|⟨a,b,c,d⟩
 ·exact .inl ⟨a,by omega,by rw[he _ b];exact c⟩
 ·exact .inr ⟨a,b,by omega,by rw[he _ c,he (D.at_-1) (by omega)];exact d⟩
theorem Hs.same {H:Nat->List Chg} {p p':PSt} (h:Hs H p) (h1:p'.e.now=p.e.now) (h2:p'.e.x.rows=p.e.x.rows) (h3:p'.out=p.out)
  (h4:∀ i v,p'.e.ses i=some v->v.P=aS (H v.n)/\runT v.P (p'.cur i).acts=((p'.cur i).said,v.chs,v.rds)):Hs H p':=
 ⟨h.h0,by rw[h1,h2];exact h.hn,h4,by rw[h3,h1];exact h.out,by rw[h3,h1];exact h.wr⟩
theorem zDJ {s:ESt} {i j:Nat} {v:VwL} (h:(endE s i).ses j=some v):s.ses j=some v:=zBn h
theorem zN8 {s:ESt} {v:VwL} (ok:EOk s) (hv:VOk s v) (hcl:lC s.ds v.rds v.n=true):Agr v.rds v.P (aS s.x.rows):=fun sp hs key hk=>by
 refine(hv.sem key fun d hd hn hkd=>?_).symm;rw[zBW ok.rd,List.all_eq_true] at hcl;have h1:=hcl d (List.mem_filter.2 ⟨hd,by simpa using hn⟩);have h2:zLM v.rds d=true:=by
  unfold zLM;rw[List.any_eq_true];exact⟨key,hkd,List.any_eq_true.2 ⟨sp,hs,hk⟩⟩
 rw[h2] at h1;cases h1
theorem Hs.com {H:Nat->List Chg} {p:PSt} (h:Hs H p) (hf:Fit p.e 120) {i:Nat} (hi:i<4) {v:VwL} (hv:p.e.ses i=some v):
  ((comE p.e i).1.2≠0/\Hs H ⟨(comE p.e i).2,p.cur,p.out⟩)∨
  ((comE p.e i).1.2=0/\∃ H',(∀ n,n<=p.e.now->H' n=H n)/\Hs H' ⟨(comE p.e i).2,setP p.cur i { p.cur i with at_:=(comE p.e i).1.1,reads:=v.chs.isEmpty },p.out++[{ p.cur i with at_:=(comE p.e i).1.1,reads:=v.chs.isEmpty }]⟩):=by
 obtain⟨hP,hrun⟩:=h.ses i v hv;have ho:=hf.ok.ses i v hv;by_cases hch:v.chs=[]
 ·right;have e:comE p.e i=((v.n,0),endE p.e i):=by
   unfold comE;rw[hv];dsimp only;rw[if_pos hch]
  rw[e];refine⟨rfl,H,fun _ _=>rfl,h.h0,h.hn,fun j u hj=>?_,fun D hD=>?_,?_⟩
  ·have hj':=zDJ hj;have hne:j≠i:=fun e=>by
    subst e;have:(endE p.e j).ses j=none:=hE _ _ _;have hj2:(endE p.e j).ses j=some u:=hj;rw[this] at hj2;cases hj2
   show u.P=_/\runT u.P (setP p.cur i _ j).acts=((setP p.cur i _ j).said,_,_);rw[iY _ hne];exact h.ses j u hj'
  ·rcases List.mem_append.1 hD with hD|hD
   ·exact h.out D hD
   ·rw[List.mem_singleton.1 hD];left;refine⟨by rw[hch];rfl,ho.lo,v.rds,?_⟩;show runT (aS (H v.n)) (p.cur i).acts=((p.cur i).said,[],v.rds);rw[<-hP,hrun,hch]
  ·show List.map jR.at_ (List.filter (fun D:jR=>!D.reads) (p.out++[_]))=_;rw[List.filter_append,hch];have h9:=h.wr;simp only[List.filter_cons,List.filter_nil,List.isEmpty_nil,Bool.not_true,Bool.false_eq_true,if_false,List.append_nil];exact h9
 ·cases hcl:lC p.e.ds v.rds v.n
  ·left;have e:comE p.e i=((0,9),endE p.e i):=by
    unfold comE;rw[hv];dsimp only;rw[if_neg hch,if_pos hcl]
   rw[e];exact⟨by show(9:Nat)≠0;decide,h.same rfl rfl rfl fun j u hj=>h.ses j u (zDJ hj)⟩
  ·have n1:=(hf.ok.g.never hf.left v.chs).1;have hcm:=(hf.ok.g.commit v.chs).2;by_cases hz:(comR p.e.x v.chs).1=0
   ·right;have e:comE p.e i=((p.e.now+1,0),endE (addE p.e v.chs) i):=by
     unfold comE;rw[hv];dsimp only;rw[if_neg hch,if_neg (by rw[hcl];decide),if_neg (by rw[hz];decide)]
    have hcF:comF p.e.x v.chs=0:=by rw[<-n1];exact hz
    obtain⟨c1,c2,c3,c4⟩:=tU hcF;have hrows:(comR p.e.x v.chs).2.rows=aK p.e.x.rows v.chs:=by
     rcases hcm with⟨_,_,_,e,_⟩|⟨_,e,_⟩|⟨a,_⟩
     ·exact e
     ·exact absurd hcF e
     ·rw[hz] at a;cases a
    have hd:jW v.chs=0:=by
     unfold jW;rw[if_neg (by omega)];exact c2
    rw[e];refine⟨rfl,fun n=>if n=p.e.now+1 then aK p.e.x.rows v.chs else H n,fun n hn=>if_neg (by omega),?_,?_,fun j u hj=>?_,fun D hD=>?_,?_⟩
    ·rw[if_neg (by omega)];exact h.h0
    ·show(if p.e.now+1=p.e.now+1 then _ else _)=(comR p.e.x v.chs).2.rows;rw[if_pos rfl,hrows]
    ·have hj':p.e.ses j=some u:=zDJ (s:=addE p.e v.chs) hj;have hne:j≠i:=fun e=>by
      subst e;have:(endE (addE p.e v.chs) j).ses j=none:=hE _ _ _;have hj2:(endE (addE p.e v.chs) j).ses j=some u:=hj;rw[this] at hj2;cases hj2
     have hu:=(hf.ok.ses j u hj').lo;show u.P=aS (if u.n=p.e.now+1 then _ else _)/\runT u.P (setP p.cur i _ j).acts=((setP p.cur i _ j).said,_,_);rw[iY _ hne,if_neg (by omega)];exact h.ses j u hj'
    ·rcases List.mem_append.1 hD with hD|hD
     ·exact(h.out D hD).more (Nat.le_succ _) fun n hn=>if_neg (by omega)
     ·rw[List.mem_singleton.1 hD];right;have hag:Agr (runT v.P (p.cur i).acts).2.2 v.P (aS p.e.x.rows):=by
       rw[hrun];exact zN8 hf.ok ho hcl
      have hr2:=zOE ho.ov.rise (oY hf.ok.fine.2) hag;refine⟨by cases hc:v.chs with|nil=>exact absurd hc hch|cons a b=>rfl,Nat.succ_pos _,n_ _,v.chs,v.rds,?_,hch,hd,?_,c1,?_⟩
      ·show runT (aS (if p.e.now+1-1=p.e.now+1 then _ else H (p.e.now+1-1))) (p.cur i).acts=((p.cur i).said,v.chs,v.rds);rw[if_neg (by omega),Nat.add_sub_cancel,h.hn,hr2,hrun]
      ·show(aK (if p.e.now+1-1=p.e.now+1 then _ else H (p.e.now+1-1)) v.chs).length<=40;rw[if_neg (by omega),Nat.add_sub_cancel,h.hn];exact c3
      ·show(if p.e.now+1=p.e.now+1 then _ else _)=aK (if p.e.now+1-1=p.e.now+1 then _ else H (p.e.now+1-1)) v.chs;rw[if_pos rfl,if_neg (by omega),Nat.add_sub_cancel,h.hn]
    ·show List.map jR.at_ (List.filter (fun D:jR=>!D.reads) (p.out++[_]))=List.range' 1 (p.e.now+1);have hne:v.chs.isEmpty=false:=by cases hc:v.chs with|nil=>exact absurd hc hch|cons a b=>rfl
     rw[List.filter_append,List.map_append,h.wr,hne,List.range'_1_concat];simp[Nat.add_comm]
   ·left;have e:comE p.e i=((0,(comR p.e.x v.chs).1),{ p.e with x:=(comR p.e.x v.chs).2 }):=by
     unfold comE;rw[hv];dsimp only;rw[if_neg hch,if_neg (by rw[hcl];decide),if_pos hz]
    have hx:(comR p.e.x v.chs).2=p.e.x:=by
     rcases hcm with⟨a,_⟩|⟨_,_,c⟩|⟨a,b,_⟩
     ·exact absurd a hz
     ·exact c
     ·rw[n1,b] at a;cases a
    rw[e];exact⟨hz,h.same rfl (by show(comR p.e.x v.chs).2.rows=_;rw[hx]) rfl h.ses⟩
theorem Hs.ply {H:Nat->List Chg} {p:PSt} (h:Hs H p) (hf:Fit p.e 120) (x:ActL):∃ H',(∀ n,n<=p.e.now->H' n=H n)/\Hs H' (plyP p x):=by
 have hi:=zFf x;unfold plyP;dsimp only;split
 ·split
  ·refine⟨H,fun _ _=>rfl,h.same rfl rfl rfl fun j v hj=>?_⟩;by_cases e:j=sesX x
   ·subst e;have hj':setS p.e.ses (sesX x) (some ⟨aS p.e.x.rows,p.e.now,[],[]⟩) (sesX x)=some v:=hj;rw[hE] at hj';cases hj';refine⟨by rw[h.hn],?_⟩;show runT _ (setP p.cur (sesX x) noD (sesX x)).acts=((setP p.cur (sesX x) noD (sesX x)).said,[],[]);rw[kN];rfl
   ·have hj':setS p.e.ses (sesX x) (some ⟨aS p.e.x.rows,p.e.now,[],[]⟩) j=some v:=hj;rw[hU _ e] at hj';show v.P=_/\runT v.P (setP p.cur (sesX x) noD j).acts=((setP p.cur (sesX x) noD j).said,_,_);rw[iY _ e];exact h.ses j v hj'
  ·exact⟨H,fun _ _=>rfl,h⟩
 ·split
  ·split
   ·exact⟨H,fun _ _=>rfl,h⟩
   ·rename_i v hv;rcases h.com hf hi hv with⟨h0,h1⟩|⟨h0,H',h1,h2⟩
    ·rw[if_neg h0];exact⟨H,fun _ _=>rfl,h1⟩
    ·rw[if_pos h0];exact⟨H',h1,h2⟩
  ·split
   ·refine⟨H,fun _ _=>rfl,?_⟩;show Hs H ⟨(dS p.e (sesX x)).2,p.cur,p.out⟩;unfold dS;split
    ·exact h
    ·exact h.same rfl rfl rfl fun j u hj=>h.ses j u (zDJ hj)
   ·split
    ·exact⟨H,fun _ _=>rfl,h.same rfl rfl rfl h.ses⟩
    ·split
     ·exact⟨H,fun _ _=>rfl,h.same rfl hf.ok.g.chk.2.1 rfl h.ses⟩
     ·split
      ·exact⟨H,fun _ _=>rfl,h⟩
      ·rename_i v hv;obtain⟨hP,hrun⟩:=h.ses (sesX x) v hv;refine⟨H,fun _ _=>rfl,h.same rfl rfl rfl fun j u hj=>?_⟩;by_cases e:j=sesX x
       ·subst e;have hj':setS p.e.ses (sesX x) (some ⟨v.P,v.n,(fY v.P v.chs v.rds x).2.1,(fY v.P v.chs v.rds x).2.2⟩) (sesX x)=some u:=hj;rw[hE] at hj';cases hj';refine⟨hP,?_⟩;show runT v.P (setP p.cur (sesX x) _ (sesX x)).acts=((setP p.cur (sesX x) _ (sesX x)).said,_,_);rw[kN];show runT v.P ((p.cur (sesX x)).acts++[x])=_;rw[zNx,hrun];rfl
       ·have hj':setS p.e.ses (sesX x) _ j=some u:=hj;rw[hU _ e] at hj';show u.P=_/\runT u.P (setP p.cur (sesX x) _ j).acts=((setP p.cur (sesX x) _ j).said,_,_);rw[iY _ e];exact h.ses j u hj'
theorem Hs.play {s:ESt} (hf:Fit s 120) (hr:s.x.rows=[]) (hn:s.now=0) (hs:∀ i,s.ses i=none) (l:List ActL):∃ H,Hs H (hO s l):=by
 have aux:∀ (l:List ActL) (p:PSt),Fit p.e 120->(∃ H,Hs H p)->∃ H,Hs H (l.foldl plyP p):=by
  intro l
  induction l with
  | nil=>intro p _ h;exact h
  | cons x l ih=>
   intro p hf ⟨H,h⟩;obtain⟨H',_,h'⟩:=h.ply hf x;exact ih (plyP p x) (hf.ply x).1 ⟨H',h'⟩
 refine aux l ⟨s,fun _=>noD,[]⟩ hf ⟨fun _=>[],rfl,by rw[hr],fun i v hv=>?_,fun D hD=>absurd hD List.not_mem_nil,by rw[hn];rfl⟩;have hv':s.ses i=some v:=hv;rw[hs i] at hv';cases hv'
end
section
open Go.ChangeShapes Go.WideShapes Go.ChangeAt Go.RowKit
theorem Tryz.own:ownKnob Tryz.prog.godebug=none:=by kernel_rfl
theorem Tryz.laidOut:laidOutB p_=true:=by kernel_rfl
theorem yO {H:Type} {enc:TypeId×Value->H} {P:Program} (hl:laidOutB P=true) {W W':World} (hb:Below W.heap.size W W'):
  ∀ (ts:List TypeId) (vs:List Value) (ds:List (DataW H)) (ps:List MemPlace),(∀ t∈ts,P.readableRec t=true/\t<P.types.size)->
   DataW.TrodAll enc P W 0 (fun _=>true) true ts vs ds ps->(∀ x∈ps,x.block<W.heap.size)->
   DataW.TrodAll enc P W' 0 (fun b=>decide (b<W.heap.size)) true ts vs ds ps
 | [],vs,ds,ps,_,h,_=>by
  obtain⟨rfl,rfl,rfl⟩:=trodAll_nil h;exact trodAll_mk0
 | t::ts,vs,ds,ps,hr,h,hlt=>by
  obtain⟨v,vs',d,ds',p,q,rfl,rfl,rfl,h0,r0⟩:=trodAll_cons h;exact trodAll_cons_mk (Below.trod hl (hr t (by simp)).1 (hr t (by simp)).2 h0 hb (fun x hx=>hlt x (by simp[hx])))
   (yO hl hb ts vs' ds' q (fun t' ht=>hr t' (by simp[ht])) r0 (fun x hx=>hlt x (by simp[hx])))
theorem zKX {H:Type} {enc:TypeId×Value->H} {P:Program} {f:Func} {s:ChangeSpec} {tb:TypeId} {W W':World} {args:Array Value} {ds gs:List (DataW H)} {before:List MemPlace}
  (hl:laidOutB P=true) (hrt:f.resultTypes=#[tb]) (htb:P.underlying tb=some .bool) (hv:s.vars=[])
  (hrd:∀ t∈f.params.toList,P.readableRec t=true/\t<P.types.size)
  (hW:DataW.Whole enc P f.params.toList s.vars false W args.toList ds gs before) (hs:s.fn H (ds++gs)={ results:=[.lit (.bool true)],args:=ds }) (hb:Below W.heap.size W W'):
  s.post enc P f false true false false W args (.bool true) W':=by
 have hlt:∀ x∈before,x.block<W.heap.size:=fun x hx=>hW.lt x hx;have hW':=hW;obtain⟨p,q,hA,hV,rfl,_,_⟩:=hW;rw[hv] at hV;obtain⟨rfl,rfl⟩:=trodVars_none hV;refine⟨ds,[],p++[],[],p,[],hW',?_,?_,?_,hb.frame _,fun h=>by cases h⟩
 ·rw[hs,hrt];exact trodAll_mk1 (shut_bool htb true)
 ·rw[hs];exact yO hl hb _ _ _ _ hrd hA (fun x hx=>hlt x (by simp[hx]))
 ·rw[hs,hv];rfl
end
section
open Go.ChangeShapes Go.WideShapes Go.ChangeAt Go.RowKit Go.Joins Go.Deep
def zOH (w:World) (b off:Nat) (l:List ByteArray):Prop:=∀ i (h:i<l.length),w.cell? ⟨b,off+i,none⟩=some (.string l[i])
def zNM (w:World) (ao:Option Addr) (l:List ByteArray):Prop:=l=[]∨∃ b off,ao=some ⟨b,off,none⟩/\zOH w b off l
end
section
open Go.RowKit Go.Joins Go.Shelf
attribute [local go_sem ↓] Go.wp_at_zero Go.wp_at_succ
theorem zNP (P:Rws) (l:List ActL):(runT P l).1.length=l.length:=by
 have aux:∀ (l:List ActL) (a:List ByteArray×List Chg×Rws),(l.foldl (xH P) a).1.length=a.1.length+l.length:=by
  intro l
  induction l with
  | nil=>intro a;rfl
  | cons x l ih=>
   intro a;rw[List.foldl_cons,ih,List.length_cons];show(a.1++[_]).length+l.length=_;rw[List.length_append,List.length_singleton];omega
 have:=aux l ([],[],[]);rw[List.length_nil,Nat.zero_add] at this;exact this
theorem zOl (P:Rws) (l:List ActL):∀ (a:List ByteArray×List Chg×Rws),∃ r,(l.foldl (xH P) a).1=a.1++r:=by
 induction l with
 | nil=>intro a;exact⟨[],(List.append_nil _).symm⟩
 | cons x l ih=>
  intro a;obtain⟨r,hr⟩:=ih (xH P a x);refine⟨[(fY P a.2.1 a.2.2 x).1]++r,?_⟩;rw[List.foldl_cons,hr];show(a.1++[_])++r=_;rw[List.append_assoc]
theorem zOD (P:Rws) (l:List ActL) {k:Nat} (hk:k<l.length):(runT P l).1[k]?=some (fY P (runT P (l.take k)).2.1 (runT P (l.take k)).2.2 l[k]).1:=by
 have e:l=l.take k++([l[k]]++l.drop (k+1)):=by
  rw[<-List.append_assoc,<-List.take_succ_eq_append_getElem hk,List.take_append_drop]
 have h1:runT P l=(l.drop (k+1)).foldl (xH P) (xH P (runT P (l.take k)) l[k]):=by
  conv=>lhs;rw[e]
  unfold runT;rw[List.foldl_append,List.foldl_append];rfl
 obtain⟨r,hr⟩:=zOl P (l.drop (k+1)) (xH P (runT P (l.take k)) l[k]);rw[h1,hr];have hl:(runT P (l.take k)).1.length=k:=by rw[zNP,List.length_take];omega
 show((runT P (l.take k)).1++[_]++r)[k]?=_;rw[List.append_assoc,List.getElem?_append_right (by omega),hl,Nat.sub_self];rfl
def zI4 (chs rows:List Chg):List Chg:=if chs=[] then rows else aK rows chs
structure SoI (s s':ESt) (v:VwL):Prop where
 x:s'.x=s.x
 now:s'.now=s.now
 ds:s'.ds=s.ds
 c:s'.c=s.c
 v:s'.ses 0=some v
 o:∀ j,j≠0->s'.ses j=none
theorem SoI.act {s s':ESt} {v:VwL} (h:SoI s s' v) (chs:List Chg) (rds:Rws):SoI s (jU s' 0 v chs rds) ⟨v.P,v.n,chs,rds⟩:=
 ⟨h.x,h.now,h.ds,h.c,zHj _ _ _ _ _,fun j hj=>(hU _ hj).trans (h.o j hj)⟩
theorem SoI.com {s s':ESt} {v:VwL} (h:SoI s s' v) (hf:Fit s' 120) (hn:v.n=s.now) {at_:Nat} (hc:(v.chs=[]/\at_=s.now)∨(v.chs≠[]/\at_=s.now+1/\jW v.chs=0/\v.chs.length<=12/\(aK s.x.rows v.chs).length<=40)):
  (comE s' 0).1=(at_,0)/\(∀ i,(comE s' 0).2.ses i=none)/\(comE s' 0).2.now=at_/\(comE s' 0).2.x.rows=zI4 v.chs s.x.rows/\(comE s' 0).2.c+s.now=s.c+at_:=by
 unfold zI4;have hall:∀ (t:ESt),t.ses=s'.ses->∀ i,(endE t 0).ses i=none:=fun t ht i=>by
  show setS t.ses 0 none i=none;by_cases e:i=0
  ·subst e;exact hE _ _ _
  ·rw[hU _ e,ht];exact h.o i e
 rcases hc with⟨c1,c2⟩|⟨c1,c2,c3,c4,c5⟩
 ·have e:comE s' 0=((v.n,0),endE s' 0):=by
   unfold comE;rw[h.v];dsimp only;rw[if_pos c1]
  rw[e,if_pos c1];exact⟨by rw[hn,c2],hall s' rfl,by show s'.now=_;rw[h.now,c2],by show s'.x.rows=_;rw[h.x],by show s'.c+s.now=_;rw[h.c,c2]⟩
 ·have hcl:lC s'.ds v.rds v.n=true:=by
   rw[zBW hf.ok.rd];have:(s'.ds.filter fun d=>decide ((v.n:Int)<d.n))=[]:=by
    rw[List.filter_eq_nil_iff];intro d hd;have:=hf.ok.dn d hd;rw[hn];have:=h.now;simp;omega
   rw[this];rfl
  have n1:=(hf.ok.g.never hf.left v.chs).1;have hcm:=(hf.ok.g.commit v.chs).2;have hcF:comF s'.x v.chs=0:=by
   unfold comF;rw[if_neg (by rw[c3];decide),hf.len,h.x,if_neg];rintro(e|e)<;>omega
  have hz:(comR s'.x v.chs).1=0:=n1.trans hcF;have hrows:(comR s'.x v.chs).2.rows=aK s.x.rows v.chs:=by
   rcases hcm with⟨_,_,_,e,_⟩|⟨_,e,_⟩|⟨a,_⟩
   ·rw[e,h.x]
   ·exact absurd hcF e
   ·rw[hz] at a;cases a
  have e:comE s' 0=((s'.now+1,0),endE (addE s' v.chs) 0):=by
   unfold comE;rw[h.v];dsimp only;rw[if_neg c1,if_neg (by rw[hcl];decide),if_neg (by rw[hz];decide)]
  rw[e,if_neg c1];exact⟨by rw[h.now,c2],hall (addE s' v.chs) rfl,by show s'.now+1=_;rw[h.now,c2],hrows,by show s'.c+1+s.now=_;rw[h.c,c2];omega⟩
theorem zN6 {w0 w:World} {B:Nat} {m:EMem} {s:ESt} (h:RunE w0 w B m s 120) (hs:∀ i,s.ses i=none) (hcc:s.c<=140) (acts:List ActL) (said:List ByteArray) (at_:Nat) (rd:Bool) (aa sa:Option Addr) (ac sc:Nat)
  (hmem:∀ W:World,(∀ k,k<w.heap.size->¬allF m s.ses k->W.heap[k]?=w.heap[k]?)->iM W aa acts/\(∀ x∈acts,bY W x.sa x.sps)/\zNM W sa said)
  (hli:∀ x∈acts,fT x) (hll:acts.length<=100) {chs:List Chg} {rds:Rws} (hrun:runT (aS s.x.rows) acts=(said,chs,rds))
  (hc:(chs=[]/\at_=s.now)∨(chs≠[]/\at_=s.now+1/\jW chs=0/\chs.length<=12/\(aK s.x.rows chs).length<=40)):
  Calls p_ 38 #[.pointer (some ⟨m.eb,0,none⟩),.agg #[.int .i64 (at_:Int),.bool rd,.slice aa acts.length ac,.slice sa said.length sc]] w fun e w'=>e=.returned (.bool true)/\∃ m' s',RunE w0 w' B m' s' 120/\m'.eb=m.eb/\aG w w' B (allF m s.ses) (allF m' s'.ses)/\(∀ i,s'.ses i=none)/\s'.now=at_/\s'.x.rows=zI4 chs s.x.rows/\s'.c+s.now=s.c+at_:=by
 have nn:=eG;have ne:=pX;have hsl:said.length=acts.length:=by
  have:=zNP (aS s.x.rows) acts;rw[hrun] at this;exact this
 have hbx:=a_ w (o_ #[.int .i64 (at_:Int),.bool rd,.slice aa acts.length ac,.slice sa said.length sc] 73);have HRX:=hide (h.on hbx);have HST0:Hid (aG w (w.alloc (o_ #[.int .i64 (at_:Int),.bool rd,.slice aa acts.length ac,.slice sa said.length sc] 73)) B (allF m s.ses) (allF m s.ses)):=.on h.ek.blo hbx;have d0:(w.alloc (o_ #[.int .i64 (at_:Int),.bool rd,.slice aa acts.length ac,.slice sa said.length sc] 73)).cell? ⟨w.heap.size,0,none⟩=some (.int .i64 (at_:Int)):=by rw[aC];rfl
 have d2:(w.alloc (o_ #[.int .i64 (at_:Int),.bool rd,.slice aa acts.length ac,.slice sa said.length sc] 73)).cell? ⟨w.heap.size,2,none⟩=some (.slice aa acts.length ac):=by rw[aC];rfl
 have d3:(w.alloc (o_ #[.int .i64 (at_:Int),.bool rd,.slice aa acts.length ac,.slice sa said.length sc] 73)).cell? ⟨w.heap.size,3,none⟩=some (.slice sa said.length sc):=by rw[aC];rfl
 have hlt0:w.heap.size<(w.alloc (o_ #[.int .i64 (at_:Int),.bool rd,.slice aa acts.length ac,.slice sa said.length sc] 73)).heap.size:=by simp
 have hna:¬allF m s.ses w.heap.size:=fun ⟨i,hi⟩=>by
  have:=h.ek.lt hi;omega
 have HKP:Hid (∀ (W:World) (T':Nat->Prop),aG (w.alloc (o_ #[.int .i64 (at_:Int),.bool rd,.slice aa acts.length ac,.slice sa said.length sc] 73)) W B (allF m s.ses) T'->W.cell? ⟨w.heap.size,0,none⟩=some (.int .i64 (at_:Int))/\W.cell? ⟨w.heap.size,2,none⟩=some (.slice aa acts.length ac)/\W.cell? ⟨w.heap.size,3,none⟩=some (.slice sa said.length sc)/\iM W aa acts/\(∀ x∈acts,bY W x.sa x.sps)/\zNM W sa said):=fun W T' hst=>by
  have e:=(hst.far _ hlt0 hna).1;refine⟨(b_ (a:=⟨w.heap.size,0,none⟩) e).trans d0,(b_ (a:=⟨w.heap.size,2,none⟩) e).trans d2,(b_ (a:=⟨w.heap.size,3,none⟩) e).trans d3,hmem W fun k hk hn=>?_⟩;exact(hst.far k (by omega) hn).1.trans (hbx.block k hk)
 have HLI:=hide hli;have HRUN:=hide hrun;have HC:=hide hc;have HS:=hide hs;have HSL:=hide hsl;clear hmem hli hrun hc h d0 d2 d3 hbx hs hna hsl;go_enter Tryz.func38,Tryz.ntmps38;go_wp2_with fail;generalize w.alloc (o_ #[.int .i64 (at_:Int),.bool rd,.slice aa acts.length ac,.slice sa said.length sc] 73)=wx at *;have HBG:=hide (zOc HRX.out (i:=0) (by decide) (HS.out 0));refine HBG.out.mono ?_;rintro e w1 ⟨rfl,m1,hA1⟩;have HDE:=hide (mT w1 hA1.run.ek (i:=0) (by decide) (zGX s 0));rw[hA1.eb] at HDE;have HR1:=hide hA1.run;have HE1:=hide hA1.eb;have HT1:=hide hA1.st;have HS1:Hid (SoI s (dX s 0) ⟨aS s.x.rows,s.now,[],[]⟩):=⟨rfl,rfl,rfl,rfl,zGX s 0,fun j hj=>(hU _ hj).trans (HS.out j)⟩;clear hA1 HBG;generalize dX s 0=s1 at *;go_wp2_with fail;refine HDE.out.mono ?_;rintro e w2 ⟨rfl,hw2⟩;rw[hw2];clear hw2 HDE;generalize hwb:(m1.W 0).1=wb at *;generalize hbd:w.heap.size=bd at *;go_wp2_with fail
 go_loopw [7] (fun iv wr=>∃ (k:Nat) (m':EMem) (s':ESt),k<=acts.length/\iv=.int .i64 (k:Int)/\RunE w0 wr B m' s' 120/\m'.eb=m.eb/\(m'.W 0).1=wb/\aG wx wr B (allF m s.ses) (allF m' s'.ses)/\SoI s s' ⟨aS s.x.rows,s.now,(runT (aS s.x.rows) (acts.take k)).2.1,(runT (aS s.x.rows) (acts.take k)).2.2⟩) (fun iv _=>acts.length-(intOf iv).toNat)
 case atStart=>exact⟨0,m1,s1,Nat.zero_le _,rfl,HR1.out,HE1.out,hwb,HT1.out,HS1.out⟩
 case round=>
  obtain⟨k,m',s',hk,rfl,hR,heb,hw',hst,hso⟩:=hrel;clear HR1 HE1 HT1 HS1;have HR:=hide hR;have HST:=hide hst;have HSO:=hide hso;clear hR hst hso;obtain⟨d0,d2,d3,hac,hsp,hsd⟩:=HKP.out _ _ HST.out;have HSP:=hide hsp;have hsc:s'.c<=140:=by rw[HSO.out.c];exact hcc
  have hsl:=HSL.out;by_cases hlt:k<acts.length
  ·have hlt':(k:Int)<(acts.length:Int):=by omega
   have hlt2:(k:Int)<(said.length:Int):=by omega
   have hk0:(0:Int)<=(k:Int):=by omega
   rcases hac with e|⟨b,off,e,hca⟩
   ·rw[e] at hlt;simp at hlt
   rcases hsd with e'|⟨b2,off2,e',hcs⟩
   ·rw[e'] at hsl;simp at hsl;omega
   subst e;subst e';have hx:=hca k hlt;have hy:=hcs k (by omega);have hat:=zOD (aS s.x.rows) acts hlt;rw[HRUN.out] at hat;dsimp only at hat;rw[List.getElem?_eq_getElem (show k<said.length by omega)] at hat;have hat':=Option.some.inj hat;rw[hat'] at hy;have HKY:Hid (∀ (W:World) (T':Nat->Prop),aG wx W B (allF m s.ses) T'->W.cell? ⟨b2,off2+k,none⟩=some (.string (fY (aS s.x.rows) (runT (aS s.x.rows) (acts.take k)).2.1 (runT (aS s.x.rows) (acts.take k)).2.2 acts[k]).1)):=fun W T' hst=>by
    rcases(HKP.out W T' hst).2.2.2.2.2 with e|⟨b3,o3,e,hc3⟩
    ·rw[e] at hlt2;simp at hlt2;omega
    ·cases e;rw[hc3 k (by omega),hat']
   have hr1:=HR.out.on (r_ _ _).drew;have htd:=zOn acts[k] hr1 HSO.out.v (by decide) (by omega) (HLI.out _ (List.getElem_mem hlt)) (lX (r_ _ _).drew (HSP.out _ (List.getElem_mem hlt)));rw[hw'] at htd;dsimp only at htd;have hts:runT (aS s.x.rows) (acts.take (k+1))=xH (aS s.x.rows) (runT (aS s.x.rows) (acts.take k)) acts[k]:=by
    rw[List.take_succ_eq_append_getElem hlt,zNx]
   have HSN:Hid (SoI s (actE s' 0 ⟨aS s.x.rows,s.now,(runT (aS s.x.rows) (acts.take k)).2.1,(runT (aS s.x.rows) (acts.take k)).2.2⟩ acts[k]) ⟨aS s.x.rows,s.now,(runT (aS s.x.rows) (acts.take (k+1))).2.1,(runT (aS s.x.rows) (acts.take (k+1))).2.2⟩):=by
    rw[hts];exact HSO.out.act _ _
   have HTD:=hide htd;have HST1:Hid (aG wx wr.drew B (allF m s.ses) (allF m' s'.ses)):=HST.out.trans (.on HR.out.ek.blo (r_ _ _).drew);clear htd hr1 hat hat' hts hca hcs HR hsl;generalize (fY (aS s.x.rows) (runT (aS s.x.rows) (acts.take k)).2.1 (runT (aS s.x.rows) (acts.take k)).2.2 acts[k]).1=tx at *;generalize actE s' 0 ⟨aS s.x.rows,s.now,(runT (aS s.x.rows) (acts.take k)).2.1,(runT (aS s.x.rows) (acts.take k)).2.2⟩ acts[k]=s5 at *;generalize acts[k]=x at *;have x0:=hx.kind;have x1:=hx.a;have x2:=hx.b;have x3:=hx.c;have x4:=hx.k;have x5:=hx.s;have x6:=hx.t;have x7:=hx.cl;have x8:=hx.sl;clear hx;go_wp2_with fail
   go_region_with (first
    | (go_at_call 39;refine HTD.out.mono ?_;rintro e w5 ⟨rfl,m5,hA5,hw5⟩;have HR5:=hide hA5.run;have HE5:=hide (hA5.eb.trans heb);have HW5:=hide hw5;have HT5:=hide (HST1.out.trans hA5.st);obtain⟨d0',d2',d3',_,_,_⟩:=HKP.out _ _ HT5.out;have y5:=HKY.out _ _ HT5.out;clear hA5 hw5)
    | fail)
   all_goals
    go_wp2_with fail;exact⟨⟨k+1,m5,s5,by omega,by go_num,HR5.out,HE5.out,HW5.out,HT5.out,HSN.out⟩,by simp[intOf];omega⟩
  ·have ek:k=acts.length:=by omega
   subst ek;have hlt':¬(acts.length:Int)<(acts.length:Int):=by omega
   have hso:=HSO.out;rw[List.take_length,HRUN.out] at hso;dsimp only at hso;obtain⟨q1,q2,q3,q4,hc3⟩:=hso.com HR.out.fit rfl HC.out;have HCM:=hide (zN5 HR.out (i:=0) (by decide) (by omega));rw[heb,q1,aR] at HCM;have HQ:=hide (And.intro q2 (And.intro q3 q4));clear q1 q2 q3 q4 hso HR hac hsp hsd hsl;generalize (comE s' 0).2=s9 at *;go_wp2_with fail;refine HCM.out.mono ?_;rintro e w9 ⟨rfl,m9,hA9⟩;have HT9:=hide (HST.out.trans hA9.st);obtain⟨e0,_⟩:=HKP.out _ _ HT9.out;have HR9:=hide hA9.run;have he9:=hA9.eb.trans heb;clear hA9 HCM;go_wp2;go_ret;exact⟨rfl,m9,s9,HR9.out,he9,HST0.out.trans HT9.out,HQ.out.1,HQ.out.2.1,HQ.out.2.2,hc3⟩
end
section
open Go.RowKit Go.Joins Go.Shelf
theorem zIs {W:World} {N:Nat} {v:Value} {l:List ActL} (h:zLN W N v l) (hx:∀ x∈l,bW W x.ca x.chs/\bY W x.sa x.sps/\x.sps.length<=maxLen/\-9223372036854775808<=x.a/\x.a<=9223372036854775807):
  ∃ ao cap,v=.slice ao l.length cap/\iM W ao l/\∀ b off,ao=some ⟨b,off,none⟩->v.ownBlock=some b:=by
 rcases aX h with⟨e,e2⟩|⟨g,cap,e,_⟩
 ·exact⟨none,0,by rw[e,e2],.inl (List.length_eq_zero_iff.1 e2),fun b off e=>by cases e⟩
 ·refine⟨_,_,e,.inr ⟨g,0,rfl,fun i hi=>?_⟩,fun b off e2=>by cases e2;rw[e];rfl⟩;unfold zLN at h;rw[e] at h;have q:=fun j hj=>(dU zN7 h i j hi hj).1;obtain⟨p1,p2,p3,p4⟩:=hx _ (List.getElem_mem hi);rw[show 0+i*9=i*9+0 by omega];exact⟨q 0 (by omega),q 1 (by omega),q 2 (by omega),q 3 (by omega),q 4 (by omega),q 5 (by omega),q 6 (by omega),q 7 (by omega),q 8 (by omega),p1,p2,p3,p4⟩
def memP (p:PSt) (l:List ActL):Prop:=(∀ D∈p.out,(∀ x∈D.acts,x∈l)/\D.acts.length<=100)/\∀ i,(∀ x∈(p.cur i).acts,x∈l)
theorem zOB {p:PSt} {l:List ActL} {n:Nat} (h:memP p l) (hl:vK p n) (hn:n<=100) {x:ActL} (hx:x∈l):memP (plyP p x) l:=by
 have hset:∀ (d:jR) (i:Nat),(∀ y∈d.acts,y∈l)->∀ j,∀ y∈(setP p.cur i d j).acts,y∈l:=fun d i hd j y hy=>by
  unfold setP at hy;split at hy
  ·exact hd y hy
  ·exact h.2 j y hy
 unfold plyP;dsimp only;split
 ·split
  ·exact⟨h.1,hset noD _ fun y hy=>absurd hy List.not_mem_nil⟩
  ·exact h
 ·split
  ·split
   ·exact h
   ·split
    ·refine⟨fun D hD=>?_,hset _ _ (h.2 _)⟩;rcases List.mem_append.1 hD with hD|hD
     ·exact h.1 D hD
     ·rw[List.mem_singleton.1 hD];exact⟨h.2 _,Nat.le_trans (hl.2 _).1 hn⟩
    ·exact h
  ·split
   ·exact h
   ·split
    ·exact h
    ·split
     ·exact h
     ·split
      ·exact h
      ·refine⟨h.1,hset _ _ fun y hy=>?_⟩;rcases List.mem_append.1 hy with hy|hy
       ·exact h.2 _ y hy
       ·rw[List.mem_singleton.1 hy];exact hx
theorem zOk (s:ESt) (l:List ActL) (hn:l.length<=100):memP (hO s l) l:=by
 have aux:∀ (k:Nat),k<=l.length->memP (hO s (l.take k)) l:=by
  intro k
  induction k with
  | zero=>intro _;exact⟨fun D hD=>absurd hD List.not_mem_nil,fun i y hy=>absurd hy List.not_mem_nil⟩
  | succ k ih=>
   intro hk;rw[zGw (show k<l.length by omega)];have hll:=zI2 s (l.take k);exact zOB (ih (by omega)) hll (by rw[List.length_take];omega) (List.getElem_mem _)
 have:=aux l.length (n_ _);rwa [List.take_length] at this
def cntW (l:List jR) (n:Nat):Nat:=(l.filter fun D=>!D.reads&&D.at_==n).length
theorem zNw (n:Nat):∀ N,((List.range' 1 N).filter fun x=>x==n).length=if 1<=n/\n<=N then 1 else 0
 | 0=>by rw[if_neg (by omega)];rfl
 | N+1=>by
  rw[List.range'_1_concat,List.filter_append,List.length_append,zNw n N];by_cases e:1+N=n
  ·subst e;rw[if_neg (by omega),if_pos (by omega)];simp
  ·have:([1+N].filter fun x=>x==n)=[]:=by simp[e]
   rw[this];by_cases h:1<=n/\n<=N
   ·rw[if_pos h,if_pos (by omega)];rfl
   ·rw[if_neg h,if_neg (by omega)];rfl
theorem zOy {H:Nat->List Chg} {p:PSt} (h:Hs H p) (n:Nat):cntW p.out n=if 1<=n/\n<=p.e.now then 1 else 0:=by
 rw[<-zNw n p.e.now,<-h.wr];unfold cntW;rw[List.filter_map,List.length_map,List.filter_filter];congr 1;refine List.filter_congr fun D _=>?_;show _=((D.at_==n)&&!D.reads);rw[Bool.and_comm]
theorem zOh (l:List jR) (n:Nat) {i:Nat} (hi:i<l.length):cntW (l.take (i+1)) n=cntW (l.take i) n+if (!l[i].reads&&l[i].at_==n)=true then 1 else 0:=by
 unfold cntW;rw[List.take_succ_eq_append_getElem hi,List.filter_append,List.length_append];congr 1;by_cases e:(!l[i].reads&&l[i].at_==n)=true
 ·rw[if_pos e,List.filter_cons_of_pos (by simpa using e)];rfl
 ·rw[if_neg e,List.filter_cons_of_neg (by simpa using e)];rfl
theorem zOF (l:List jR) (n i:Nat):cntW (l.take i) n<=cntW l n:=by
 unfold cntW;exact(List.Sublist.filter _ (List.take_sublist _ _)).length_le
structure SrI (w w4 wr:World) (Bo:Nat) (mo:EMem) (so:ESt) (H:Nat->List Chg) (n:Nat) (mo':EMem) (so':ESt):Prop where
 run:RunE w wr Bo mo' so' 120
 eb:mo'.eb=mo.eb
 st:aG w4 wr Bo (allF mo so.ses) (allF mo' so'.ses)
 ses:∀ i,so'.ses i=none
 now:so'.now=n
 rows:so'.x.rows=H n
 c:so'.c=n
def Kep (w4 W:World) (mo:EMem) (so:ESt):Prop:=∀ k,k<w4.heap.size->¬allF mo so.ses k->W.heap[k]?=w4.heap[k]?
section
variable {w w4 wr:World} {Bo n:Nat} {mo mo':EMem} {so so':ESt} {H:Nat->List Chg}
theorem SrI.kep (h:SrI w w4 wr Bo mo so H n mo' so'):Kep w4 wr mo so:=fun k hk hn=>(h.st.far k hk hn).1
theorem SrI.on (h:SrI w w4 wr Bo mo so H n mo' so') {w':World} (hb:Below wr.heap.size wr w'):SrI w w4 w' Bo mo so H n mo' so':=
 { h with run:=h.run.on hb,st:=h.st.trans (.on h.run.ek.blo hb) }
theorem SrI.again (h:SrI w w4 wr Bo mo so H n mo' so') (hn:n<=100) {N:Nat} (x:DVal) (hx:∀ W,Kep w4 W mo so->qJ W N x/\∀ y∈x.d.acts,bW W y.ca y.chs/\bY W y.sa y.sps/\y.sps.length<=maxLen/\-9223372036854775808<=y.a/\y.a<=9223372036854775807) (hli:∀ y∈x.d.acts,fT y) (hll:x.d.acts.length<=100)
  {now:Nat} (hD:zC1 H now x.d) (ha:(x.d.reads=true/\x.d.at_=n)∨(x.d.reads=false/\x.d.at_=n+1)):
  Calls p_ 38 #[.pointer (some ⟨mo.eb,0,none⟩),.agg #[.int .i64 (x.d.at_:Int),.bool x.d.reads,x.av,x.sv]] wr fun e w'=>e=.returned (.bool true)/\∃ m2 s2,SrI w w4 w' Bo mo so H x.d.at_ m2 s2:=by
 have hk0:=h.kep;obtain⟨hrd,hin⟩:=hx wr hk0;obtain⟨aa,ac,ea,_,_⟩:=zIs hrd.1 hin;have hsv:∃ sa sc,x.sv=.slice sa x.d.said.length sc:=by
  rcases aX hrd.2 with⟨e,e2⟩|⟨g,cap,e,_⟩
  ·exact⟨none,0,by rw[e,e2]⟩
  ·exact⟨_,_,e⟩
 obtain⟨sa,sc,es⟩:=hsv;have hmem:∀ W:World,(∀ k,k<wr.heap.size->¬allF mo' so'.ses k->W.heap[k]?=wr.heap[k]?)->iM W aa x.d.acts/\(∀ y∈x.d.acts,bY W y.sa y.sps)/\zNM W sa x.d.said:=fun W hW=>by
  have kp:Kep w4 W mo so:=fun k hk hn=>by
   obtain⟨e,n'⟩:=h.st.far k hk hn;exact(hW k (Nat.lt_of_lt_of_le hk h.st.bel.size) n').trans e
  obtain⟨hrd',hin'⟩:=hx W kp;obtain⟨aa',ac',ea',hh,_⟩:=zIs hrd'.1 hin';rw[ea] at ea';cases ea';refine⟨hh,fun y hy=>(hin' y hy).2.1,?_⟩;rcases aX hrd'.2 with⟨e,e2⟩|⟨g,cap,e,_⟩
  ·exact .inl (List.length_eq_zero_iff.1 e2)
  ·have ho:=hrd'.2;unfold zHb at ho;rw[es] at e ho;cases e;refine .inr ⟨g,0,rfl,fun i hi=>?_⟩;rw[Nat.zero_add,ho.cellAt i (by rw[Nat.mul_one];exact hi),List.getElem?_map,List.getElem?_eq_getElem hi];rfl
 have key:∀ (chs:List Chg) (rds:Rws),runT (aS so'.x.rows) x.d.acts=(x.d.said,chs,rds)->((chs=[]/\x.d.at_=so'.now)∨(chs≠[]/\x.d.at_=so'.now+1/\jW chs=0/\chs.length<=12/\(aK so'.x.rows chs).length<=40))->zI4 chs (H n)=H x.d.at_->
   Calls p_ 38 #[.pointer (some ⟨mo.eb,0,none⟩),.agg #[.int .i64 (x.d.at_:Int),.bool x.d.reads,x.av,x.sv]] wr fun e w'=>e=.returned (.bool true)/\∃ m2 s2,SrI w w4 w' Bo mo so H x.d.at_ m2 s2:=fun chs rds hr hc hH=>by
  have q:=zN6 h.run h.ses (by rw[h.c];omega) x.d.acts x.d.said x.d.at_ x.d.reads aa sa ac sc hmem hli hll hr hc;rw[h.eb,<-ea,<-es] at q;refine q.mono ?_;rintro e w' ⟨rfl,m2,s2,r1,r2,r3,r4,r5,r6,r7⟩;exact⟨rfl,m2,s2,r1,r2,h.st.trans r3,r4,r5,by rw[r6,h.rows,hH],by have h1:=h.c;have h2:=h.now;omega⟩
 rcases hD with⟨d1,d2,rds,d3⟩|⟨d1,d2,d3,chs,rds,d4,d5,d6,d7,d8,d9⟩
 ·rcases ha with⟨_,a2⟩|⟨a1,_⟩
  ·refine key [] rds (by rw[h.rows,<-a2];exact d3) (.inl ⟨rfl,by rw[h.now,a2]⟩) ?_;show H n=_;rw[a2]
  ·rw[d1] at a1;cases a1
 ·rcases ha with⟨a1,_⟩|⟨_,a2⟩
  ·rw[d1] at a1;cases a1
  ·have e1:x.d.at_-1=n:=by omega
   rw[e1] at d4 d7 d9;refine key chs rds (by rw[h.rows];exact d4) (.inr ⟨d5,by rw[h.now,a2],d6,d8,by rw[h.rows];exact d7⟩) ?_;unfold zI4;rw[if_neg d5,d9]
end
end
section
open Go.RowKit Go.Joins Go.Shelf
attribute [local go_sem ↓] Go.wp_at_zero Go.wp_at_succ
theorem topSerial_walk (l:List ActL) (ao:Option Addr) (cap:Nat) (w:World) (hL:Laid w) (hd:iM w ao l):
  Calls p_ 4 #[.slice ao l.length cap] w fun e w'=>e=.returned (.bool true)/\Below w.heap.size w w':=by
 have nn:=eG;have HL:=hide hL;have HD:=hide hd;clear hL hd;go_enter Tryz.func4,Tryz.ntmps4;go_wp2_with fail;refine(zHJ w).mono ?_;rintro e w1 ⟨rfl,hb1⟩;have HB1:=hide hb1;have HD1:=hide (zHR hb1 HD.out);clear hb1;go_wp2_with fail;refine(zCZ l 90 cap ao w1 HD1.out (by omega)).mono ?_;rintro e w2 ⟨rfl,hw2⟩;rw[hw2];clear hw2;cases hlA:gT l 90
 ·go_wp2;go_ret;exact⟨rfl,HB1.out⟩
 obtain⟨hll,hli⟩:=zIQ HD.out hlA;have HLI:=hide hli;clear hlA hli;go_wp2_with fail;refine(zEi 120 w w1 (by decide) (by decide) HL.out HB1.out).mono ?_;rintro e w3 ⟨db,eb,rfl,m,s,hrun,rfl,rfl,fr⟩;have HR3:=hide hrun;have HFR:=hide fr;generalize w1.heap.size=B at *;clear hrun fr HB1 HD1;go_wp2_with fail;refine(zEi 120 w3 w3 (by decide) (by decide) (iL HL.out HR3.out.bel) (r_ _ _)).mono ?_;rintro e w5 ⟨db2,eb2,rfl,mo,so,hro,rfl,rfl,fro⟩;have HRO:=hide hro;have HFO:=hide fro;have hrE:=HR3.out.on hro.bel;have HPL:=hide (zK0 l ao cap hrE HD.out HLI.out (by omega) (by rw[HFR.out.c];omega));clear hro fro hrE;go_wp2_with fail;refine HPL.out.mono ?_;rintro e w4 ⟨ov,rfl,m4,hA4,pb,m1,cur,outs,hPR⟩;obtain⟨H,hH⟩:=Hs.play HR3.out.fit HFR.out.rows HFR.out.now HFR.out.ses l;have hmem:=zOk s l (by omega);have hcE:(hO s l).e.c<=90:=by
  have:=(HR3.out.fit.play l).2;rw[HFR.out.c] at this;omega
 have hnE:(hO s l).e.now<=90:=Nat.le_trans hA4.run.fit.ok.nc hcE;have hap:∀ k,allF mo so.ses k->w3.heap.size<=k/\k<w5.heap.size:=fun k ⟨i,e⟩=>⟨HRO.out.ek.low e,HRO.out.ek.lt e⟩;have hne:∀ k,allF mo so.ses k->¬allF m s.ses k:=fun k hk ⟨i,e⟩=>by
  have:=HR3.out.ek.lt e;have:=(hap k hk).1;omega
 have hsz4:=hA4.st.bel.size;have HO4:Hid (SrI w w4 w4 w3.heap.size mo so H 0 mo so):=by
  refine⟨⟨HRO.out.ek.kept hsz4 fun k hk=>(hA4.st.far k (hap k hk).2 (hne k hk)).1,HRO.out.fit,hA4.run.bel,HR3.out.bel.size,HL.out⟩,rfl,.refl (Nat.le_trans HRO.out.ek.blo hsz4),HFO.out.ses,HFO.out.now,?_,HFO.out.c⟩;rw[HFO.out.rows,hH.h0]
 have hnA:∀ k,allF m4 (hO s l).e.ses k->¬allF mo so.ses k:=fun k hk hko=>(hA4.st.far k (hap k hko).2 (hne k hko)).2 hk;have HEK:Hid (∀ W,w4.heap.size<=W.heap.size->Kep w4 W mo so->EK W B m4 (hO s l).e):=fun W hs hk=>hA4.run.ek.kept hs fun k hk'=>by
  obtain⟨i,e⟩:=hk';exact hk k (hA4.run.ek.lt e) (hnA k ⟨i,e⟩)
 have hnew:∀ k,w5.heap.size<=k->¬allF mo so.ses k:=fun k hk hko=>by have:=(hap k hko).2;omega
 have HOV:Hid (∀ W,Kep w4 W mo so->zLP W w5.heap.size ov outs):=fun W hk=>aI hPR.pm.out fun k e=>hk k (l_ hPR.pm.out k e).2 (hnew k (l_ hPR.pm.out k e).1);have hdin:∀ x∈outs,x.d∈(hO s l).out:=fun x hx=>by rw[<-hPR.od];exact List.mem_map_of_mem hx
 have HRD:Hid (∀ x∈outs,(∀ W,Kep w4 W mo so->qJ W w5.heap.size x/\∀ y∈x.d.acts,bW W y.ca y.chs/\bY W y.sa y.sps/\y.sps.length<=maxLen/\-9223372036854775808<=y.a/\y.a<=9223372036854775807)/\(∀ y∈x.d.acts,fT y)/\x.d.acts.length<=100/\zC1 H (hO s l).e.now x.d):=fun x hx=>by
  have hxm:=hmem.1 x.d (hdin x hx);refine⟨fun W hk=>⟨gZ (hPR.pm.kept x hx) fun k e=>hk k (pW (hPR.pm.kept x hx) e).2 (hnew k (pW (hPR.pm.kept x hx) e).1),fun y hy=>?_⟩,fun y hy=>HLI.out y (hxm.1 y hy),hxm.2,hH.out x.d (hdin x hx)⟩;obtain⟨b,off,ha⟩:=zBU HD.out (hxm.1 y hy);have hlow:∀ k,k<w.heap.size->W.heap[k]?=w.heap[k]?:=fun k hk'=>by
   have h1:=hA4.run.bel.size;refine(hk k (by omega) fun hko=>?_).trans (hA4.run.bel.block k hk');have h2:=(hap k hko).1;have h3:=HR3.out.bel.size;omega
  exact⟨zFT ha.hc hlow,zGY ha.hs hlow,ha.ns,ha.ai⟩
 have HCA:=fun n=>hide (zOy hH n);have HOD:=hide hPR.od;have HRE:=hide (zN4 hA4.run.fit.ok);have HHN:=hide hH.hn;have he4:=hA4.eb;have hol:outs.length<=90:=by
  have h1:=(zI2 s l).1;rw[<-hPR.od,List.length_map] at h1;omega
 have hform:∃ oa oc,ov=.slice oa outs.length oc:=by
  rcases aX hPR.pm.out with⟨e,e2⟩|⟨g,cap,e,_⟩
  ·exact⟨none,0,by rw[e,e2]⟩
  ·exact⟨_,_,e⟩
 obtain⟨oa,oc,eov⟩:=hform;subst eov;have HCL:Hid (∀ (W:World) (i:Nat) (hi:i<outs.length),Kep w4 W mo so->∃ g,oa=some ⟨g,0,none⟩/\W.cell? ⟨g,i*4,none⟩=some (.int .i64 (outs[i].d.at_:Int))/\W.cell? ⟨g,i*4+1,none⟩=some (.bool outs[i].d.reads)/\W.cell? ⟨g,i*4+2,none⟩=some outs[i].av/\W.cell? ⟨g,i*4+3,none⟩=some outs[i].sv):=fun W i hi hk=>by
  have ho:=HOV.out W hk;rcases aX ho with⟨_,e2⟩|⟨g,cap,e,_⟩
  ·omega
  ·cases e;unfold zLP at ho;have q:=fun j hj=>(dU zN2 ho i j hi hj).1;exact⟨g,rfl,by have:=q 0 (by omega);rw[Nat.add_zero] at this;exact this,q 1 (by omega),q 2 (by omega),q 3 (by omega)⟩
 clear hPR hA4 HPL HOV hdin hmem hH HR3 HRO HFO HFR hap hne hnA hnew;generalize (hO s l).e=s4 at *;generalize (hO s l).out=outD at *;generalize w3.heap.size=Bo at *;go_wp2_with fail
 go_loopw [10] (fun nv wr=>∃ (n:Nat) (mo':EMem) (so':ESt),n<=s4.now+1/\nv=.int .i64 (n:Int)/\SrI w w4 wr Bo mo so H (n-1) mo' so') (fun nv _=>s4.now+1-(intOf nv).toNat)
 case atStart=>exact⟨0,mo,so,Nat.zero_le _,rfl,HO4.out⟩
 case round=>
  obtain⟨n,mo1,so1,hn,rfl,hI⟩:=hrel;clear HO4;have HI:=hide hI;have HNW:=hide (zEk _ (HEK.out _ hI.st.bel.size hI.kep));rw[he4] at HNW;clear hI;by_cases hnl:n<=s4.now
  ·have hnl':(n:Int)<=(s4.now:Int):=by omega
   go_wp2_with fail;refine HNW.out.mono ?_;rintro e w6 ⟨rfl,hw6⟩;rw[hw6];clear hw6 HNW;go_wp2_with fail
   go_loopw [11] (fun kv wr=>∃ (k:Nat) (mo':EMem) (so':ESt),k<=2/\kv=.int .i64 (k:Int)/\SrI w w4 wr Bo mo so H (if k=0 then n-1 else n) mo' so') (fun kv _=>2-(intOf kv).toNat)
   case atStart=>exact⟨0,mo1,so1,by omega,rfl,by rw[if_pos rfl];exact HI.out⟩
   case round=>
    obtain⟨k,mo2,so2,hk,rfl,hI2⟩:=hrel;clear HI;have HI:=hide hI2;clear hI2;by_cases hk2:k<2
    ·have hk2':(k:Int)<2:=by omega
     go_wp2_with fail
     go_loopw [12] (fun iv wr=>∃ (i:Nat) (mo':EMem) (so':ESt),i<=outs.length/\iv=.int .i64 (i:Int)/\SrI w w4 wr Bo mo so H (if k=0 then n-1+cntW (outD.take i) n else n) mo' so') (fun iv _=>outs.length-(intOf iv).toNat)
     case atStart=>exact⟨0,mo2,so2,Nat.zero_le _,rfl,HI.out⟩
     case round=>
      obtain⟨i,mo3,so3,hi,rfl,hI3⟩:=hrel;clear HI;have HI:=hide hI3;clear hI3;have hlo:outD.length=outs.length:=by rw[<-HOD.out,List.length_map]
      by_cases hil:i<outs.length
      ·have hil':(i:Int)<(outs.length:Int):=by omega
       have hi0:(0:Int)<=(i:Int):=by omega
       obtain⟨g,eg,c0,c1,c2,c3⟩:=HCL.out _ i hil HI.out.kep;subst eg;obtain⟨r1,r2,r3,r4⟩:=HRD.out _ (List.getElem_mem hil);have hDi:outD[i]'(by omega)=outs[i].d:=by
        have:outD[i]?=some outs[i].d:=by rw[<-HOD.out,List.getElem?_map,List.getElem?_eq_getElem hil];rfl
        rw[List.getElem?_eq_getElem (show i<outD.length by omega)] at this;exact Option.some.inj this
       have hct:=zOh outD n (i:=i) (by omega);rw[hDi] at hct;have hcl:=zOF outD n (i+1);have hca:=(HCA n).out;generalize outs[i]=D at *;clear hDi hlo;by_cases hat:D.d.at_=n
       ·have e1:((D.d.at_:Int) != (n:Int))=false:=by rw[hat];simp
        have hne:(!D.d.reads&&D.d.at_==n)=!D.d.reads:=by rw[hat];simp
        rw[hne] at hct;cases hrd:D.d.reads
        ·rw[hrd] at hct c1;by_cases hk1:k=1
         ·have f1:((k:Int)==1)=true:=by rw[hk1];rfl
          have HI2:Hid (SrI w w4 wr Bo mo so H (if k=0 then n-1+cntW (outD.take (i+1)) n else n) mo3 so3):=by
           have:=HI.out;rw[if_neg (by omega)] at this ⊢;exact this
          clear HI c2 c3 r1 r2 r3 r4 hat hrd hk1 hct hcl hca hne;go_wp2_with fail;exact⟨⟨i+1,mo3,so3,by omega,by go_num,HI2.out⟩,by simp[intOf];omega⟩
         ·have f1:((k:Int)==1)=false:=by simp;omega
          have hk0:k=0:=by omega
          have hc1:cntW (outD.take (i+1)) n=cntW (outD.take i) n+1:=by simpa using hct
          have hone:1<=n/\cntW (outD.take i) n=0:=by
           rw[hca] at hcl;split at hcl<;>omega
          have HAL:=hide (HI.out.again (by rw[if_pos hk0];omega) D r1 r2 r3 r4 (.inr ⟨hrd,by rw[if_pos hk0];omega⟩));rw[hrd] at HAL;have HNX:Hid (∀ W m2 s2,SrI w w4 W Bo mo so H D.d.at_ m2 s2->SrI w w4 W Bo mo so H (if k=0 then n-1+cntW (outD.take (i+1)) n else n) m2 s2):=fun W m2 s2 h=>by
           rw[if_pos hk0,hc1,hone.2,show n-1+(0+1)=n by omega,<-hat];exact h
          clear HI r1 r2 r3 r4 hat hrd hk1 hk0 hct hcl hca hne hc1 hone;go_wp2_with fail;refine HAL.out.mono ?_;rintro e w7 ⟨rfl,m7,s7,h7⟩;have HI2:=hide (HNX.out w7 m7 s7 h7);clear h7 HAL HNX;go_wp2_with fail;exact⟨⟨i+1,m7,s7,by omega,by go_num,HI2.out⟩,by simp[intOf];omega⟩
        ·rw[hrd] at hct c1;have hc1:cntW (outD.take (i+1)) n=cntW (outD.take i) n:=by simpa using hct
         by_cases hk1:k=1
         ·have f1:((k:Int)==1)=true:=by rw[hk1];rfl
          have hkn:¬k=0:=by omega
          have HAL:=hide (HI.out.again (by rw[if_neg hkn];omega) D r1 r2 r3 r4 (.inl ⟨hrd,by rw[if_neg hkn];exact hat⟩));rw[hrd] at HAL;have HNX:Hid (∀ W m2 s2,SrI w w4 W Bo mo so H D.d.at_ m2 s2->SrI w w4 W Bo mo so H (if k=0 then n-1+cntW (outD.take (i+1)) n else n) m2 s2):=fun W m2 s2 h=>by
           rw[if_neg hkn,<-hat];exact h
          clear HI r1 r2 r3 r4 hat hrd hk1 hkn hct hcl hca hne hc1;go_wp2_with fail;refine HAL.out.mono ?_;rintro e w7 ⟨rfl,m7,s7,h7⟩;have HI2:=hide (HNX.out w7 m7 s7 h7);clear h7 HAL HNX;go_wp2_with fail;exact⟨⟨i+1,m7,s7,by omega,by go_num,HI2.out⟩,by simp[intOf];omega⟩
         ·have f1:((k:Int)==1)=false:=by simp;omega
          have HI2:Hid (SrI w w4 wr Bo mo so H (if k=0 then n-1+cntW (outD.take (i+1)) n else n) mo3 so3):=by
           rw[hc1];exact HI.out
          clear HI c2 c3 r1 r2 r3 r4 hat hrd hk1 hct hcl hca hne hc1;go_wp2_with fail;exact⟨⟨i+1,mo3,so3,by omega,by go_num,HI2.out⟩,by simp[intOf];omega⟩
       ·have e1:((D.d.at_:Int) != (n:Int))=true:=by simp;omega
        have hne:(!D.d.reads&&D.d.at_==n)=false:=by simp[hat]
        rw[hne] at hct;have hc1:cntW (outD.take (i+1)) n=cntW (outD.take i) n:=by simpa using hct
        have HI2:Hid (SrI w w4 wr Bo mo so H (if k=0 then n-1+cntW (outD.take (i+1)) n else n) mo3 so3):=by
         rw[hc1];exact HI.out
        clear HI c1 c2 c3 r1 r2 r3 r4 hat hct hcl hca hne hc1;go_wp2_with fail;exact⟨⟨i+1,mo3,so3,by omega,by go_num,HI2.out⟩,by simp[intOf];omega⟩
      ·have ei:i=outs.length:=by omega
       have hil':¬(i:Int)<(outs.length:Int):=by omega
       have HI2:Hid (SrI w w4 wr Bo mo so H (if k+1=0 then n-1 else n) mo3 so3):=by
        have h1:=HI.out;have hca:=(HCA n).out;rw[ei,<-hlo,List.take_length,hca] at h1;rw[if_neg (by omega)];have e:(if k=0 then n-1+(if 1<=n/\n<=s4.now then 1 else 0) else n)=n:=by
         split
         ·split<;>omega
         ·rfl
        rw[e] at h1;exact h1
       clear HI ei hlo;go_wp2_with fail;exact⟨⟨k+1,mo3,so3,by omega,by go_num,HI2.out⟩,by simp[intOf];omega⟩
    ·have hk2':¬(k:Int)<2:=by omega
     have HI2:Hid (SrI w w4 wr Bo mo so H (n+1-1) mo2 so2):=by
      have h1:=HI.out;rw[if_neg (by omega)] at h1;exact h1
     clear HI;go_wp2_with fail;exact⟨⟨n+1,mo2,so2,by omega,by go_num,HI2.out⟩,by simp[intOf];omega⟩
  ·have hnl':¬(n:Int)<=(s4.now:Int):=by omega
   have en:n-1=s4.now:=by omega
   have hI:=HI.out;rw[en] at hI;have hrw:so1.x.rows=s4.x.rows:=hI.rows.trans HHN.out;have HRO:=hide (zOm hI.run);rw[hI.eb,hrw] at HRO;have HI2:=hide hI;clear HI hI;go_wp2_with fail;refine HNW.out.mono ?_;rintro e w6 ⟨rfl,hw6⟩;rw[hw6];clear hw6 HNW;go_wp2_with fail;refine HRO.out.mono ?_;rintro e w7 ⟨ra,rc,rfl,hh7,hb7⟩;have hI7:=HI2.out.on hb7;have HEW:=hide (zBq w7 (HEK.out w7 hI7.st.bel.size hI7.kep) (by have:=HRE.out;unfold aS at this;rw[List.length_map] at this;omega));rw[he4] at HEW;have HI7:=hide hI7;have HH7:=hide hh7;clear hI7 hh7 hb7 HRO HI2;go_wp2_with fail;refine HEW.out.mono ?_;rintro e w8 ⟨v8,rfl,ho8,hb8⟩;obtain⟨ja,jc,ej,hh8⟩:=lV ho8;subst ej;have HSR:=hide (zNy (aS s4.x.rows) ra ja rc jc w8 (lX hb8 HH7.out) hh8 (by have:=HRE.out;omega));have HI8:=hide (HI7.out.on hb8);clear ho8 hb8 hh8 HEW HI7 HH7;go_wp2_with fail;refine HSR.out.mono ?_;rintro e w9 ⟨rfl,hb9⟩;have hI9:=HI8.out.on hb9;have HN1:=hide (zEk w9 hI9.run.ek);rw[hI9.eb,hI9.now] at HN1;have HN2:=hide (zEk w9 (HEK.out w9 hI9.st.bel.size hI9.kep));rw[he4] at HN2;have HB9:=hide hI9.run.bel;clear hI9 hb9 HSR HI8;go_wp2_with fail;refine HN1.out.mono ?_;rintro e w10 ⟨rfl,hw10⟩;rw[hw10];clear hw10 HN1;go_wp2_with fail;refine HN2.out.mono ?_;rintro e w10 ⟨rfl,hw10⟩;rw[hw10];clear hw10 HN2;go_wp2;go_ret;exact⟨rfl,HB9.out⟩
end
end Go.Proofs.YtnboipekkahmnaaGreatDoor
