import Derived.Test.YtcfjimdfegejaaaGreatDoorQ20
import Derived.Test.YtcfjimdfegejaaaGreatDoorQ16
set_option maxHeartbeats 8000000
set_option maxRecDepth 100000
namespace Go.Proofs.YtcfjimdfegejaaaGreatDoor
open And renaming intro→F4
open _root_.Array renaming replicate_succ→F5,replicate_zero→G5
open _root_.ByteArray renaming data_append→L1,data_extract→N7,ext→D8,size_append→I1,size_extract→P8
open Go.WideShapes renaming add_plain→C1
open Int renaming toNat_natCast→Z1
open KeepsOthers renaming setCell→P4
open Lib renaming hasPrefix→Y4,strCells→Y2,strCells_length→B_,trimPrefix→Z3
open List renaming append_nil→T1,append_toArray→V5,cons_append→P5,drop_eq_nil_of_le→M0,drop_zero→F7,find?_cons_of_pos→W9,foldl_append→C8,getElem?_eq_getElem→VY,getElem?_eq_some_iff→Z0,getElem?_map→N8,getElem?_set_ne→SZ,getElem_mem→MZ,length_append→YY,length_cons→PZ,length_drop→UZ,length_eq_zero_iff→E0,length_map→RZ,length_nil→F3,length_set→NZ,length_take→XY,map_append→X1,map_cons→U2,map_nil→s_,mem_append→Q0,mem_append_left→G7,mem_append_right→B7,mem_cons_of_mem→D1,mem_cons_self→Y0,mem_filter→A2,mem_map→Z2,mem_of_mem_drop→A1,mem_singleton→GZ,nil_append→X3,not_mem_nil→X0,push_toArray→K6,range→T0,range_succ→U8,replicate→WY,size_toArray→C2,take_append_of_le_length→E2,take_length→O1,take_of_length_le→LZ,take_succ_eq_append_getElem→ZY
open Nat renaming le_succ→I4,le_trans→BZ,lt_of_lt_of_le→UY,lt_or_ge→M3,reduceAdd→X5,reduceSub→Q7,zero_add→TZ,zero_le→OZ
open Option renaming some→I0
open Value renaming nilIface→I3,ownBlock→VZ,slice→FZ
open World renaming block_lt_of_cell?→AZ,frozen?_of_block→CZ,frozen?_setCell→EZ,ownsRow→F2,putObj_heap_other→P9
open Go.Proofs.Tryz
open Obj renaming cells→o_
open World renaming cell?_of_block→b_,cell?_setCell_other→t_,cell?_setCell_same→u_,ownsRow.lt→l_
open Go.RowKit.Below renaming heap_setCell→h_,refl→r_
open Nat renaming le_refl→n_
open Go.Proofs.Tryz renaming prog→p_
open Value renaming string→v_,int→i_
open IntKind renaming i64→k_
open Go.Joins renaming below_alloc1→a_
variable {i j fr many n ia first u B db k a rb ab wb g cap b b':Nat} {N:List BA} {ds:List (List ma)} {t key:BA} {w w' wR W W' w1 W1 w3 w0 w7:World} {S S' G S2:Nat->Prop} {Hm:Option Nat} {v v' y z a0 a2 dv:Value} {pre:List Nat} {Ya l ba:List ma} {d:Bb} {R:BA->List yb} {P ga:ta} {c:Int} {F:Nat->Nat->Prop}
def dF (t:BA) (k:Nat):BA:=t.extract (96*k) (96*k+96)
def bT (n:Nat):Nat:=(n+95) / 96
def bI (t:BA):List BA:=(T0 (bT t.size)).map (dF t)
def kS:List BA->BA
 | []=>⟨#[]⟩
 | s::l=>s++kS l
theorem zZ (l:List BA) (s:BA):kS (l++[s])=kS l++s:=by
 induction l with
 | nil=>show s++⟨#[]⟩=⟨#[]⟩++s;rw[pL,lP]
 | cons x l ih=>show x++kS (l++[s])=x++kS l++s;rw[ih,jL]
theorem zFv (l:List BA) (h:∀ s∈l,s.size=96):(kS l).size=96*l.length:=by
 induction l with
 | nil=>rfl
 | cons x l ih=>
  show(x++kS l).size=_;rw[I1,ih fun s hs=>h s (D1 _ hs),h x (Y0 ..),PZ];omega
theorem mR (t:BA) (k:Nat):(dF t k).size=min (96*k+96) t.size-96*k:=by unfold dF;rw[P8]
theorem zIw (s:BA):aH s=s++bD (96-s.size):=by
 apply D8;unfold aH bD;rw[L1];simp
theorem lT (t:BA) (i j:Nat):(t.extract i j).data.toList=(t.data.toList.take j).drop i:=by
 rw[N7,Array.toList_extract,List.extract_eq_take_drop,List.take_drop];by_cases h:i<=j
 ·rw[show i+(j-i)=j by omega]
 ·rw[M0 (by rw[XY];omega),M0 (by rw[XY];omega)]
theorem qU {a b:BA} (h:a.data.toList=b.data.toList):a=b:=by
 apply D8;exact Array.toList_inj.1 h
theorem xV (a b:BA):(a++b).data.toList=a.data.toList++b.data.toList:=by rw[L1,Array.toList_append]
theorem pT (a:BA):a.data.toList.length=a.size:=by rw[Array.length_toList];rfl
theorem zMa (t:BA) (h:i<=j):t.extract 0 i++t.extract i j=t.extract 0 j:=by
 apply qU;rw[xV,lT,lT,lT,F7,F7];have e:t.data.toList.take i=(t.data.toList.take j).take i:=by rw[List.take_take,Nat.min_eq_left h]
 rw[e,List.take_append_drop]
theorem zMj (t:BA) (h:t.size<=j):t.extract 0 j=t:=by
 apply qU;rw[lT,F7,LZ (by rw[pT];exact h)]
theorem wH (t:BA):∀ k,(k=0∨96*(k-1)<t.size)->kS ((T0 k).map fun j=>aH (dF t j))=t.extract 0 (96*k)++bD (96*k-t.size)
 | 0,_=>by
  apply qU;rw[xV,lT];simp[kS,bD]
 | k+1,h=>by
  have hk:96*k<t.size:=by rcases h with h|h<;>simp at h;omega
  rw[U8,X1,U2,s_,zZ,wH t k (by omega),show 96*k-t.size=0 by omega];have e0:bD 0=⟨#[]⟩:=rfl;rw[e0,lP,zIw,mR,<-jL];unfold dF;rw[zMa t (by omega),show 96*k+96=96*(k+1) by omega];congr 2;omega
theorem zII (t:BA):(kS ((T0 (bT t.size)).map fun j=>aH (dF t j))).extract 0 t.size=t:=by
 unfold bT;rw[wH t _ (by omega),zMj t (by omega)];apply qU;rw[lT,xV,F7,E2 (by rw[pT];exact n_ _),LZ (by rw[pT];exact n_ _)]
def aJ (ia:Nat):Nat:=1+24*ia
def aM (N:List BA):Nat:=if (ae (N[50]?.getD ⟨#[]⟩) 1).isSome then 2 else 1
theorem rB (N:List BA):1<=aM N/\aM N<=2:=by unfold aM;split<;>omega
def eK (ia first:Nat) (rows:List ma):BA:=iG ia first (aO rows).size
def oH (ia first:Nat) (rows:List ma):List Uj:=aL (aJ ia) (bI (aO rows))++([none]++([some (0,eK ia first rows)]++([none]++[])))
structure fU (N:List BA) (n ia first:Nat) (rows:List ma) (ds:List (List ma)) (u:Nat):Prop where
 len:N.length=n
 Ks:54<=n
 a1:ia<=1
 f1:1<=first/\first<=2
 root:N[0]?=some (aH (eK ia first rows))
 text:∀ j,j<bT (aO rows).size->N[aJ ia+j]?=some (aH (dF (aO rows) j))
 we:fH rows
 Mi:rows.length<=40
 has:Ye N 50 (n-50) first ds u
theorem jA {rows:List ma} (hf:fH rows) (h:rows.length<=40):(aO rows).size<=2280:=by
 have h1:=sP rows 55 fun c hc=>by have:=iS (hf.1 c hc).1;omega
 have:rows.length*(55+2)<=40*57:=Nat.mul_le_mul (by omega) (by omega);omega
theorem zBC (ia first:Nat) (rows:List ma):(eK ia first rows).size=16:=by
 unfold eK iG;rw[I1];rfl
theorem zJv {K:List BA} (h:∀ j,fr<=j->K[j]?=N[j]?):xf K fr many=xf N fr many:=by
 apply List.ext_getElem?;intro j;rw[kD,kD];split
 ·exact h _ (by omega)
 ·rfl
theorem fU.yd {K:List BA} {rows:List ma} (h:fU N n ia first rows ds u) (hl:K.length=N.length) (hk:∀ j,¬(aJ (1-ia)<=j/\j<aJ (1-ia)+24)->K[j]?=N[j]?):fU K n ia first rows ds u:=by
 have ha:=h.a1;have hp:=jA h.we h.Mi;refine⟨hl.trans h.len,h.Ks,h.a1,h.f1,(hk 0 (by unfold aJ;omega)).trans h.root,fun j hj=>(hk _ ?_).trans (h.text j hj),h.we,h.Mi,?_⟩
 ·unfold bT at hj;unfold aJ;omega
 ·unfold Ye;rw[zJv (N:=N) fun j hj=>hk j (by unfold aJ;omega)];exact h.has
theorem zGc (N:List BA):ae (N[50]?.getD ⟨#[]⟩) (aM N)=none:=by
 unfold aM
 cases h:ae (N[50]?.getD ⟨#[]⟩) 1 with
 | none=>exact h
 | some kd=>
  show ae (N[50]?.getD ⟨#[]⟩) 2=none;generalize N[50]?.getD ⟨#[]⟩=t at *;unfold ae at h ⊢;split at h
  case isFalse=>cases h
  case isTrue hh=>
   rw[if_neg];intro h2;have e1:=hh.2.1;have e2:=h2.2.1;have e:(dM 1).toList=(dM 2).toList:=by
    have a:=eq_of_beq e1;have b:=eq_of_beq e2;rw[<-a,<-b]
   exact absurd e (by decide +kernel)
theorem zIC {K:List BA} (Rm:54<=n) (hn:K.length=n) (hN:N.length=n) (h:K[50]?=N[50]?):Ye K 50 (n-50) (aM N) [] 0:=by
 unfold Ye;have hf:=zGc N;have hg:(xf K 50 (n-50))[0]?=N[50]?:=by rw[kD,if_pos (by omega)];exact h
 have hl:(xf K 50 (n-50)).length=n-50:=xO (by omega)
 cases hr:xf K 50 (n-50) with
 | nil=>rw[hr] at hl;simp at hl;omega
 | cons t r=>
  rw[hr] at hg;have e:N[50]?=some t:=by rw[<-hg];rfl
  rw[e,Option.getD_some] at hf;generalize aM N=f at *;have Ld:ae t (f+0)=none:=hf;rw[oI Ld]
theorem zEs (X:List BA->Prop) (l:List (Nat×BA)) (hX:∀ x∈l,∀ K,X K->X (K.set x.1 (aH x.2))):∀ N,X N->X (l.foldl (fun N x=>N.set x.1 (aH x.2)) N):=by
 induction l with
 | nil=>intro N h;exact h
 | cons x l ih=>intro N h;exact ih (fun y hy=>hX y (D1 _ hy)) _ (hX x (Y0 ..) N h)
theorem sC (t:BA):(bI t).length=bT t.size:=by unfold bI;simp
theorem zGM (t:BA) (h:j<(bI t).length):(bI t)[j]=dF t j:=by simp[bI]
theorem vW {s:BA} (h:s∈bI t):s.size<=96:=by
 unfold bI at h;obtain⟨k,_,rfl⟩:=Z2.1 h;rw[mR];omega
theorem zFe {s:Bb} {rows:List ma} (Y X:List BA->Prop) (hd:s.down=false) (hn:s.now.length=n) (Rm:54<=n) (ha:ia<=1) (hf:fH rows) (ee:rows.length<=40) (GN:∀ K,fX s K->Y K) (hXN:Y s.now)
  (hXw:∀ K j d,aJ ia<=j->j<aJ ia+24->Y K->Y (K.set j d)) (IN:∀ K,Y K->X K) (hXe:∀ K,fU K n ia (aM s.now) rows [] 0->X K):
  Lf (Ea (oH ia (aM s.now) rows) s) (fun s'=>s'.down=false/\s'.wait=[]/\s'.kept=s'.now/\fU s'.now n ia (aM s.now) rows [] 0) X:=by
 have hp:=jA hf ee;have Mo:=sC (aO rows);have LP:(bI (aO rows)).length<=24:=by rw[Mo];unfold bT;omega
 have haN:aJ ia+24<=50:=by unfold aJ;omega
 have Hh:1<=aJ ia:=by unfold aJ;omega
 have Ci:=rB s.now;unfold oH;have rr:aL (aJ ia) (bI (aO rows))=(((bI (aO rows)).zipIdx (aJ ia)).map fun x=>(x.2,x.1)).map fun x=>some (x.1,x.2):=by rw[yB,List.map_map];rfl
 rw[rr];have Dk:∀ x∈((bI (aO rows)).zipIdx (aJ ia)).map fun x=>(x.2,x.1),aJ ia<=x.1/\x.1<aJ ia+24/\x.2.size<=96:=fun x hx=>by
  obtain⟨y,hy,rfl⟩:=Z2.1 hx;have It:=List.mem_zipIdx hy;refine⟨It.1,by have:=It.2.1;show y.2<_;omega,?_⟩;show y.1.size<=96;rw[It.2.2];exact vW (MZ _)
 have r1:=Lf.writes Y n (((bI (aO rows)).zipIdx (aJ ia)).map fun x=>(x.2,x.1)) s hd hn GN (fun x hx=>by
  obtain⟨q1,q2,q3⟩:=Dk x hx;exact⟨by omega,q3,fun K hK=>hXw K _ _ q1 q2 hK⟩)
 refine Lf.bind (r1.mono (fun _ h=>h) IN) fun s1 ⟨d1,n1,x1⟩=>?_;have xm:Y s1.now:=by
  rw[n1];exact zEs Y _ (fun x hx K hK=>by obtain⟨q1,q2,_⟩:=Dk x hx;exact hXw K _ _ q1 q2 hK) _ hXN
 have Is:s1.now.length=n:=by rw[n1,uC];exact hn
 have MF:∀ j,¬(aJ ia<=j/\j<aJ ia+24)->s1.now[j]?=s.now[j]?:=fun j hj=>by
  rw[n1];exact zDt _ j _ fun x hx=>by obtain⟨q1,q2,_⟩:=Dk x hx;omega
 have XQ:∀ j (hj:j<(bI (aO rows)).length),s1.now[aJ ia+j]?=some (aH (bI (aO rows))[j]):=fun j hj=>by
  rw[n1,List.foldl_map];exact xX _ (aJ ia) _ j hj (by omega)
 refine Lf.bind ((Lf.flush Y s1 d1 x1).mono (fun _ h=>h) IN) fun s2 ⟨d2,n2,k2,w2⟩=>?_;have hg:fU (s1.now.set 0 (aH (eK ia (aM s.now) rows))) n ia (aM s.now) rows [] 0:=by
  refine⟨by rw[NZ];exact Is,Rm,ha,Ci,List.getElem?_set_self (by omega),fun j hj=>?_,hf,ee,?_⟩
  ·have Dj:j<(bI (aO rows)).length:=by rw[Mo];exact hj
   rw[SZ (by omega),XQ j Dj,zGM]
  ·refine zIC Rm (by rw[NZ];exact Is) hn ?_;rw[SZ (by omega)];exact MF 50 (by omega)
 have g3:∀ K,(K=s1.now∨K=s1.now.set 0 (aH (eK ia (aM s.now) rows)))->X K:=fun K hK=>by
  rcases hK with rfl|rfl
  ·exact IN _ xm
  ·exact hXe _ hg
 have r3:=Lf.writes (fun K=>K=s1.now∨K=s1.now.set 0 (aH (eK ia (aM s.now) rows))) n [(0,eK ia (aM s.now) rows)] s2 d2 (by rw[n2,Is]) (fun K hK=>.inl (by rw[mW w2 hK,k2])) (fun x hx=>by
  rw[GZ] at hx;subst hx;refine⟨by show 0<n;omega,by rw[zBC];decide,fun K hK=>.inr ?_⟩;rcases hK with rfl|rfl
  ·rfl
  ·exact List.set_set ..)
 refine Lf.bind (r3.mono (fun _ h=>h) g3) fun s3 ⟨d3,n3,x3⟩=>?_;have n3':s3.now=s1.now.set 0 (aH (eK ia (aM s.now) rows)):=by rw[n3,n2];rfl
 refine Lf.bind ((Lf.flush _ s3 d3 x3).mono (fun _ h=>h) g3) fun s4 ⟨d4,n4,k4,w4⟩=>?_;refine⟨fun _=>⟨d4,w4,by show s4.kept=s4.now;rw[k4,n4],?_⟩,fun e=>absurd rfl e⟩;show fU s4.now _ _ _ _ _ _;rw[n4,n3'];exact hg
theorem zBp {s:Bb} {rows:List ma} (hd:s.down=false) (hl:s.left=-1) (hn:s.now.length=n) (Rm:54<=n) (ha:ia<=1) (hf:fH rows) (ee:rows.length<=40):(Ea (oH ia (aM s.now) rows) s).1=0/\(Ea (oH ia (aM s.now) rows) s).2.left=-1:=by
 have hp:=jA hf ee;have Mo:=sC (aO rows);have LP:(bI (aO rows)).length<=24:=by rw[Mo];unfold bT;omega
 have haN:aJ ia+24<=50:=by unfold aJ;omega
 refine vA n _ s hd hl hn fun o ho a d e=>?_;unfold oH at ho;simp only[T1,Q0,GZ] at ho;rcases ho with ho|rfl|rfl|rfl
 ·obtain⟨p1,p2,p3⟩:=sX _ _ o ho a d e;exact⟨by omega,vW p3⟩
 ·cases e
 ·cases e;exact⟨by omega,by rw[zBC];decide⟩
 ·cases e
section
open Go.RowKit Go.Joins Go.Shelf
attribute [local go_sem] Oper.semAt_some
def pP (g:Nat) (t:BA) (k:Nat):Value:=.slice (some ⟨g,96*k,none⟩) (min 96 (t.size-96*k)) (min 96 (t.size-96*k))
def jT (Bs Bn:Nat) (A B:World):Prop:=B.heap[Bs]?=A.heap[Bs]?/\B.heap[Bn]?=A.heap[Bn]?
theorem jT.refl (Bs Bn:Nat) (A:World):jT Bs Bn A A:=⟨rfl,rfl⟩
theorem jT.trans {Bs Bn:Nat} {A B C:World} (h:jT Bs Bn A B) (k:jT Bs Bn B C):jT Bs Bn A C:=⟨k.1.trans h.1,k.2.trans h.2⟩
theorem zIr (F:Fence) (n:Nat) (hF:F.fn 244) (bh:F.round=none) (hn:1<=n) (l Bs Bn g cap:Nat) (t:BA) (ht:t.size<=100000) (Ri:t.size<=cap) (Au:cap<=9223372036854775807) (J Jx:List Nat->World->Prop) (hJd:∀ s W,J s W->J s W.drew)
  (hY:∀ pre x W,J pre W->pre.length<bT t.size->YieldAt F (n-1) p_ l #[pP g t x] W fun e W'=>
   (e=.returned (.bool true)/\J (pre++[x]) W'/\jT Bs Bn W W')∨(e=.returned (.bool false)/\Jx (pre++[x]) W'))
  (W:World) (tu:W.cell? ⟨Bs,0,none⟩=some (.slice (some ⟨g,0,none⟩) t.size cap)) (bz:W.cell? ⟨Bn,0,none⟩=some (.int .i64 96)) (h0:J [] W):
  CallsIn F n p_ 244 #[.func (.yield l) #[] #[],.pointer (some ⟨Bs,0,none⟩),.pointer (some ⟨Bn,0,none⟩)] W fun e W'=>(∃ v,e=.returned v)/\
   ((∃ ys,ys=T0 (bT t.size)/\J ys W')∨(∃ pre,(∃ k,k<=bT t.size/\pre=T0 k)/\Jx pre W')):=by
 have bu:Hid (bT t.size=(t.size+95) / 96):=rfl;refine callsIn_of_wp func244 rfl hF ?_ bh;simp only[ntmps244,C2,PZ,F3,X5,Q7,F5,G5,K6,V5,X3,P5]
 gi_wp2
 gi_loopw [4] (fun i wr=>∃ k:Nat,k<=bT t.size/\i=.int .i64 ((96*k:Nat):Int)/\J (T0 k) wr/\jT Bs Bn W wr)
  (fun i _=>200000-(intOf i).toNat)
 case atStart=>exact⟨0,OZ _,rfl,h0,jT.refl _ _ _⟩
 case round=>
  obtain⟨k,hk,rfl,Fx,Lo⟩:=hrel;have UH:=(b_ (a:=⟨Bs,0,none⟩) Lo.1).trans tu;have TH:=(b_ (a:=⟨Bn,0,none⟩) Lo.2).trans bz;have tz:=bu.out;by_cases Aa:96*k<t.size
  ·have Za:((96*k:Nat):Int)<(t.size:Int):=by omega
   have nz:k<bT t.size:=by omega
   obtain⟨fn,tmps,assign,body,hy,hR⟩:=hY _ k wr.drew (hJd _ _ Fx) (by rw[List.length_range];exact nz);dsimp only[pP] at hy;have lq:=aa nz;have zi:Hid (T0 (k+1)=T0 k++[k]):=U8;have SU:Hid (((96*k:Nat):Int)+96=((96*(k+1):Nat):Int)):=aa (by omega);have qz:(0:Int)<=((96*k:Nat):Int):=by omega
   have vl:((96*k:Nat):Int)<=(cap:Int):=by omega
   have iy:((96*k:Nat):Int)<=100000:=by omega
   have MA:Hid (96*(k+1)<=200000):=aa (by omega);clear tz nz hk;obtain⟨m,hm⟩:∃ m,m=96*k:=⟨_,rfl⟩;rw[<-hm] at Aa Za hy qz vl iy SU ⊢;obtain⟨z,hz⟩:∃ z,z=min 96 (t.size-m):=⟨_,rfl⟩;rw[<-hz] at hy;have HM:=aa hm;clear hm;have a0I:Tryz.prog.follows .mixedOrders=true:=by kernel_rfl
   have hmc:m<cap:=by omega
   have a0D:(m:Int)<(cap:Int):=by omega
   have a0E:¬cap=m:=by omega
   have a0F:¬m=cap:=by omega
   have a0G:¬cap-m=0:=by omega
   have a0H:¬cap<=m:=by omega
   have hm3:(m:Int)<=(t.size:Int):=by omega
   have Yc:0<z:=by omega
   have te:z<=96:=by omega
   have Kq:m+z<=t.size:=by omega
   have HMZ:Hid (min (96:Int) ((t.size-m:Nat):Int)=(z:Int)):=aa (by omega);clear hz
   gi_wp2
   gi_region_with_o (fail)
   all_goals
    rw[HMZ.out]
    gi_wp2
    refine hR.mono ?_;rintro e W3 (⟨rfl,XM,Bk⟩|⟨rfl,Gx⟩)
    ·have a0p:=(b_ (a:=⟨Bn,0,none⟩) Bk.2).trans TH
     gi_wp2
     rw[SU.out];go_roundw
     case rel=>exact⟨k+1,lq.out,rfl,by rw[zi.out];exact XM,Lo.trans Bk⟩
     case measure=>
      have:=MA.out;have:=HM.out;simp[intOf];omega
    ·gi_wp2
     refine bodyPost_ret (results_none rfl _ _ _) rfl ?_;exact⟨⟨_,rfl⟩,.inr ⟨_,⟨k+1,lq.out,by rw[zi.out]⟩,Gx⟩⟩
  ·have Ej:k=bT t.size:=by omega
   have Za:¬((96*k:Nat):Int)<(t.size:Int):=by omega
   have Xt:=aa Ej;clear tz Ej hk;generalize 96*k=m at *
   gi_wp2
   go_end0;exact⟨⟨_,rfl⟩,.inl (by rw[<-Xt.out];exact Fx)⟩
theorem zB2 (F:Fence) (n:Nat) (hF:F.fn 244) (bh:F.round=none) (l Bs Bn:Nat) (J:List Nat->World->Prop) (W:World) (tu:W.cell? ⟨Bs,0,none⟩=some (.slice none 0 0)) (h0:J [] W):
  CallsIn F n p_ 244 #[.func (.yield l) #[] #[],.pointer (some ⟨Bs,0,none⟩),.pointer (some ⟨Bn,0,none⟩)] W fun e W'=>(∃ v,e=.returned v)/\J [] W':=by
 refine callsIn_of_wp func244 rfl hF ?_ bh;simp only[ntmps244,C2,PZ,F3,X5,Q7,F5,G5,K6,V5,X3,P5]
 gi_wp2
 gi_loopw [4] (fun i wr=>i=.int .i64 0/\wr=W) (fun _ _=>0)
 case atStart=>exact⟨rfl,rfl⟩
 case round=>
  obtain⟨rfl,rfl⟩:=hrel
  gi_wp2
  go_end0;exact⟨⟨_,rfl⟩,h0⟩
theorem zJ9 (F:Fence) (n:Nat) (hF:F.fn 206) (bh:F.round=none) (a:Option Addr) (len cap:Nat) (w:World):
  CallsIn F n p_ 206 #[.slice a len cap,.int .i64 96] w fun e w'=>e=.returned (.func (.func 244) #[] #[.pointer (some ⟨w.heap.size,0,none⟩),.pointer (some ⟨w.heap.size+1,0,none⟩)])/\w'=(w.alloc (.cells #[.slice a len cap] 226)).alloc (.cells #[.int .i64 96] 3):=by
 refine callsIn_of_wp func206 rfl hF ?_ bh;simp only[ntmps206,C2,PZ,F3,X5,Q7,F5,G5,K6,V5,X3,P5]
 gi_wp2
 go_ret;exact⟨rfl,rfl⟩
def TS (ao:Option Addr) (cap:Nat) (t:BA):Prop:=(ao=none/\cap=0/\t=⟨#[]⟩)∨∃ g,ao=some ⟨g,0,none⟩/\t.size<=cap/\cap<=9223372036854775807
def iW (ao:Option Addr):Nat:=match ao with
 | some a=>a.block
 | none=>0
theorem zEY (F:Fence) (n:Nat) (hF:F.fn 244) (bh:F.round=none) (hn:1<=n) (Bs Bn:Nat) (ao:Option Addr) (cap:Nat) (t:BA) (ht:t.size<=100000) (w:World) (Ir:Bs<w.heap.size) (Tv:Bn<w.heap.size)
  (tu:w.cell? ⟨Bs,0,none⟩=some (.slice ao t.size cap)) (bz:w.cell? ⟨Bn,0,none⟩=some (.int .i64 96)) (hI:TS ao cap t):
  SeqStopsK F n p_ 244 #[.pointer (some ⟨Bs,0,none⟩),.pointer (some ⟨Bn,0,none⟩)] (fun x:Nat=>#[pP (iW ao) t x]) (jT Bs Bn) (fun ys=>ys=T0 (bT t.size)) (fun pre=>∃ k,k<=bT t.size/\pre=T0 k) (bT t.size) w:=fun l J Jx W hW hA _ hY h0=>by
 have IB:=(hW.cell (p:=⟨Bs,0,none⟩) Ir).trans tu;have TM:=(hW.cell (p:=⟨Bn,0,none⟩) Tv).trans bz;rcases hI with⟨rfl,rfl,rfl⟩|⟨g,rfl,hc,hm⟩
 ·exact(zB2 F n hF bh l Bs Bn J W IB h0).mono fun e W' ⟨he,hj⟩=>⟨he,.inl ⟨_,rfl,hj⟩⟩
 ·exact zIr F n hF bh hn l Bs Bn g cap t ht hc hm J Jx (fun s W h=>hA s W _ none h ⟨rfl,rfl,rfl,n_ _,fun _ _ _=>rfl⟩ (fun r e=>by cases e)) hY W IB TM h0
end
section
open Go.RowKit Go.Joins
attribute [local go_sem ↓] Go.wp_at_zero Go.wp_at_succ
theorem uF (ia:Nat) (ha:ia<=1) (w:World):Calls p_ 172 #[.int .i64 (ia:Int)] w fun e w'=>e=.returned (.int .i64 ((aJ ia:Nat):Int))/\w'=w:=by
 have h0:(0:Int)<=(ia:Int):=by omega
 have h1:(ia:Int)<=1:=by omega
 go_enter func172,ntmps172;go_wp2;go_ret;exact⟨iJ (by unfold aJ;omega),rfl⟩
def jB (t:BA) (k:Nat):BA:=kS ((T0 k).map fun j=>aH (dF t j))
theorem zFM (t:BA) (k:Nat):(jB t k).size=96*k:=by
 unfold jB;rw[zFv _ fun s hs=>by
  obtain⟨j,_,rfl⟩:=Z2.1 hs;exact sJ (by rw[mR];omega)]
 simp
theorem zGy (t:BA) (k:Nat):jB t (k+1)=jB t k++aH (dF t k):=by
 unfold jB;rw[U8,X1,U2,s_,zZ]
section
variable {B db:Nat} {S:Nat->Prop} {s:Bb}
theorem zCo (ia first:Nat) (rows:List ma) (w:World) (hk:DK w B db S s) (hd:s.down=false) (ha:ia<=1) (hn:50<=s.now.length) (hf:fH rows) (ee:rows.length<=40) (htx:∀ j,j<bT (aO rows).size->s.now[aJ ia+j]?=some (aH (dF (aO rows) j))):
  Calls p_ 99 #[.pointer (some ⟨db,0,none⟩),.agg #[.int .i64 (ia:Int),.int .i64 (first:Int),.int .i64 ((aO rows).size:Int)]] w fun e w'=>∃ v,e=.returned (.tuple #[v,.nilIface])/\bO w' w.heap.size v rows/\Below w.heap.size w w':=by
 have hp:=jA hf ee;have HU:=fun w'=>aa (zEz rows w' (by omega) hf);have GD:=zII (aO rows);generalize aO rows=t at *;have OG:Hid ((jB t (bT t.size)).extract 0 t.size=t):=GD;have bu:Hid (bT t.size=(t.size+95) / 96):=rfl;have TT:Hid (aJ ia+24<=50/\1<=aJ ia):=aa (by unfold aJ;omega);have di:Hid (∀ (W:World) (k:Nat),DK W B db S s->k<bT t.size->Calls p_ 170 #[.pointer (some ⟨db,0,none⟩),.int .i64 ((aJ ia+k:Nat):Int)] W fun e w'=>e=.returned (.tuple #[.string (aH (dF t k)),.nilIface])/\w'=W):=fun W k hW Pn=>by
  have hr:=tV ((aJ ia+k:Nat):Int) W hW;have tz:=bu.out;have QH:=TT.out;have e1:lI s ((aJ ia+k:Nat):Int)=0:=by unfold lI;rw[hd,if_neg (by decide),if_neg (by omega)]
  have e2:nX s ((aJ ia+k:Nat):Int)=aH (dF t k):=by unfold nX;rw[if_pos e1,Z1,htx k Pn];rfl
  rw[e1,e2,aR] at hr;exact hr
 have HDK:=aa hk;have htI:(t.size:Int)<=2280:=by omega
 have NU:=aa ee;clear GD hd hf htx hn hk ee;obtain⟨r0,-,r2,Nc,-,-,Xb⟩:=Nf w (GY (ia:Int) (first:Int) (t.size:Int)) rfl rfl;go_enter func99,ntmps99;go_wp2_with (go_at_call 172;refine(uF ia ha _).mono ?_;rintro e w1 ⟨rfl,rfl⟩)
 generalize w.alloc (GY (ia:Int) (first:Int) (t.size:Int))=W0 at *;have Th:=a_ W0 RY;have IC:Lib.IsBuilderF 249 5 (w.heap.size+1) (w.heap.size+1) (Y2 (jB t 0)) (W0.alloc RY):=.inl ⟨n_ _,_,by rw[<-Xb];exact Go.heap_alloc_new W0 _,⟨rfl,.inl ⟨rfl,rfl⟩⟩,by simp[VZ]⟩;have JK:=aa IC;have ie:=aa Nc;have zb:=aa Th;have Ll:=aa r2;clear Nc Th IC r2
 go_loopw [7] (fun iv wr=>∃ k:Nat,k<=bT t.size/\iv=.int .i64 ((aJ ia+k:Nat):Int)/\Lib.IsBuilderF 249 5 (w.heap.size+1) (w.heap.size+1) (Y2 (jB t k)) wr/\Below (w.heap.size+1) W0 wr) (fun iv _=>100-(intOf iv).toNat)
 case atStart=>exact⟨0,OZ _,by rw[Nat.add_zero],JK.out,zb.out.mono (by omega)⟩
 case round=>
  obtain⟨k,hk,rfl,xr,SN⟩:=hrel;have lz:=zFM t k;have tz:=bu.out;have QH:=TT.out;have c2:wr.cell? ⟨w.heap.size,2,none⟩=some (.int .i64 (t.size:Int)):=(SN.cell (p:=⟨w.heap.size,2,none⟩) (by simp)).trans Ll.out;have Ir:(Y2 (jB t k)).length=96*k:=by rw[B_,lz]
  have kj:Hid (∀ m:Nat,m=96*k->∀ n,Calls p_ 173 #[.pointer (some ⟨w.heap.size+1,0,none⟩)] (wr.drewN n) fun e w'=>e=.returned (.int .i64 (m:Int))/\w'=wr.drewN n):=fun m hm n=>by
   have:=Tryz.Builder_Len_f (w.heap.size+1) (w.heap.size+1) _ (wr.drewN n) xr;rw[Ir,<-hm] at this;exact this
  obtain⟨m,hm⟩:∃ m,m=96*k:=⟨_,rfl⟩;have HL:=aa (kj.out m hm);have WT:=aa xr;have Md:=aa SN;have Wk:=aa Ir;clear xr SN Ir kj;by_cases Aa:m<t.size
  ·have Za:(m:Int)<(t.size:Int):=by omega
   have nz:k<bT t.size:=by omega
   have lq:=aa nz;have WU:Hid (((aJ ia+k:Nat):Int)+1=((aJ ia+(k+1):Nat):Int)):=aa (by omega);have a0w:((aJ ia+k:Nat):Int)<=100:=by omega
   have Ih:(0:Int)<=((aJ ia+k:Nat):Int):=by omega
   have HM:=aa hm;have HJS:=aa lz;have Uz:Hid (aJ ia+k<100):=aa (by omega);have FL:Hid (96*k<=2280):=aa (by omega);have rq:Hid (w.heap.size+1<=wr.heap.size):=aa (by have:=Md.out.size;omega);clear hm lz tz QH nz hk;have Et:(aH (dF t k)).size=96:=sJ (by rw[mR];omega);have HSU:=aa (zGy t k);have RL:=fun W h=>aa (di.out W k h lq.out);generalize aJ ia+k=FH at *;generalize aH (dF t k)=pc at *;go_wp2;go_quiet ((go_at_call 173;exact Calls.quiet_of_same (HL.out _)))
   go_wp2_with (first
    | (go_at_call 170;refine((RL _ (HDK.out.on (below_drewN (aB ie.out (n_ _) (Md.out.mono (by omega))) nq))).out).mono ?_;rintro e w7 ⟨rfl,rfl⟩)
    | (go_at_call 174;refine(zGm (w.heap.size+1) (w.heap.size+1) _ pc (wr.drewN nq) WT.out (by rw[Wk.out];have:=FL.out;omega) rq.out).mono ?_;rintro e w8 ⟨rfl,GC,Jd⟩;have GK:=aa GC;have Hl:=aa Jd;clear GC Jd)
    | fail)
   rw[WU.out];have Rt:=aa ((Md.out.trans (below_drewN (r_ _ _) nq)).trans Hl.out);refine⟨⟨k+1,lq.out,rfl,?_,Rt.out⟩,?_⟩
   ·rw[HSU.out,mE];exact GK.out
   ·have:=Uz.out;have:=WU.out;simp[intOf];omega
  ·have Za:¬(m:Int)<(t.size:Int):=by omega
   have Ej:k=bT t.size:=by omega
   have Dj:(jB t k).extract 0 t.size=t:=by rw[Ej];exact OG.out
   have ki:(jB t k).size=m:=by omega
   have Zb:Hid (∀ W,Lib.IsBuilderF 249 5 (w.heap.size+1) (w.heap.size+1) (Y2 (jB t k)) W->w.heap.size+1<=W.heap.size->Calls p_ 176 #[.pointer (some ⟨w.heap.size+1,0,none⟩)] W fun e w'=>e=.returned (.string (jB t k))/\Below (w.heap.size+1) W w'):=fun W h1 h2=>by
    refine(Tryz.Builder_String_any_k (w.heap.size+1) (w.heap.size+1) (jB t k).data.toList W h1 h2).mono ?_;rintro e w' ⟨rfl,_,h3,_⟩;exact⟨rfl,h3⟩
   have Pw:=aa Dj;have ht0:(0:Int)<=(t.size:Int):=by omega
   have Rj:(t.size:Int)<=(m:Int):=by omega
   have rq:Hid (w.heap.size+1<=wr.heap.size):=aa (by have:=Md.out.size;omega);clear Dj Ej hm tz QH hk lz;generalize jB t k=jk at *;have hjm:(jk.size:Int)=(m:Int):=by omega
   go_wp2;go_quiet ((go_at_call 173;exact Calls.quiet_of_same (HL.out _)))
   go_wp2
   go_region_with (first
    | (go_at_call 176;refine(Zb.out _ (by exact WT.out) (by exact rq.out)).mono ?_;rintro e w9 ⟨rfl,xq⟩;have c9:w9.cell? ⟨w.heap.size,2,none⟩=some (.int .i64 (t.size:Int)):=(xq.cell (p:=⟨w.heap.size,2,none⟩) (by simp)).trans c2)
    | (go_at_call 175;rw[Pw.out];refine(HU _).out.mono ?_;rintro e w10 ⟨v,rfl,ho,ZB⟩;dsimp only))
   all_goals
    have HO:=aa ho;have QP:=Md.out.trans ((below_draws _ _ _).trans xq);have HQ9:=aa (aB (ie.out.trans (QP.mono (by omega))) (by omega) ZB);have HZ9:Hid (w.heap.size<=w9.heap.size):=aa (by have:=QP.size;omega);clear ho xq ZB c9 QP;go_wp2;go_ret2;exact⟨v,rfl,dJ HO.out HZ9.out,HQ9.out⟩
end
end
section
open Go.RowKit Go.Joins Go.Shelf
attribute [local go_sem] Oper.semAt_some
theorem DK.cells {s:Bb} (h:DK w B db S s) (hk:S k):∃ o:Obj,w.heap[k]?=some o/\o.isCells=true:=by
 obtain⟨nb,kb,lb,n,lv,Fa,L,h1,h2,rfl,_⟩:=h;rcases hk with rfl|rfl|rfl|rfl|⟨i,hi,e⟩
 ·exact cells_of_cell h1.c0
 ·exact⟨_,h2.hn,rfl⟩
 ·exact⟨_,h2.hk,rfl⟩
 ·exact⟨_,h2.hl,rfl⟩
 ·have ho:=(h2.own i hi (by rw[h2.no,<-h2.nl];exact hi)).1;rcases ho.2 with⟨e2,_⟩|⟨g,cap,cur,e2,_,hg,_⟩
  ·rw[e2] at e;cases e
  ·rw[e2] at e;have:g=k:=by simpa[VZ] using e
   subst this;exact⟨_,hg,rfl⟩
theorem DK.grown {s:Bb} (h:DK w B db S s) (hg:w.grownBy w' Hm) (hr:∀ r,Hm=some r->∃ o:Obj,w.heap[r]?=some o/\o.isCells=false):DK w' B db S s:=
 h.kept hg.size fun k hk=>hg.block k (h.lt hk) fun e=>by
  obtain⟨o,h1,h2⟩:=h.cells hk;obtain⟨o',h3,h4⟩:=hr k e.symm;rw[h1] at h3;cases h3;rw[h2] at h4;cases h4
theorem zFz {s:Bb} (h:DK w B db S s) (hs:aG w w' B S S'):KeepsOthers w w':=
 ⟨hs.Ia.size,fun k o hk ho=>(hs.Ma k (Array.getElem?_eq_some_iff.1 hk).1 fun e=>by
  obtain⟨o',h1,h2⟩:=h.cells e;rw[hk] at h1;cases h1;rw[h2] at ho;cases ho).1.trans hk⟩
theorem zGk (W:World) (g:Nat) (t:BA) (x:Nat) (hc:∀ j u,(Y2 t)[j]?=some u->W.cell? ⟨g,j,none⟩=some u):(convert 226 9 (pP g t x)).run p_ W=.ok (.string (dF t x)) W:=by
 have hl:(dF t x).data.toList.length=min 96 (t.size-96*x):=by rw[pT,mR];omega
 have h:=run_convert_bytes_back (P:=p_) W 226 9 5 ⟨g,96*x,none⟩ (min 96 (t.size-96*x)) (dF t x).data.toList underlying226 underlying5 underlying9 (fun j hj=>by
  rw[Go.Addr.add_mid];refine hc _ _ ?_;unfold Y2;have hd:(dF t x).data.toList=(t.data.toList.take (96*x+96)).drop (96*x):=lT t _ _;have Dj:96*x+j<t.data.toList.length:=by rw[pT];omega
  have he:(dF t x).data.toList[j]=t.data.toList[96*x+j]:=by
   simp only[hd];rw[List.getElem_drop,List.getElem_take]
  rw[N8,VY Dj,he];rfl)
 rw[hl] at h;exact h
theorem wT (l m:List BA):∀ a,aL a (l++m)=aL a l++aL (a+l.length) m:=by
 induction l with
 | nil=>intro a;rfl
 | cons x l ih=>
  intro a;show some (a,x)::aL (a+1) (l++m)=some (a,x)::(aL (a+1) l++aL (a+(l.length+1)) m);rw[ih,show a+1+l.length=a+(l.length+1) by omega]
def gN (a:Nat) (t:BA) (s:Bb) (pre:List Nat):Nat×Bb:=Ea (aL a (pre.map (dF t))) s
theorem zHO (a:Nat) (t:BA) (s:Bb) (pre:List Nat) (x:Nat) (h:(gN a t s pre).1=0):gN a t s (pre++[x])=(dO (gN a t s pre).2 ((a+pre.length:Nat):Int) (dF t x),cV (gN a t s pre).2 ((a+pre.length:Nat):Int) (dF t x)):=by
 unfold gN at h ⊢;rw[X1,wT,gE,if_pos h,RZ];exact jC _ _
theorem zHE {s:Bb} {N:Nat} (hk:k<=N) (h:(gN a t s (T0 k)).1≠0):gN a t s (T0 N)=gN a t s (T0 k):=by
 obtain⟨m,rfl⟩:∃ m,N=k+m:=⟨N-k,by omega⟩;unfold gN at h ⊢;rw[List.range_add,X1,wT,gE,if_neg h]
def inX (rb ab:Nat) (S:Nat->Prop) (k:Nat):Prop:=k=rb∨k=ab∨S k
structure Ql (wR W:World) (B db rb ab:Nat) (S:Nat->Prop) (s:Bb):Prop where
 ex:∃ S',DK W B db S' s/\¬S' rb/\¬S' ab/\aG wR W B (inX rb ab S) (inX rb ab S')
theorem Ql.grown {s:Bb} (h:Ql wR W B db rb ab S s) (hB:B<=wR.heap.size) (hg:W.grownBy W' Hm) (hr:∀ r,Hm=some r->wR.heap.size<=r/\∃ o:Obj,W.heap[r]?=some o/\o.isCells=false):Ql wR W' B db rb ab S s:=by
 obtain⟨S',h1,h2,h3,h4⟩:=h;refine⟨S',h1.grown hg fun r e=>(hr r e).2,h2,h3,h4.Ia.grown hg (BZ hB h4.Ia.size) (fun k e=>BZ hB (hr k e).1),fun j hj hn=>?_⟩;obtain⟨f1,f2⟩:=h4.Ma j hj hn;exact⟨(hg.block j (UY hj h4.Ia.size) fun e=>by have:=(hr j e.symm).1;omega).trans f1,f2⟩
theorem pQ (W:World) (v:Value) (t:TypeId):(W.alloc (.cells #[v] t)).cell? ⟨W.heap.size,0,none⟩=some v/\(W.alloc (.cells #[v] t)).frozen? ⟨W.heap.size,0,none⟩=false:=⟨aC W #[v] t 0,aQ W #[v] t 0⟩
theorem iC {a:Addr} (o:Obj) (h:W.cell? a=some v/\W.frozen? a=false):(W.alloc o).cell? a=some v/\(W.alloc o).frozen? a=false:=⟨aA (a_ _ _) h.1,aE (a_ _ _) (AZ _ _ h.1) h.2⟩
structure CH (wR W:World) (B db rb ab:Nat) (S:Nat->Prop) (s:Bb) (a:Nat) (t:BA) (pre:List Nat):Prop where
 ok:(gN a t s pre).1=0
 x:Ql wR W B db rb ab S (gN a t s pre).2
 ca:W.cell? ⟨ab,0,none⟩=some (.int .i64 ((a+pre.length:Nat):Int))
 fa:W.frozen? ⟨ab,0,none⟩=false
 cr:W.cell? ⟨rb,0,none⟩=some .nilIface
 fr:W.frozen? ⟨rb,0,none⟩=false
theorem CH.grown {s:Bb} (h:CH wR W B db rb ab S s a t pre) (hB:B<=wR.heap.size) (hg:W.grownBy W' Hm) (hr:∀ r,Hm=some r->wR.heap.size<=r/\∃ o:Obj,W.heap[r]?=some o/\o.isCells=false):CH wR W' B db rb ab S s a t pre:=
 ⟨h.ok,h.x.grown hB hg hr,cell_kept h.ca hg fun r e=>(hr r e).2,(frozen_kept h.ca hg fun r e=>(hr r e).2).trans h.fa,cell_kept h.cr hg fun r e=>(hr r e).2,(frozen_kept h.cr hg fun r e=>(hr r e).2).trans h.fr⟩
structure DH (wR W:World) (B db rb ab:Nat) (S:Nat->Prop) (s:Bb) (a:Nat) (t:BA) (pre:List Nat):Prop where
 no:(gN a t s pre).1≠0
 x:Ql wR W B db rb ab S (gN a t s pre).2
 cr:W.cell? ⟨rb,0,none⟩=some (pa (gN a t s pre).1)
theorem DH.grown {s:Bb} (h:DH wR W B db rb ab S s a t pre) (hB:B<=wR.heap.size) (hg:W.grownBy W' Hm) (hr:∀ r,Hm=some r->wR.heap.size<=r/\∃ o:Obj,W.heap[r]?=some o/\o.isCells=false):DH wR W' B db rb ab S s a t pre:=
 ⟨h.no,h.x.grown hB hg hr,cell_kept h.cr hg fun r e=>(hr r e).2⟩
theorem Ql.Ma {s:Bb} (h:Ql wR W B db rb ab S s) (hk:k<wR.heap.size) (h1:k≠rb) (h2:k≠ab) (h3:¬S k):W.heap[k]?=wR.heap[k]?:=by
 obtain⟨S',_,_,_,h4⟩:=h;exact(h4.Ma k hk (fun e=>e.elim h1 fun e=>e.elim h2 h3)).1
theorem Ql.act {s:Bb} (h:Ql wR W B db rb ab S s) (hw:Below w.heap.size w wR) (hB:B<=w.heap.size) (h1:w.heap.size<=rb) (h2:w.heap.size<=ab):Xa w W B db S s:=by
 obtain⟨S',a,_,_,d⟩:=h;refine⟨S',a,(hw.mono hB).trans d.Ia,fun j hj hn=>?_⟩;obtain⟨f1,f2⟩:=d.Ma j (UY hj hw.size) (fun e=>e.elim (fun e=>by omega) fun e=>e.elim (fun e=>by omega) hn);exact⟨f1.trans (hw.block j hj),fun e=>f2 (.inr (.inr e))⟩
theorem Ql.CR {s:Bb} (h:Ql wR W B db rb ab S s) (hB:B<=ab) (v:Value):Ql wR (W.setCell ⟨ab,0,none⟩ v) B db rb ab S s:=by
 obtain⟨S',a,b,c,d⟩:=h;refine⟨S',a.kept (by simp) fun k e=>h_ _ _ _ _ fun e2=>c (by have e3:k=ab:=e2;rw[<-e3];exact e),b,c,d.Ia.setCell (p:=⟨ab,0,none⟩) hB v,fun j hj hn=>?_⟩;obtain⟨f1,f2⟩:=d.Ma j hj hn;exact⟨(h_ _ _ _ _ fun e=>hn (.inr (.inl e))).trans f1,f2⟩
theorem Ql.Uu {s:Bb} (h:Ql wR W B db rb ab S s) (hB:B<=rb) (v:Value):Ql wR (W.setCell ⟨rb,0,none⟩ v) B db rb ab S s:=by
 obtain⟨S',a,b,c,d⟩:=h;refine⟨S',a.kept (by simp) fun k e=>h_ _ _ _ _ fun e2=>b (by have e3:k=rb:=e2;rw[<-e3];exact e),b,c,d.Ia.setCell (p:=⟨rb,0,none⟩) hB v,fun j hj hn=>?_⟩;obtain⟨f1,f2⟩:=d.Ma j hj hn;exact⟨(h_ _ _ _ _ fun e=>hn (.inl e)).trans f1,f2⟩
section
variable {B db:Nat} {S:Nat->Prop} {s:Bb}
theorem zES (ia:Nat) (t:ByteArray) (ao:Option Addr) (cap:Nat) (w:World) (hk:DK w B db S s) (ha:ia<=1) (ht:t.size<=2304) (hI:TS ao cap t) (yq:0<t.size->¬S (iW ao)) (Yf:∀ j u,(Y2 t)[j]?=some u->w.cell? ⟨iW ao,j,none⟩=some u):
  Calls p_ 148 #[.pointer (some ⟨db,0,none⟩),.int .i64 (ia:Int),.slice ao t.size cap] w fun e w'=>e=.returned (pa (Ea (aL (aJ ia) (bI t)) s).1)/\Xa w w' B db S (Ea (aL (aJ ia) (bI t)) s).2:=by
 obtain⟨F,uu⟩:∃ F,F=Fence.wide:=⟨_,rfl⟩;refine(callsIn_wide (n:=3)).1 ?_;rw[<-uu];have bh:F.round=none:=by rw[uu];rfl
 have Cy:∀ {m:Nat} {f:FuncId} {args:Array Value} {v:World} {R:Ending->World->Prop},Calls p_ f args v R->CallsIn F m p_ f args v R:=fun h=>by rw[uu];exact callsIn_wide.2 h
 have f1:F.fn 148:=by rw[uu];trivial
 have f2:F.fn 172:=by rw[uu];trivial
 have f3:F.fn 206:=by rw[uu];trivial
 have f4:F.fn 244:=by rw[uu];trivial
 have f5:F.fn 151:=by rw[uu];trivial
 clear uu;refine callsIn_of_wp_marks func148 rfl f1 ?_ bh;simp only[ntmps148,C2,PZ,F3,X5,Q7,F5,G5,K6,V5,X3,P5]
 gi_wp2_with (first
  | (gi_at_call 172;refine(Cy (uF ia ha _)).mono ?_;rintro e w' ⟨rfl,rfl⟩)
  | (gi_at_call 206;refine(zJ9 F 2 f3 bh _ _ _ _).mono ?_;rintro e w' ⟨rfl,rfl⟩))
 have z0:(((((w.alloc (EY (some ⟨db,0,none⟩))).alloc (o_ #[I3] 42)).alloc (ZX ((aJ ia:Nat):Int))).alloc (FY ao t.size cap)).alloc YX).heap.size=w.heap.size+1+1+1+1+1:=by simp
 have QI:Below w.heap.size w (((((w.alloc (EY (some ⟨db,0,none⟩))).alloc (o_ #[I3] 42)).alloc (ZX ((aJ ia:Nat):Int))).alloc (FY ao t.size cap)).alloc YX):=(((((r_ _ w).alloc (n_ _) _).alloc (by simp) _).alloc (by simp;omega) _).alloc (by simp;omega) _).alloc (by simp;omega) _;have y0:=pQ w (Value.pointer (some ⟨db,0,none⟩)) 25;have y1:=pQ (w.alloc (EY (some ⟨db,0,none⟩))) I3 42;have y2:=pQ ((w.alloc (EY (some ⟨db,0,none⟩))).alloc (o_ #[I3] 42)) (i_ k_ ((aJ ia:Nat):Int)) 3;have y3:=pQ (((w.alloc (EY (some ⟨db,0,none⟩))).alloc (o_ #[I3] 42)).alloc (ZX ((aJ ia:Nat):Int))) (FZ ao t.size cap) 226;have y4:=pQ ((((w.alloc (EY (some ⟨db,0,none⟩))).alloc (o_ #[I3] 42)).alloc (ZX ((aJ ia:Nat):Int))).alloc (FY ao t.size cap)) (i_ k_ 96) 3;simp only[World.size_alloc] at y1 y2 y3 y4;replace y0:=iC YX (iC (FY ao t.size cap) (iC (ZX ((aJ ia:Nat):Int)) (iC (o_ #[I3] 42) y0)));replace y1:=iC YX (iC (FY ao t.size cap) (iC (ZX ((aJ ia:Nat):Int)) y1));replace y2:=iC YX (iC (FY ao t.size cap) y2);replace y3:=iC YX y3;obtain⟨d0,_⟩:=y0;obtain⟨d1,e1⟩:=y1;obtain⟨d2,e2⟩:=y2;obtain⟨d3,_⟩:=y3;obtain⟨d4,_⟩:=y4;generalize (((((w.alloc (EY (some ⟨db,0,none⟩))).alloc (o_ #[I3] 42)).alloc (ZX ((aJ ia:Nat):Int))).alloc (FY ao t.size cap)).alloc YX)=wR at *;have hB:=hk.lo;have GN:Ql wR wR B db (w.heap.size+1) (w.heap.size+1+1) S s:=⟨S,hk.on QI,fun e=>by have:=hk.lt e;omega,fun e=>by have:=hk.lt e;omega,aG.refl (by omega)⟩;have UD:∀ k,w.heap.size<=k->¬S k:=fun k h e=>by have:=hk.lt e;omega
 have Px:∀ j u,(Y2 t)[j]?=some u->wR.cell? ⟨iW ao,j,none⟩=some u:=fun j u h=>aA QI (Yf j u h);have HAR:Hid (aJ ia+24<=50/\1<=aJ ia):=aa (by unfold aJ;omega);have bu:Hid (bT t.size<=24):=aa (by unfold bT;omega);have LG:=aa hk;have fv:Hid (∀ j u,(Y2 t)[j]?=some u->iW ao<w.heap.size/\¬S (iW ao)):=fun j u h=>⟨AZ _ _ (Yf j u h),yq (by have:=(Z0.1 h).1;rw[B_] at this;omega)⟩;clear hk Yf yq;have HN0:Hid (((aJ ia:Nat):Int)=((aJ ia+([]:List Nat).length:Nat):Int)):=rfl;refine wpIn_rangeFunc_ownH bh (by decide) (gf:=244) (lb:=#[.pointer (some ⟨w.heap.size+1+1+1,0,none⟩),.pointer (some ⟨w.heap.size+1+1+1+1,0,none⟩)]) rfl f4 (enters_of func244 (by kernel_rfl) rfl)
  (zEY F 2 f4 bh (by decide) (w.heap.size+1+1+1) (w.heap.size+1+1+1+1) ao cap t (by omega) wR (by omega) (by omega) d3 d4 hI) (fun h k=>jT.trans h k) (fun W l o o' hl h1 _ _=>⟨P9 (by omega),P9 (by omega)⟩) (r_ _ _) (fun _=>rfl)
  (fun pre W=>CH wR W B db (w.heap.size+1) (w.heap.size+1+1) S s (aJ ia) t pre)
  (fun c pre W=>c=.ret/\DH wR W B db (w.heap.size+1) (w.heap.size+1+1) S s (aJ ia) t pre)
  (fun p W W' Hm hs hg hr=>hs.grown (by omega) hg hr) (fun c p W W' Hm hs hg hr=>⟨hs.1,hs.2.grown (by omega) hg hr⟩)
  ⟨rfl,GN,by rw[<-HN0.out];exact d2,e2,d1,e1⟩
  (fun x a' W=>a'={ tmps:=#[.pointer (some ⟨db,0,none⟩),.int .i64 (ia:Int),.slice ao t.size cap,.pointer (some ⟨w.heap.size,0,none⟩),undef,undef,.pointer (some ⟨w.heap.size+1,0,none⟩),.pointer (some ⟨w.heap.size+1+1,0,none⟩),pP (iW ao) t x,undef,.int .i64 (ia:Int),.int .i64 ((aJ ia:Nat):Int),.slice ao t.size cap,.func (.func 244) #[] #[.pointer (some ⟨w.heap.size+1+1+1,0,none⟩),.pointer (some ⟨w.heap.size+1+1+1+1,0,none⟩)],pP (iW ao) t x,undef,undef,undef,undef,undef,undef,undef,undef,undef,undef],defers:=[] })
  (fun x a' p W W' Hm hs hg hr=>hs) ?assign ?body ?done ?stop
 case assign=>
  rintro l pre x W K hL hK
  gi_wp2
  exact hK _ _ (KeepsFrom.refl _ _) (jT.refl _ _ _) hL rfl
 case body=>
  rintro l pre x a' W hl ⟨r,hr⟩ hL rfl Aa;have cd:W.cell? ⟨w.heap.size,0,none⟩=some (.pointer (some ⟨db,0,none⟩)):=(b_ (a:=⟨w.heap.size,0,none⟩) (hL.x.Ma (k:=w.heap.size) (by omega) (by omega) (by omega) (UD _ (by omega)))).trans d0;have hcv:=zGk W (iW ao) t x (fun j u h=>(b_ (a:=⟨iW ao,j,none⟩) (hL.x.Ma (k:=iW ao) (by have:=(fv.out j u h).1;omega) (by have:=(fv.out j u h).1;omega) (by have:=(fv.out j u h).1;omega) (fv.out j u h).2)).trans (Px j u h));have ca:=hL.ca;have bj:=zHO (aJ ia) t s pre x hL.ok;obtain⟨S',Pn,RP,Hh,Zb⟩:=hL.x.ex;have Uy:=aa (sH ((aJ ia+pre.length:Nat):Int) (dF t x) W Pn);have hai:((aJ ia+pre.length:Nat):Int)<=100:=by have:=HAR.out;have:=bu.out;omega
  have a0m:(0:Int)<=((aJ ia+pre.length:Nat):Int):=by omega
  have HAI:Hid (((aJ ia+pre.length:Nat):Int)+1=((aJ ia+(pre++[x]).length:Nat):Int)):=aa (by rw[YY];simp;omega);have HL:=aa hL;have Ce:=aa Zb;have HK':=aa Pn;have tj:=aa bj;have TK:=aa (F4 hL.cr (F4 hL.fr hL.fa));clear hL Zb Pn bj;generalize aJ ia+pre.length=FH at *;generalize dF t x=pc at *;generalize pP (iW ao) t x=pv at *;generalize dO (gN (aJ ia) t s pre).2 (FH:Int) pc=f at *;generalize cV (gN (aJ ia) t s pre).2 (FH:Int) pc=s2 at *;have xg:Hid (∀ W2,Xa W W2 B db S' s2->Ql wR W2 B db (w.heap.size+1) (w.heap.size+1+1) S s2/\KeepsFrom wR.heap.size W W2/\jT (w.heap.size+1+1+1) (w.heap.size+1+1+1+1) W W2/\W2.cell? ⟨w.heap.size+1+1,0,none⟩=some (.int .i64 (FH:Int))/\W2.frozen? ⟨w.heap.size+1+1,0,none⟩=false/\W2.cell? ⟨w.heap.size+1,0,none⟩=some .nilIface/\W2.frozen? ⟨w.heap.size+1,0,none⟩=false):=fun W2 ⟨S2,lf,Ub⟩=>by
   have hzW:=Ce.out.Ia.size;have fr:=Ub.Ma (w.heap.size+1) (by omega) RP;have fa:=Ub.Ma (w.heap.size+1+1) (by omega) Hh;have fs:=Ub.Ma (w.heap.size+1+1+1) (by omega) (fun e=>(Ce.out.Ma (w.heap.size+1+1+1) (by omega) (fun e=>e.elim (fun e=>by omega) fun e=>e.elim (fun e=>by omega) (UD _ (by omega)))).2 (.inr (.inr e)));have fn:=Ub.Ma (w.heap.size+1+1+1+1) (by omega) (fun e=>(Ce.out.Ma (w.heap.size+1+1+1+1) (by omega) (fun e=>e.elim (fun e=>by omega) fun e=>e.elim (fun e=>by omega) (UD _ (by omega)))).2 (.inr (.inr e)));refine⟨⟨S2,lf,fr.2,fa.2,Ce.out.Ia.trans Ub.Ia,fun j hj hn=>?_⟩,(zFz HK'.out Ub).from _,⟨fs.1,fn.1⟩,(b_ (a:=⟨w.heap.size+1+1,0,none⟩) fa.1).trans ca,(CZ (a:=⟨w.heap.size+1+1,0,none⟩) fa.1).trans TK.out.2.2,(b_ (a:=⟨w.heap.size+1,0,none⟩) fr.1).trans TK.out.1,(CZ (a:=⟨w.heap.size+1,0,none⟩) fr.1).trans TK.out.2.1⟩;obtain⟨g1,g2⟩:=Ce.out.Ma j hj hn;obtain⟨g3,g4⟩:=Ub.Ma j (by omega) (fun e=>g2 (.inr (.inr e)));exact⟨g3.trans g1,fun e=>e.elim (fun e=>g2 (.inl e)) fun e=>e.elim (fun e=>g2 (.inr (.inl e))) g4⟩
  by_cases hf:f=0
  ·subst hf;rw[aR] at Uy
   gi_wp2_with (gi_at_call 151;refine(CallsIn.inRound l (Cy Uy.out)).mono ?_;rintro e W2 ⟨rfl,al⟩;obtain⟨x2,GF,JF,EM,BX,KH,NM⟩:=xg.out W2 al;have HX:=aa x2;have Qy:=aa GF;have lq:=aa JF;have Nz:=aa (F4 KH NM);clear x2 GF JF KH NM al)
   refine⟨Qy.out.trans ((P4 _ _ _).from _),jT.trans lq.out ⟨h_ _ _ _ _ (by show w.heap.size+1+1+1≠w.heap.size+1+1;omega),h_ _ _ _ _ (by show w.heap.size+1+1+1+1≠w.heap.size+1+1;omega)⟩,?_⟩;refine⟨by rw[tj.out],by rw[tj.out];exact HX.out.CR (by omega) _,?_,by rw[EZ];exact BX,(t_ _ _ _ _ (by simp)).trans Nz.out.1,by rw[EZ];exact Nz.out.2⟩;rw[<-HAI.out];exact u_ _ _ _ EM
  ·rw[aP hf] at Uy;have HF:=aa hf
   gi_wp2_with (gi_at_call 151;refine(CallsIn.inRound l (Cy Uy.out)).mono ?_;rintro e W2 ⟨rfl,al⟩;obtain⟨x2,GF,JF,EM,BX,KH,NM⟩:=xg.out W2 al;have HX:=aa x2;have Qy:=aa GF;have lq:=aa JF;clear x2 GF JF al)
   refine⟨Qy.out.trans ((P4 _ _ _).from _),rfl,by rw[tj.out];exact HF.out,by rw[tj.out];exact HX.out.Uu (by omega) _,?_⟩;rw[tj.out,aP HF.out];exact u_ _ _ _ KH
 case done=>
  rintro D ys W hD rfl hL hK;have hr:=hL.cr;have hfz:=hL.fr;have HL:=aa hL;clear hL
  gi_wp2
  have hK':=(P4 W ⟨w.heap.size+1,0,none⟩ .nilIface).same D _ hK rfl;refine⟨by simp,.inl ⟨_,_,rfl,run_takeDeferred hK',?_⟩⟩;have yr:=cell_kept (u_ W ⟨w.heap.size+1,0,none⟩ .nilIface hr) (grownBy_putObj' _ D (.deferred none)) (fun r e=>by cases e;exact⟨_,hK',rfl⟩);have UB:=(HL.out.x.Uu (by omega) .nilIface).grown (by omega) (grownBy_putObj' _ D (.deferred none)) (fun r e=>by cases e;exact⟨hD,_,hK',rfl⟩);have XO:gN (aJ ia) t s (T0 (bT t.size))=Ea (aL (aJ ia) (bI t)) s:=rfl;have Ek:=HL.out.ok;rw[XO] at UB Ek;refine⟨.nilIface,?_,by rw[Ek];rfl,UB.act QI hB (by omega) (by omega)⟩;simp[results,Tryz.f148,go_sem,yr]
 case stop=>
  rintro D c pre W hD ⟨k,hk,ry⟩ ⟨rfl,hL⟩ hK
  gi_wp2
  refine⟨by simp,.inl ⟨_,_,rfl,run_takeDeferred hK,?_⟩⟩;have yr:=cell_kept hL.cr (grownBy_putObj' _ D (.deferred none)) (fun r e=>by cases e;exact⟨_,hK,rfl⟩);have UB:=hL.x.grown (by omega) (grownBy_putObj' _ D (.deferred none)) (fun r e=>by cases e;exact⟨hD,_,hK,rfl⟩);have xe:=hL.no;subst ry;have XO:Ea (aL (aJ ia) (bI t)) s=gN (aJ ia) t s (T0 k):=zHE (N:=bT t.size) hk xe;rw[<-XO] at UB yr;refine⟨pa (Ea (aL (aJ ia) (bI t)) s).1,?_,rfl,UB.act QI hB (by omega) (by omega)⟩;simp[results,Tryz.f148,go_sem,yr]
end
end
section
open Go.RowKit Go.Joins
attribute [local go_sem ↓] Go.wp_at_zero Go.wp_at_succ
theorem zBj (ia first size:Nat):(aH (iG ia first size)).data.toList=nT.data.toList++(jX ia first size++WY 80 0):=by
 have e:(iG ia first size).size=16:=rfl;unfold aH;rw[e];unfold iG;rw[L1];simp
theorem wA (ia first size:Nat):Y4 (aH (iG ia first size)).data.toList nT.data.toList=true:=by
 rw[zBj];simp[Y4]
theorem zHm (ia first size:Nat):(⟨(Z3 (aH (iG ia first size)).data.toList nT.data.toList).toArray⟩:ByteArray)=⟨(jX ia first size++WY 80 0).toArray⟩:=by
 have h:=wA ia first size;unfold Z3;rw[h,zBj];simp
theorem zGe (ia first size:Nat) (ha:ia<=1) (hf:1<=first) (Ld:first<=2) (hs:size<=2280) (w:World):
  Calls p_ 171 #[.string (aH (iG ia first size))] w fun e w'=>e=.returned (.tuple #[.agg #[.int .i64 (ia:Int),.int .i64 (first:Int),.int .i64 (size:Int)],.bool true])/\Below w.heap.size w w':=by
 have h:=zJa (aH (iG ia first size)) ⟨(jX ia first size++WY 80 0).toArray⟩ ia first (size % 256) (size / 256) (wA ..) (zHm ..) (by show 4<=(jX ia first size++WY 80 0).length;simp[jX]) (by show(jX ia first size++WY 80 0).length<=96;simp[jX])
  (by show(UInt8.ofNat ia).toNat=ia;rw[UInt8.toNat_ofNat'];omega) (by show(UInt8.ofNat first).toNat=first;rw[UInt8.toNat_ofNat'];omega) (by show(UInt8.ofNat size).toNat=_;rw[UInt8.toNat_ofNat']) (by show(UInt8.ofNat (size / 256)).toNat=_;rw[UInt8.toNat_ofNat'];omega) ha hf (by omega) (by omega) (by omega) w (by omega)
 rw[show size / 256*256+size % 256=size by omega] at h;exact h
section
variable {B db:Nat} {S:Nat->Prop} {s:Bb}
theorem zFc (w:World) (hk:DK w B db S s) (hd:s.down=false) (at_:Nat) (t:ByteArray) (h:s.now[at_]?=some t):Calls p_ 170 #[.pointer (some ⟨db,0,none⟩),.int .i64 (at_:Int)] w fun e w'=>e=.returned (.tuple #[.string t,.nilIface])/\w'=w:=by
 have hr:=tV (at_:Int) w hk;have hl:=(Z0.1 h).1;have e1:lI s (at_:Int)=0:=by unfold lI;rw[hd,if_neg (by decide),if_neg (by omega)]
 have e2:nX s (at_:Int)=t:=by unfold nX;rw[if_pos e1,Z1,h];rfl
 rw[e1,e2,aR] at hr;exact hr
theorem zBX (ia first size:Nat) (w:World) (hk:DK w B db S s) (hd:s.down=false) (ha:ia<=1) (hf:1<=first) (Ld:first<=2) (hs:size<=2280) (Rm:54<=s.now.length) (hr:s.now[0]?=some (aH (iG ia first size))):
  Calls p_ 98 #[.pointer (some ⟨db,0,none⟩)] w fun e w'=>e=.returned (.tuple #[.agg #[.int .i64 (ia:Int),.int .i64 (first:Int),.int .i64 (size:Int)],.nilIface])/\Below w.heap.size w w':=by
 have HP:=fun w'=>aa (zGe ia first size ha hf Ld hs w');have di:Hid (∀ W,Below w.heap.size w W->Calls p_ 170 #[.pointer (some ⟨db,0,none⟩),.int .i64 0] W fun e w'=>e=.returned (.tuple #[.string (aH (iG ia first size)),.nilIface])/\w'=W):=fun W hb=>zFc W (hk.on hb) hd 0 _ hr;have cx:Hid (∀ W,Below w.heap.size w W->Calls p_ 79 #[.pointer (some ⟨db,0,none⟩)] W fun e w'=>e=.returned (.int .i64 (s.now.length:Int))/\w'=W):=fun W hb=>mU W (hk.on hb);have Pg:=hk.many;clear hk hd hr;generalize aH (iG ia first size)=t at *;generalize s.now.length=n at *;have a0k:¬(n:Int)<54:=by omega
 have n200:(n:Int)<=200:=by omega
 obtain⟨p0,p1,p2,Nc,OD,pf,-⟩:=Nf w JX rfl rfl;go_enter func98,ntmps98;go_wp2_with fail;refine(di.out _ Nc).mono ?_;rintro e w1 ⟨rfl,rfl⟩;go_wp2_with fail;refine((HP _).out).mono ?_;rintro e w2 ⟨rfl,za⟩;replace ⟨p0,p1,p2⟩:=Fe za p0 p1 p2;have pf2:=fun j=>aE za OD (pf j);have Qi:=aB Nc (n_ _) za;have Cb:=aa Qi;clear pf za Nc;have Rn:w.heap.size<w2.heap.size:=AZ _ _ p0;have su:=aB Qi (n_ _) (a_ w2 (IX (ia:Int) (first:Int) (size:Int)));have Zc:=aa su;clear su Qi OD;go_wp2_with fail;refine(cx.out _ Zc.out).mono ?_;rintro e w3 ⟨rfl,rfl⟩;go_wp2;obtain⟨k0,k1,k2⟩:=Ug (x:=.int .i64 (ia:Int)) (y:=.int .i64 (first:Int)) (z:=.int .i64 (size:Int)) p0 p1 p2;have HV:=aa (((Cb.out.setCell (p:=⟨w.heap.size,0,none⟩) (n_ _) (.int .i64 (ia:Int))).setCell (p:=⟨w.heap.size,1,none⟩) (n_ _) (.int .i64 (first:Int))).setCell (p:=⟨w.heap.size,2,none⟩) (n_ _) (.int .i64 (size:Int)));generalize ((w2.setCell ⟨w.heap.size,0,none⟩ (i_ k_ (ia:Int))).setCell ⟨w.heap.size,1,none⟩ (i_ k_ (first:Int))).setCell ⟨w.heap.size,2,none⟩ (i_ k_ (size:Int))=V at *;have j0:=aA (a_ V (IX (ia:Int) (first:Int) (size:Int))) k0;have j1:=aA (a_ V (IX (ia:Int) (first:Int) (size:Int))) k1;have j2:=aA (a_ V (IX (ia:Int) (first:Int) (size:Int))) k2;exact bodyPost_ret (v:=.tuple #[.agg #[.int .i64 (ia:Int),.int .i64 (first:Int),.int .i64 (size:Int)],.nilIface]) (by simp[results,results98,go_sem,j0,j1,j2]) rfl ⟨rfl,aB HV.out (n_ _) (a_ _ _)⟩
theorem zHS (w:World) (hk:DK w B db S s) (hd:s.down=false) (hn:50<s.now.length):
  Calls p_ 150 #[.pointer (some ⟨db,0,none⟩),.int .i64 50] w fun e w'=>e=.returned (.tuple #[.int .i64 (aM s.now:Int),.nilIface])/\Below w.heap.size w w':=by
 have hr:s.now[50]?=some s.now[50]:=VY hn;have ru:=hk.whole.1 _ (MZ hn);have di:=aa (zFc w hk hd 50 _ hr);have Ci:aM s.now=if (ae s.now[50] 1).isSome then 2 else 1:=by unfold aM;rw[hr];rfl
 generalize s.now[50]=t at *;clear hk hd hr hn
 cases jz:ae t 1 with
 | none=>
  rw[jz] at Ci;have e:aM s.now=1:=Ci;rw[e];have HD:=fun w'=>aa (wQ t 1 (by decide) ru jz w');clear Ci e jz;go_enter func150,ntmps150;go_wp2_with (first
   | (go_at_call 170;refine di.out.mono ?_;rintro e w1 ⟨rfl,rfl⟩)
   | (go_at_call 209;refine((HD _).out).mono ?_;rintro e w2 ⟨rfl,za⟩)
   | fail)
  go_ret2;exact⟨rfl,za⟩
 | some kd=>
  obtain⟨k,d⟩:=kd;rw[jz] at Ci;have e:aM s.now=2:=Ci;rw[e];have HD:=fun w'=>aa (wL t 1 k d (by decide) ru jz w');clear Ci e jz;go_enter func150,ntmps150;go_wp2_with (first
   | (go_at_call 170;refine di.out.mono ?_;rintro e w1 ⟨rfl,rfl⟩)
   | (go_at_call 209;refine((HD _).out).mono ?_;rintro e w2 ⟨rfl,za⟩)
   | fail)
  go_ret2;exact⟨rfl,za⟩
end
theorem zE8 (o:Uj) (s:Bb) (j:Nat) (h:∀ a d,o=some (a,d)->a≠j):(ye o s).now[j]?=s.now[j]?:=by
 cases o with
 | some x=>
  obtain⟨a,d⟩:=x;have ha:=h a d rfl;show(cV s a d).now[j]?=_;unfold cV;split
  ·rfl
  ·split
   ·show((bR s).now.set _ _)[j]?=_;rw[Z1,SZ ha,(eH s).1]
   ·rw[(eH s).1]
 | none=>
  show(bZ s).now[j]?=_;unfold bZ;split
  ·show(bR s).now[j]?=_;rw[(eH s).1]
  ·rw[(eH s).1]
theorem zKV (l:List Uj) (j:Nat):∀ s,(∀ o∈l,∀ a d,o=some (a,d)->a≠j)->(Ea l s).2.now[j]?=s.now[j]?:=by
 induction l with
 | nil=>intro s _;rfl
 | cons o l ih=>
  intro s h;show(if Bg o s=0 then Ea l (ye o s) else (Bg o s,ye o s)).2.now[j]?=_;split
  ·rw[ih _ fun o' h'=>h o' (D1 _ h')];exact zE8 o s j (h o (Y0 ..))
  ·exact zE8 o s j (h o (Y0 ..))
theorem zMw {s:Bb} (h:cD s=0):(bR s).down=false:=by
 unfold cD at h
 cases hd:s.down with
 | true=>rw[hd] at h;simp at h
 | false=>
  rw[hd] at h;by_cases hl:s.left=0
  ·simp[hl] at h
  ·unfold bR;simp[hd,hl]
theorem zJK {s:Bb} (h:cD s=0):(bZ s).down=false:=by
 unfold bZ;rw[if_pos h];exact zMw h
theorem zG3 {N M:List ByteArray} (h:N[50]?=M[50]?):aM N=aM M:=by unfold aM;rw[h]
theorem zIK {t:ByteArray} (h:t.size=0):t=⟨#[]⟩:=by
 apply D8;exact Array.size_eq_zero_iff.1 h
def zIp (rv:Value) (f ia first size:Nat):Prop:=∃ x y z:Int,rv=.agg #[.int .i64 x,.int .i64 y,.int .i64 z]/\(f=0->x=(ia:Int)/\y=(first:Int)/\z=(size:Int))
def dC (ia:Nat) (rows:List ma) (s:Bb):Nat×Bb:=Ea (oH ia (aM s.now) rows) s
theorem zFV (ia:Nat) (rows:List ma) (s:Bb):dC ia rows s =
  if (Ea (aL (aJ ia) (bI (aO rows))) s).1=0 then
   if cD (Ea (aL (aJ ia) (bI (aO rows))) s).2=0 then
    if dO (bZ (Ea (aL (aJ ia) (bI (aO rows))) s).2) 0 (eK ia (aM s.now) rows)=0 then (cD (cV (bZ (Ea (aL (aJ ia) (bI (aO rows))) s).2) 0 (eK ia (aM s.now) rows)),bZ (cV (bZ (Ea (aL (aJ ia) (bI (aO rows))) s).2) 0 (eK ia (aM s.now) rows)))
    else (dO (bZ (Ea (aL (aJ ia) (bI (aO rows))) s).2) 0 (eK ia (aM s.now) rows),cV (bZ (Ea (aL (aJ ia) (bI (aO rows))) s).2) 0 (eK ia (aM s.now) rows))
   else (cD (Ea (aL (aJ ia) (bI (aO rows))) s).2,bZ (Ea (aL (aJ ia) (bI (aO rows))) s).2)
  else Ea (aL (aJ ia) (bI (aO rows))) s:=by
 unfold dC oH;rw[gE];by_cases h1:(Ea (aL (aJ ia) (bI (aO rows))) s).1=0
 ·rw[if_pos h1,if_pos h1];generalize (Ea (aL (aJ ia) (bI (aO rows))) s).2=s1;rw[gE,jC];show(if cD s1=0 then _ else (cD s1,bZ s1))=_;by_cases h2:cD s1=0
  ·rw[if_pos h2,if_pos h2];show Ea _ (bZ s1)=_;generalize bZ s1=s2;rw[gE,jC];show(if dO s2 0 (eK ia (aM s.now) rows)=0 then Ea _ (cV s2 0 (eK ia (aM s.now) rows)) else (dO s2 0 (eK ia (aM s.now) rows),cV s2 0 (eK ia (aM s.now) rows)))=_;by_cases h3:dO s2 0 (eK ia (aM s.now) rows)=0
   ·rw[if_pos h3,if_pos h3,T1,jC];rfl
   ·rw[if_neg h3,if_neg h3]
  ·rw[if_neg h2,if_neg h2]
 ·rw[if_neg h1,if_neg h1]
end
structure jF (Ya:List ma) (ds:List (List ma)) (rows:List ma):Prop where
 eq:ds.foldl aK Ya=rows
 Mi:∀ k,((ds.take k).foldl aK Ya).length<=40
 dl:∀ d∈ds,d.length<=12/\bS d=0
theorem jF.nil {rows:List ma} (h:rows.length<=40):jF rows [] rows:=⟨rfl,fun k=>by rw[List.take_nil];exact h,fun d hd=>absurd hd X0⟩
theorem jF.MM {rows:List ma} (h:jF Ya ds rows):rows.length<=40:=by
 have:=h.Mi ds.length;rw[O1,h.eq] at this;exact this
theorem jF.snoc {rows:List ma} (h:jF Ya ds rows) (hl:l.length<=12) (hc:bS l=0) (hf:(aK rows l).length<=40):jF Ya (ds++[l]) (aK rows l):=by
 refine⟨by rw[C8,h.eq];rfl,fun k=>?_,fun d hd=>?_⟩
 ·by_cases hk:k<=ds.length
  ·rw[E2 hk];exact h.Mi k
  ·rw[LZ (by rw[YY];simp;omega),C8,h.eq];exact hf
 ·rcases Q0.1 hd with hd|hd
  ·exact h.dl d hd
  ·rw[GZ] at hd;rw[hd];exact⟨hl,hc⟩
theorem zBS:∀ (ds:List (List ma)) (rows:List ma),fH rows->(∀ d∈ds,bS d=0)->fH (ds.foldl aK rows)
 | [],_,h,_=>h
 | d::ds,_,h,hd=>zBS ds _ (zEG h (hd d (Y0 ..))) fun e he=>hd e (D1 _ he)
theorem jF.we {rows:List ma} (h:jF Ya ds rows) (hf:fH Ya):fH rows:=by
 rw[<-h.eq];exact zBS ds Ya hf fun d hd=>(h.dl d hd).2
structure cQ (d:Bb) (ia first u:Nat) (rows:List ma):Prop where
 down:d.down=false
 wait:d.wait=[]
 kept:d.kept=d.now
 ex:∃ Ya ds,fU d.now d.now.length ia first Ya ds u/\jF Ya ds rows
def ZS (d:Bb) (rows:List ma):Prop:=∃ ia first u,cQ d ia first u rows
structure bg where
 d:Bb
 ia:Nat
 first:Nat
 used:Nat
 rows:List ma
def fA (x:bg):Prop:=cQ x.d x.ia x.first x.used x.rows
section
variable {d:Bb} {ia first u:Nat} {rows:List ma}
theorem cQ.we (h:cQ d ia first u rows):fH rows:=by
 obtain⟨Ya,ds,h1,h2⟩:=h.ex;exact h2.we h1.we
theorem cQ.Mi (h:cQ d ia first u rows):rows.length<=40:=by
 obtain⟨Ya,ds,h1,h2⟩:=h.ex;exact h2.MM
theorem cQ.Ks (h:cQ d ia first u rows):54<=d.now.length:=by
 obtain⟨Ya,ds,h1,h2⟩:=h.ex;exact h1.Ks
theorem cQ.a1 (h:cQ d ia first u rows):ia<=1/\1<=first/\first<=2:=by
 obtain⟨Ya,ds,h1,h2⟩:=h.ex;exact⟨h1.a1,h1.f1⟩
theorem cQ.us (h:cQ d ia first u rows):u<=d.now.length-50:=by
 obtain⟨Ya,ds,h1,h2⟩:=h.ex;have:=h1.Ks;exact h1.has.used (by omega)
theorem vL {K:List ByteArray} (h:fU K n ia first Ya ds u) (hr:jF Ya ds rows):cQ ⟨K,K,[],-1,false⟩ ia first u rows:=⟨rfl,rfl,rfl,Ya,ds,by show fU K K.length ia first Ya ds u;rw[h.len];exact h,hr⟩
end
def zc (x:bg):Nat×bg:=if (dC (1-x.ia) x.rows x.d).1=0 then (0,⟨(dC (1-x.ia) x.rows x.d).2,1-x.ia,aM x.d.now,0,x.rows⟩) else ((dC (1-x.ia) x.rows x.d).1,{ x with d:=(dC (1-x.ia) x.rows x.d).2 })
def rN (d:Bb) (n:Nat) (P:List ma->Prop):Prop:=d.down=true/\∀ k,(kR d k).now.length=n/\∃ rows,P rows/\ZS (kR d k) rows
theorem uQ (ia:Nat) (rows:List ma) (s:Bb):(dC ia rows s).2.now.length=s.now.length:=fS _ _
theorem fA.gr {x:bg} (h:fA x):(zc x).2.d.now.length=x.d.now.length/\(zc x).2.rows=x.rows/\(((zc x).1=0/\fA (zc x).2/\(zc x).2.used=0)∨((zc x).1=10/\rN (zc x).2.d x.d.now.length (·=x.rows))):=by
 obtain⟨Ya,ds,h1,h2⟩:=h.ex;have Dr:=cQ.we h;have ee:=cQ.Mi h;have ha:=h1.a1;have run:=zFe (s:=x.d) (n:=x.d.now.length) (ia:=1-x.ia) (rows:=x.rows) (fun K=>fU K x.d.now.length x.ia x.first Ya ds x.used) (fun K=>fU K x.d.now.length x.ia x.first Ya ds x.used∨fU K x.d.now.length (1-x.ia) (aM x.d.now) x.rows [] 0) h.down rfl h1.Ks (by omega) Dr ee
  (fun K hK=>by rw[mW h.wait hK,h.kept];exact h1) h1
  (fun K j d hj1 Dj hK=>hK.yd (NZ ..) fun i hi=>SZ (by omega)) (fun K hK=>.inl hK) (fun K hK=>.inr hK)
 have hlen:=uQ (1-x.ia) x.rows x.d;unfold dC at hlen;unfold zc dC;generalize Ea (oH (1-x.ia) (aM x.d.now) x.rows) x.d=r at *;by_cases h0:r.1=0
 ·obtain⟨g1,g2,g3,g4⟩:=run.Ak h0;rw[if_pos h0];refine⟨hlen,rfl,.inl ⟨rfl,⟨g1,g2,g3,x.rows,[],?_,.nil ee⟩,rfl⟩⟩;show fU r.2.now r.2.now.length _ _ _ _ _;rw[hlen];exact g4
 ·obtain⟨g1,g2,g3⟩:=run.bad h0;rw[if_neg h0];refine⟨hlen,rfl,.inr ⟨g1,g2,fun k=>?_⟩⟩;have hA:fX r.2 (fJ k 0 r.2.wait r.2.kept):=⟨k,rfl⟩;have e:kR r.2 k=⟨fJ k 0 r.2.wait r.2.kept,fJ k 0 r.2.wait r.2.kept,[],-1,false⟩:=rfl;show(kR r.2 k).now.length=_/\∃ rows,rows=x.rows/\ZS (kR r.2 k) rows;rw[e];rcases g3 _ hA with g|g
  ·exact⟨g.len,x.rows,rfl,_,_,_,vL g h2⟩
  ·exact⟨g.len,x.rows,rfl,_,_,_,vL g (.nil ee)⟩
theorem fA.yg {x:bg} (h:fA x) (hl:x.d.left=-1):(zc x).1=0/\(zc x).2.d.left=-1:=by
 have ha:=cQ.a1 h;obtain⟨q1,q2⟩:=zBp (s:=x.d) (n:=x.d.now.length) (ia:=1-x.ia) (rows:=x.rows) h.down hl rfl (cQ.Ks h) (by omega) (cQ.we h) (cQ.Mi h);have e:(dC (1-x.ia) x.rows x.d).1=0:=q1;unfold zc;rw[if_pos e];exact⟨rfl,q2⟩
def gO (x:bg) (l:List ma):Nat×bg:=if x.d.now.length-50-x.used<l.length+1 then zc x else (0,x)
def gM (c:bg) (l rows:List ma):Nat×bg:=
 ((og 50 (c.d.now.length-50) c.first c.used c.d l).1,⟨(og 50 (c.d.now.length-50) c.first c.used c.d l).2.2,c.ia,c.first,(og 50 (c.d.now.length-50) c.first c.used c.d l).2.1,if (og 50 (c.d.now.length-50) c.first c.used c.d l).1=0 then rows else c.rows⟩)
def Uc (x:bg) (l:List ma):Nat:=if jW l≠0 then jW l else if 40<(aK x.rows l).length∨x.d.now.length-50<l.length+1 then 8 else 0
def Ha (x:bg) (l:List ma):Nat×bg:=
 if Uc x l≠0 then (Uc x l,x) else if (gO x l).1≠0 then gO x l else gM (gO x l).2 l (aK x.rows l)
theorem tU {x:bg} (h:Uc x l=0):l.length<=12/\bS l=0/\(aK x.rows l).length<=40/\l.length+1<=x.d.now.length-50:=by
 unfold Uc at h;split at h
 case isTrue h1=>exact absurd h h1
 case isFalse h1=>
  split at h
  ·cases h
  ·rename_i h2;have hd:jW l=0:=by simpa using h1
   unfold jW at hd;split at hd
   ·cases hd
   ·exact⟨by omega,hd,by omega,by omega⟩
theorem fA.add {c:bg} (h:fA c) (hl:l.length<=12) (hc:bS l=0) (hr:l.length+1<=c.d.now.length-50-c.used) (hf:(aK c.rows l).length<=40):
  (gM c l (aK c.rows l)).2.d.now.length=c.d.now.length/\(((gM c l (aK c.rows l)).1=0/\fA (gM c l (aK c.rows l)).2/\(gM c l (aK c.rows l)).2.rows=aK c.rows l/\(gM c l (aK c.rows l)).2.used=c.used+l.length+1)∨((gM c l (aK c.rows l)).1=10/\rN (gM c l (aK c.rows l)).2.d c.d.now.length (fun r=>r=c.rows∨r=aK c.rows l))):=by
 obtain⟨Ya,ds,h1,h2⟩:=h.ex;have Ht:=cQ.us h;have Rm:=h1.Ks;have JN:vj l (c.d.now.length-50-c.used)=0:=by
  unfold vj;rw[if_neg (by omega),if_neg (by omega)];exact hc
 have run:=zMJ (l:=l) h.down h.wait h.kept (show 50+(c.d.now.length-50)<=c.d.now.length by omega) h1.has hc (by omega);have hlen:=fS (iP (50+c.used) (cB (c.first+c.used) l) (c.d.now.length-50-c.used)) c.d;have eR:og 50 (c.d.now.length-50) c.first c.used c.d l=((Ea (iP (50+c.used) (cB (c.first+c.used) l) (c.d.now.length-50-c.used)) c.d).1,if (Ea (iP (50+c.used) (cB (c.first+c.used) l) (c.d.now.length-50-c.used)) c.d).1=0 then c.used+l.length+1 else c.used,(Ea (iP (50+c.used) (cB (c.first+c.used) l) (c.d.now.length-50-c.used)) c.d).2):=by
  unfold og;rw[if_neg (by rw[JN];decide)]
 unfold gM;rw[eR];generalize Ea (iP (50+c.used) (cB (c.first+c.used) l) (c.d.now.length-50-c.used)) c.d=r at *;have on:∀ K ds' u',nM c.d.now K 50 (c.d.now.length-50) c.first (50+c.used) ds' u'->fU K c.d.now.length c.ia c.first Ya ds' u':=fun K ds' u' g=>by
  have hp:=jA h1.we h1.Mi;have ha:=h1.a1;refine⟨g.len,Rm,h1.a1,h1.f1,(g.out 0 (by omega)).trans h1.root,fun j hj=>(g.out _ ?_).trans (h1.text j hj),h1.we,h1.Mi,g.has⟩;unfold bT at hj;unfold aJ;omega
 by_cases h0:r.1=0
 ·obtain⟨g1,g2,g3,g4⟩:=run.Ak h0;refine⟨hlen,.inl ⟨h0,⟨g1,g2,g3,Ya,ds++[l],?_,?_⟩,?_,?_⟩⟩
  ·show fU r.2.now r.2.now.length c.ia c.first Ya (ds++[l]) (if r.1=0 then c.used+l.length+1 else c.used);rw[hlen,if_pos h0];exact on _ _ _ g4
  ·show jF Ya (ds++[l]) (if r.1=0 then aK c.rows l else c.rows);rw[if_pos h0];exact h2.snoc hl hc hf
  ·show(if r.1=0 then aK c.rows l else c.rows)=_;rw[if_pos h0]
  ·show(if r.1=0 then c.used+l.length+1 else c.used)=_;rw[if_pos h0]
 ·obtain⟨g1,g2,g3⟩:=run.bad h0;refine⟨hlen,.inr ⟨g1,g2,fun k=>?_⟩⟩;have hA:fX r.2 (fJ k 0 r.2.wait r.2.kept):=⟨k,rfl⟩;have e:kR r.2 k=⟨fJ k 0 r.2.wait r.2.kept,fJ k 0 r.2.wait r.2.kept,[],-1,false⟩:=rfl;show(kR r.2 k).now.length=_/\∃ rows,(rows=c.rows∨rows=aK c.rows l)/\ZS (kR r.2 k) rows;rw[e];rcases g3 _ hA with g|g
  ·exact⟨g.len,c.rows,.inl rfl,_,_,_,vL (on _ _ _ g) h2⟩
  ·exact⟨g.len,aK c.rows l,.inr rfl,_,_,_,vL (on _ _ _ g) (h2.snoc hl hc hf)⟩
theorem rN.mono {P Q:List ma->Prop} (h:rN d n P) (hPQ:∀ r,P r->Q r):rN d n Q:=
 ⟨h.1,fun k=>by obtain⟨a,r,b,c⟩:=h.2 k;exact⟨a,r,hPQ r b,c⟩⟩
theorem fA.Gh {x:bg} (h:fA x) (l:List ma):(Ha x l).2.d.now.length=x.d.now.length/\
  (((Ha x l).1=0/\Uc x l=0/\fA (Ha x l).2/\(Ha x l).2.rows=aK x.rows l/\(Ha x l).2.used=(if x.d.now.length-50-x.used<l.length+1 then 0 else x.used)+l.length+1)∨
  ((Ha x l).1=Uc x l/\Uc x l≠0/\(Ha x l).2=x)∨
  ((Ha x l).1=10/\Uc x l=0/\rN (Ha x l).2.d x.d.now.length (fun r=>r=x.rows∨r=aK x.rows l))):=by
 by_cases hF:Uc x l=0
 ·obtain⟨q1,q2,q3,q4⟩:=tU hF;have e:Ha x l=if (gO x l).1≠0 then gO x l else gM (gO x l).2 l (aK x.rows l):=by unfold Ha;rw[if_neg (by rw[hF];decide)]
  rw[e];by_cases Oc:x.d.now.length-50-x.used<l.length+1
  ·have e1:gO x l=zc x:=if_pos Oc;rw[e1,if_pos Oc];obtain⟨k1,k2,k3⟩:=h.gr;rcases k3 with⟨k3,k4,k5⟩|⟨k3,k4⟩
   ·rw[if_neg (by rw[k3];decide)];have:=fA.add (c:=(zc x).2) k4 q1 q2 (by rw[k5,k1];omega) (by rw[k2];exact q3);rw[k2,k1,k5] at this;refine⟨this.1,?_⟩;rcases this.2 with⟨a,b,c,d⟩|⟨a,b⟩
    ·exact .inl ⟨a,hF,b,c,d⟩
    ·exact .inr (.inr ⟨a,hF,b⟩)
   ·rw[if_pos (by rw[k3];decide)];exact⟨k1,.inr (.inr ⟨k3,hF,k4.mono fun r e=>.inl e⟩)⟩
  ·have e1:gO x l=(0,x):=if_neg Oc;rw[e1,if_neg Oc,if_neg (by show ¬0≠0;decide)];have:=fA.add (c:=x) h q1 q2 (by omega) q3;refine⟨this.1,?_⟩;rcases this.2 with⟨a,b,c,d⟩|⟨a,b⟩
   ·exact .inl ⟨a,hF,b,c,d⟩
   ·exact .inr (.inr ⟨a,hF,b⟩)
 ·have e:Ha x l=(Uc x l,x):=by unfold Ha;rw[if_pos hF]
  rw[e];exact⟨rfl,.inr (.inl ⟨rfl,hF,rfl⟩)⟩
theorem fA.never {x:bg} (h:fA x) (hl:x.d.left=-1) (l:List ma):(Ha x l).1=Uc x l/\(Ha x l).2.d.left=-1:=by
 by_cases hF:Uc x l=0
 ·obtain⟨q1,q2,q3,q4⟩:=tU hF;have e:Ha x l=if (gO x l).1≠0 then gO x l else gM (gO x l).2 l (aK x.rows l):=by unfold Ha;rw[if_neg (by rw[hF];decide)]
  have add:∀ (c:bg),fA c->c.d.left=-1->l.length+1<=c.d.now.length-50-c.used->∀ rows,(gM c l rows).1=0/\(gM c l rows).2.d.left=-1:=fun c hc Ee hr rows=>by
   obtain⟨Ya,ds,h1,h2⟩:=hc.ex;have Rm:=h1.Ks;have hg:zV c.d 50 (c.d.now.length-50) c.first ds c.used:=⟨hc.down,hc.wait,hc.kept,by omega,h1.has⟩;have JN:vj l (c.d.now.length-50-c.used)=0:=by
    unfold vj;rw[if_neg (by omega),if_neg (by omega)];exact q2
   exact hg.never Ee l JN
  rw[e];by_cases Oc:x.d.now.length-50-x.used<l.length+1
  ·have e1:gO x l=zc x:=if_pos Oc;rw[e1];obtain⟨n1,n2⟩:=h.yg hl;obtain⟨k1,k2,k3⟩:=h.gr;rw[if_neg (by rw[n1];decide),hF];rcases k3 with⟨k3,k4,k5⟩|⟨k3,_⟩
   ·exact add _ k4 n2 (by rw[k5,k1];omega) _
   ·rw[n1] at k3;cases k3
  ·have e1:gO x l=(0,x):=if_neg Oc;rw[e1,if_neg (by show ¬0≠0;decide),hF];exact add x h hl (by omega) _
 ·have e:Ha x l=(Uc x l,x):=by unfold Ha;rw[if_pos hF]
  rw[e];exact⟨rfl,hl⟩
theorem zD1 {s:Bb} (hd:s.down=false) (hl:s.left=-1) (Rm:54<=s.now.length):(dC 0 [] s).1=0/\cQ (dC 0 [] s).2 0 (aM s.now) 0 []/\(dC 0 [] s).2.left=-1/\(dC 0 [] s).2.now.length=s.now.length:=by
 have run:=zFe (s:=s) (n:=s.now.length) (ia:=0) (rows:=[]) (fun _=>True) (fun _=>True) hd rfl Rm (by decide) xS (by decide) (fun _ _=>trivial) trivial (fun _ _ _ _ _ _=>trivial) (fun _ _=>trivial) (fun _ _=>trivial);obtain⟨q1,q2⟩:=zBp (s:=s) (n:=s.now.length) (ia:=0) (rows:=[]) hd hl rfl Rm (by decide) xS (by decide);obtain⟨g1,g2,g3,g4⟩:=run.Ak q1;have hlen:=uQ 0 [] s;refine⟨q1,⟨g1,g2,g3,[],[],?_,.nil (by decide)⟩,q2,hlen⟩;rw[hlen];exact g4
section
open Go.RowKit Go.Joins
structure Mc where
 P:ta
 n:Nat
 ba:List ma
 ga:ta
structure Cc where
 x:bg
 now:Nat
 R:BA->List yb
 ds:List aU
 Da:Nat->Option Mc
 c:Nat
def Ab (f:Nat->Option Mc) (i:Nat) (v:Option Mc):Nat->Option Mc:=fun j=>if j=i then v else f j
theorem hE (f:Nat->Option Mc) (i:Nat) (v:Option Mc):Ab f i v i=v:=if_pos rfl
theorem hU {f:Nat->Option Mc} (v:Option Mc) (h:j≠i):Ab f i v j=f j:=if_neg h
theorem EG {f:Nat->Option Mc} {v:Mc} (h:Ab f i none j=some v):f j=some v:=by
 unfold Ab at h;split at h
 ·cases h
 ·exact h
def minS (n:Nat):Option Mc->Nat
 | some v=>min n v.n
 | none=>n
def cI (s:Cc):Nat:=minS (minS (minS (minS s.now (s.Da 0)) (s.Da 1)) (s.Da 2)) (s.Da 3)
theorem lB (n:Nat) (o:Option Mc):minS n o<=n:=by cases o<;>simp only[minS]<;>omega
theorem qC {o:Option Mc} {v:Mc} (h:o=some v):minS n o<=v.n:=by subst h;simp only[minS];omega
theorem zF7 (s:Cc):cI s<=s.now:=by
 have h1:=lB (minS (minS (minS s.now (s.Da 0)) (s.Da 1)) (s.Da 2)) (s.Da 3);have h2:=lB (minS (minS s.now (s.Da 0)) (s.Da 1)) (s.Da 2);have h3:=lB (minS s.now (s.Da 0)) (s.Da 1);have h4:=lB s.now (s.Da 0);unfold cI;omega
theorem yI {s:Cc} {v:Mc} (hi:i<4) (h:s.Da i=some v):cI s<=v.n:=by
 have h1:=lB (minS (minS (minS s.now (s.Da 0)) (s.Da 1)) (s.Da 2)) (s.Da 3);have h2:=lB (minS (minS s.now (s.Da 0)) (s.Da 1)) (s.Da 2);have h3:=lB (minS s.now (s.Da 0)) (s.Da 1);have h4:=lB s.now (s.Da 0);unfold cI;have hc:i=0∨i=1∨i=2∨i=3:=by omega
 rcases hc with rfl|rfl|rfl|rfl
 ·have:=qC (n:=s.now) h;omega
 ·have:=qC (n:=minS s.now (s.Da 0)) h;omega
 ·have:=qC (n:=minS (minS s.now (s.Da 0)) (s.Da 1)) h;omega
 ·exact qC h
theorem zD4 {s:Cc} (h:∀ i,i<4->s.Da i=none):cI s=s.now:=by
 unfold cI;rw[h 0 (by decide),h 1 (by decide),h 2 (by decide),h 3 (by decide)];rfl
def nU (s:Cc) (i:Nat):Cc:={ s with Da:=Ab s.Da i none }
def Gd (s:Cc) (i:Nat):Cc:={ nU s i with ds:=s.ds.drop (cR s.ds (cI (nU s i))) }
def dX (s:Cc) (i:Nat):Cc:={ s with Da:=Ab s.Da i (some ⟨aS s.x.rows,s.now,[],[]⟩) }
def jU (s:Cc) (i:Nat) (v:Mc) (ba:List ma) (ga:ta):Cc:={ s with Da:=Ab s.Da i (some ⟨v.P,v.n,ba,ga⟩) }
def Le (s:Cc) (ba:List ma):Cc:={ s with x:=(Ha s.x ba).2,now:=s.now+1,R:=cW s.R ((s.now:Int)+1) ba,ds:=s.ds++[⟨(s.now:Int)+1,ba.map (·.key)⟩],c:=s.c+1 }
def Ac (s:Cc) (i:Nat):(Nat×Nat)×Cc:=match s.Da i with
 | none=>((0,7),s)
 | some v=>if v.ba=[] then ((v.n,0),Gd s i)
  else if lC s.ds v.ga v.n=false then ((0,9),Gd s i)
  else if (Ha s.x v.ba).1≠0 then ((0,(Ha s.x v.ba).1),{ s with x:=(Ha s.x v.ba).2 })
  else ((s.now+1,0),Gd (Le s v.ba) i)
def dS (s:Cc) (i:Nat):Nat×Cc:=match s.Da i with
 | none=>(7,s)
 | some _=>(0,Gd s i)
def Te (R:BA->List yb) (n:Int):BA->List yb:=fun key=>if key.size<=maxLen then dN (R key) n else R key
theorem zMn {n:Int} {K:List BA} (h:keysV R K):Jf R n K=Te R n:=by
 funext key;unfold Te;by_cases Ig:key∈K
 ·rw[vJ Ig,if_pos ((h.2 key).1 Ig).1]
 ·rw[pV Ig];split
  ·rename_i hs;by_cases e:R key=[]
   ·rw[e,uN]
   ·exact absurd ((h.2 key).2 ⟨hs,e⟩) Ig
  ·rfl
theorem vZ {n m:Int} (hm:n<=m) (key:BA):bE (Te R n key) m=bE (R key) m:=by
 unfold Te;split
 ·exact zC0 hm
 ·rfl
def Jj (s:Cc):Cc:={ s with R:=Te s.R (cI s),c:=s.c+1 }
def ir (s:Cc):Cc:={ s with x:=(zc s.x).2 }
def Qu (d:Bb) (ia first u:Nat) (rows:List ma):Cc:=⟨⟨d,ia,first,u,rows⟩,0,jS (aS rows),[],fun _=>none,0⟩
structure VOk (s:Cc) (v:Mc):Prop where
 lo:v.n<=s.now
 Rk:Mg s.R v.n v.P
 ov:Zk v.P v.ba v.ga
 oq:Rl v.P v.ba
 yw:∀ key,(∀ d∈s.ds,(v.n:Int)<d.n->key∉d.keys)->Ib (aS s.x.rows) key=Ib v.P key
structure Ed (s:Cc):Prop where
 g:fA s.x
 Rk:Mg s.R s.now (aS s.x.rows)
 up:nC s.R s.now
 rd:gS s.ds
 dn:∀ d∈s.ds,d.n<=s.now
 dl:s.ds.length<=s.now
 dk:∀ d∈s.ds,d.keys.length<=12
 kl:∃ L:List BA,L.length<=50+12*s.now/\∀ key,s.R key≠[]->key∈L
 rl:∀ key,(s.R key).length<=1+12*s.now
 nc:s.now<=s.c
 Da:∀ i v,s.Da i=some v->VOk s v
theorem yA {rows:List ma} (h:fH rows) (hn:rows.length<=40):Zk (aS rows) [] [] where
 Gm:=oY h.2
 len:=by unfold aS;rw[RZ];omega
 keys:=fun r hr=>by
  obtain⟨c,hc,rfl⟩:=Z2.1 hr;exact lD (h.1 c hc).1
 cn:=by simp
 ck:=by simp
 cr:=List.Pairwise.nil
 rn:=by simp
theorem zKG {rows:List ma} (h:fH rows):Rl (aS rows) [] where
 rk:=fun r hr=>by
  obtain⟨c,hc,rfl⟩:=Z2.1 hr;exact oO (h.1 c hc).1
 cf:=by simp
theorem zLq {a n:Int} (hu:nC R a) (QH:a<=n) (h:Mg R a P):Mg R n P:=fun key=>by
 have e:dZ (R key) n=dZ (R key) a:=by
  unfold dZ;have hf:∀ (l:List yb),(∀ x∈l,x.ed<=a)->l.find? (fun x=>decide (x.ed<=n))=l.find? (fun x=>decide (x.ed<=a)):=by
   intro l hl
   cases l with
   | nil=>rfl
   | cons x l=>
    have:=hl x (Y0 ..);rw[W9 (by simp;omega),W9 (by simpa using this)]
  exact hf _ fun x hx=>hu key x (List.mem_reverse.1 hx)
 have h1:=h key;unfold bE at h1 ⊢;rw[e];exact h1
theorem zCb (hP:bV P):∀ (cs:List ma),key∉cs.map (·.key)->Ib (iB P cs) key=Ib P key:=by
 intro cs
 induction cs generalizing P with
 | nil=>intro _;rfl
 | cons c cs ih=>
  intro h;rw[U2,List.mem_cons,not_or] at h;have e:iB P (c::cs)=iB (Nb P c) cs:=rfl;rw[e,ih (jO hP c) h.2];exact uJ hP h.1
theorem yU (d:Int) (key:BA):∀ (l:List ma) (R:BA->List yb),cW R d l key≠[]->R key≠[]∨key∈l.map (·.key)
 | [],R,h=>.inl h
 | c::l,R,h=>by
  have e:cW R d (c::l)=cW (Ec R c.key (R c.key++[⟨d,c.val,c.gone⟩])) d l:=rfl;rw[e] at h;rcases yU d key l _ h with h1|h1
  ·by_cases hk:key=c.key
   ·exact .inr (by rw[U2,hk];exact Y0 ..)
   ·rw[aW _ _ hk] at h1;exact .inl h1
  ·exact .inr (by rw[U2];exact D1 _ h1)
theorem zIy {l:ta} (h:jS l key≠[]):key∈l.map (·.1):=by
 have RA:∀ (l:ta) (R:BA->List yb),(l.foldl (fun R r=>Ec R r.1 [⟨0,r.2,false⟩]) R) key≠[]->R key≠[]∨key∈l.map (·.1):=by
  intro l
  induction l with
  | nil=>intro R h;exact .inl h
  | cons r l ih=>
   intro R h;rcases ih _ h with h1|h1
   ·by_cases hk:key=r.1
    ·exact .inr (by rw[U2,hk];exact Y0 ..)
    ·dsimp only at h1;rw[aW _ _ hk] at h1;exact .inl h1
   ·exact .inr (by rw[U2];exact D1 _ h1)
 rcases RA l _ h with h1|h1
 ·exact absurd rfl h1
 ·exact h1
theorem zBQ:∀ {K KS:List BA},K.Nodup->(∀ k∈K,k∈KS)->K.length<=KS.length
 | [],_,_,_=>OZ _
 | k::K,KS,h,hs=>by
  rw[List.nodup_cons] at h;have h1:(KS.filter fun x=>!bc x k).length<KS.length:=by
   rw[List.length_filter_lt_length_iff_exists];exact⟨k,hs k (by simp),by simp[pG]⟩
  have h2:=zBQ (KS:=KS.filter fun x=>!bc x k) h.2 fun x hx=>by
   rw[A2];exact⟨hs x (by simp[hx]),by simp[rH (show x≠k from fun e=>h.1 (by rw[<-e];exact hx))]⟩
  rw[PZ];omega
theorem zEX (h:∀ c∈l,aD c=0) (hr:Pc l):iT l=0:=by
 refine zBe fun i hi=>?_;unfold cO;rw[VY hi];dsimp only;rw[if_neg (by rw[h _ (MZ hi)];decide)]
 cases i with
 | zero=>rfl
 | succ j=>
  dsimp only;rw[VY (by omega)];dsimp only;have:=List.pairwise_iff_getElem.1 hr j (j+1) (by omega) hi (by omega);rw[if_neg (by rw[mA,this];decide)]
section
variable {s:Cc}
theorem Ed.we (h:Ed s):fH s.x.rows:=cQ.we h.g
theorem Ed.Mi (h:Ed s):s.x.rows.length<=40:=cQ.Mi h.g
theorem Ed.begin (h:Ed s) (i:Nat):Ed (dX s i):={ h with
 Da:=fun j v hj=>by
  have Td:Ab s.Da i (some ⟨aS s.x.rows,s.now,[],[]⟩) j=some v:=hj;unfold Ab at Td;split at Td
  ·cases Td;exact⟨n_ _,h.Rk,yA h.we h.Mi,zKG h.we,fun _ _=>rfl⟩
  ·have:=h.Da j v Td;exact⟨this.lo,this.Rk,this.ov,this.oq,this.yw⟩ }
theorem Ed.drop (h:Ed s) (i:Nat):Ed (nU s i):={ h with
 Da:=fun j v hj=>by
  have:=h.Da j v (EG hj);exact⟨this.lo,this.Rk,this.ov,this.oq,this.yw⟩ }
theorem Ed.forget (h:Ed s) (hs:∀ i,4<=i->s.Da i=none):Ed { s with ds:=s.ds.drop (cR s.ds (cI s)) }:={ h with
 rd:=zFu h.rd _
 dn:=fun d hd=>h.dn d (A1 hd)
 dl:=by show(s.ds.drop _).length<=s.now;rw[UZ];have:=h.dl;omega
 dk:=fun d hd=>h.dk d (A1 hd)
 Da:=fun j v hj=>by
  have Td:s.Da j=some v:=hj;have hi:j<4:=by
   rcases M3 j 4 with h4|h4
   ·exact h4
   ·rw[hs j h4] at Td;cases Td
  have hv:=h.Da j v Td;refine⟨hv.lo,hv.Rk,hv.ov,hv.oq,fun key hk=>hv.yw key fun d hd hn=>hk d ?_ hn⟩;show d∈s.ds.drop (cR s.ds (cI s));rw[YS h.rd,A2];have:=yI hi Td;exact⟨hd,by simp;omega⟩ }
theorem Ed.ended (h:Ed s) (hs:∀ i,4<=i->s.Da i=none) (i:Nat):Ed (Gd s i):=(h.drop i).forget fun j hj=>by
 show Ab s.Da i none j=none;unfold Ab;split
 ·rfl
 ·exact hs j hj
theorem Ed.view (h:Ed s) {v:Mc} (hv:s.Da i=some v) (h1:Zk v.P ba ga) (h2:Rl v.P ba):Ed (jU s i v ba ga):={ h with
 Da:=fun j u hj=>by
  have Td:Ab s.Da i (some ⟨v.P,v.n,ba,ga⟩) j=some u:=hj;unfold Ab at Td;have gw:=h.Da i v hv;split at Td
  ·cases Td;exact⟨gw.lo,gw.Rk,h1,h2,gw.yw⟩
  ·have:=h.Da j u Td;exact⟨this.lo,this.Rk,this.ov,this.oq,this.yw⟩ }
theorem Ed.add (h:Ed s) (h0:(Ha s.x ba).1=0):Ed (Le s ba):=by
 obtain⟨_,hc⟩:=h.g.Gh ba;have Aj:Uc s.x ba=0/\fA (Ha s.x ba).2/\(Ha s.x ba).2.rows=aK s.x.rows ba:=by
  rcases hc with⟨_,a,b,c,_⟩|⟨a,b,_⟩|⟨a,_⟩
  ·exact⟨a,b,c⟩
  ·rw[h0] at a;exact absurd a.symm b
  ·rw[h0] at a;cases a
 obtain⟨q1,q2,q3⟩:=Aj;obtain⟨z1,z2,z3,z4⟩:=tU q1;have aj:aS (Ha s.x ba).2.rows=iB (aS s.x.rows) ba:=by rw[q3,CS h.we]
 have hri:=oY h.we.2;have xd:∀ key,key∉ba.map (·.key)->Ib (aS (Ha s.x ba).2.rows) key=Ib (aS s.x.rows) key:=fun key hk=>by
  rw[aj];exact zCb hri ba hk
 exact {
  g:=q2
  Rk:=by
   show Mg (cW s.R ((s.now:Int)+1) ba) ((s.now+1:Nat):Int) (aS (Ha s.x ba).2.rows);rw[aj];have e:((s.now+1:Nat):Int)=(s.now:Int)+1:=by omega
   rw[e];exact zJs (Int.le_refl _) hri (zLq h.up (by omega) h.Rk) ba
  up:=by
   show nC (cW s.R ((s.now:Int)+1) ba) ((s.now+1:Nat):Int);have e:((s.now+1:Nat):Int)=(s.now:Int)+1:=by omega
   rw[e];exact zG4 (zHH h.up (by omega)) ba
  rd:=by
   show(s.ds++[_]).Pairwise _;rw[List.pairwise_append];refine⟨h.rd,List.pairwise_singleton _ _,fun a ha b hb=>?_⟩;rw[GZ.1 hb];have:=h.dn a ha;show a.n<(s.now:Int)+1;omega
  dn:=fun d hd=>by
   show d.n<=((s.now+1:Nat):Int);rcases Q0.1 hd with hd|hd
   ·have:=h.dn d hd;omega
   ·rw[GZ.1 hd];show(s.now:Int)+1<=_;omega
  dl:=by show(s.ds++[_]).length<=s.now+1;rw[YY];have:=h.dl;simp;omega
  dk:=fun d hd=>by
   rcases Q0.1 hd with hd|hd
   ·exact h.dk d hd
   ·rw[GZ.1 hd];show(ba.map (·.key)).length<=12;rw[RZ];exact z1
  kl:=by
   obtain⟨L,YM,LB⟩:=h.kl;refine⟨L++ba.map (·.key),?_,fun key hk=>?_⟩
   ·show _<=50+12*(s.now+1);rw[YY,RZ];omega
   ·rcases yU _ key ba s.R hk with h1|h1
    ·exact G7 _ (LB key h1)
    ·exact B7 _ h1
  rl:=fun key=>by
   have h1:=sF ((s.now:Int)+1) key ba s.R;have h2:=h.rl key;show(cW s.R ((s.now:Int)+1) ba key).length<=1+12*(s.now+1);omega
  nc:=by show s.now+1<=s.c+1;have:=h.nc;omega
  Da:=fun j v hj=>by
   have hv:=h.Da j v hj;have Bh:=hv.lo;refine⟨by show v.n<=s.now+1;omega,fun key=>?_,hv.ov,hv.oq,fun key hk=>?_⟩
   ·show bE (cW s.R ((s.now:Int)+1) ba key) v.n=_;rw[tQ (by omega)];exact hv.Rk key
   ·have Pn:∀ d∈s.ds++[⟨(s.now:Int)+1,ba.map (·.key)⟩],(v.n:Int)<d.n->key∉d.keys:=hk;have h1:=Pn ⟨(s.now:Int)+1,ba.map (·.key)⟩ (B7 _ (GZ.2 rfl)) (by show(v.n:Int)<(s.now:Int)+1;omega);show Ib (aS (Ha s.x ba).2.rows) key=_;rw[xd key h1];exact hv.yw key fun d hd hn=>Pn d (G7 _ hd) hn }
theorem Ed.ER (h:Ed s) (hs:∀ i,4<=i->s.Da i=none):Ed (Jj s):={ h with
 Rk:=fun key=>by
  show bE (Te s.R (cI s) key) s.now=_;rw[vZ (by have:=zF7 s;omega)];exact h.Rk key
 up:=fun key x hx=>by
  have RI:x∈Te s.R (cI s) key:=hx;unfold Te at RI;split at RI
  ·exact h.up key x (zJr RI)
  ·exact h.up key x RI
 kl:=by
  obtain⟨L,YM,LB⟩:=h.kl;refine⟨L,YM,fun key hk=>LB key fun e=>hk ?_⟩;show Te s.R (cI s) key=[];unfold Te;rw[e];split
  ·exact uN _
  ·rfl
 rl:=fun key=>by
  show(Te s.R (cI s) key).length<=1+12*s.now;unfold Te;split
  ·exact BZ (zIE _ _) (h.rl key)
  ·exact h.rl key
 nc:=by show s.now<=s.c+1;have:=h.nc;omega
 Da:=fun j v hj=>by
  have hi:j<4:=by
   rcases M3 j 4 with h4|h4
   ·exact h4
   ·have:s.Da j=some v:=hj;rw[hs j h4] at this;cases this
  have hv:=h.Da j v hj;refine⟨hv.lo,fun key=>?_,hv.ov,hv.oq,hv.yw⟩;show bE (Te s.R (cI s) key) v.n=_;have Td:s.Da j=some v:=hj;rw[vZ (by have:=yI hi Td;omega)];exact hv.Rk key }
theorem Ed.store (h:Ed s) {x:bg} (hg:fA x) (hr:x.rows=s.x.rows):Ed { s with x:=x }:={ h with
 g:=hg
 Rk:=by show Mg s.R s.now (aS x.rows);rw[hr];exact h.Rk
 Da:=fun j v hj=>by
  have hv:=h.Da j v hj;exact⟨hv.lo,hv.Rk,hv.ov,hv.oq,fun key hk=>by show Ib (aS x.rows) key=_;rw[hr];exact hv.yw key hk⟩ }
theorem Ed.gr (h:Ed s) (h0:(zc s.x).1=0):Ed (ir s):=by
 obtain⟨_,k2,k3⟩:=h.g.gr;rcases k3 with⟨_,k4,_⟩|⟨k4,_⟩
 ·exact h.store k4 k2
 ·rw[h0] at k4;cases k4
end
theorem Ed.new {rows:List ma} (h:cQ d ia first u rows):Ed (Qu d ia first u rows) where
 g:=h
 Rk:=zLo (oY h.we.2)
 up:=zH2 _
 rd:=List.Pairwise.nil
 dn:=fun d hd=>absurd hd X0
 dl:=OZ _
 dk:=fun d hd=>absurd hd X0
 kl:=⟨(aS rows).map (·.1),by
  have:=h.Mi;unfold aS;show _<=50+12*0;rw[RZ,RZ];omega,fun key hk=>zIy hk⟩
 rl:=fun key=>zI8 _ _
 nc:=n_ _
 Da:=fun i v hv=>by cases hv
def S4 (s:Cc):Prop:=∀ i,4<=i->s.Da i=none
theorem S4.set {s:Cc} (h:S4 s) (hi:i<4) (v:Option Mc):∀ j,4<=j->Ab s.Da i v j=none:=fun j hj=>by
 rw[hU v (by omega)];exact h j hj
def ji (ga:ta) (ks:List BA):Bool:=ks.any fun k=>ga.any fun s=>Fb s.1 s.2 k
def jY (K:List (List BA)) (ga:ta) (a:Nat):Bool:=(K.drop (a+1)).all fun ks=>!ji ga ks
structure KK (s:Cc) (K:List (List BA)):Prop where
 len:K.length=s.now+1
 mem:∀ d∈s.ds,∃ n:Nat,d.n=n/\K[n]?=some d.keys
 all:∀ i v,s.Da i=some v->∀ n:Nat,v.n<n->n<=s.now->∃ d∈s.ds,d.n=n
section
variable {s:Cc} {K:List (List BA)}
theorem KK.clear (h:KK s K) (ok:Ed s) {v:Mc} (hv:s.Da i=some v):lC s.ds v.ga v.n=jY K v.ga v.n:=by
 rw[zMr ok.rd,Bool.eq_iff_iff];unfold jY;rw[List.all_eq_true,List.all_eq_true];constructor
 ·intro hd ks hk;obtain⟨j,hj,rfl⟩:=List.getElem_of_mem hk;rw[UZ] at hj;have hl:=h.len;obtain⟨d,Np,Pv⟩:=h.all i v hv (v.n+1+j) (by omega) (by omega);obtain⟨n,e1,e2⟩:=h.mem d Np;have en:n=v.n+1+j:=by omega
  have:=hd d (A2.2 ⟨Np,by simp;omega⟩);rw[List.getElem_drop];rw[en,VY (by omega)] at e2;rw[I0.inj e2];exact this
 ·intro hk d hd;obtain⟨Np,Pv⟩:=A2.1 hd;obtain⟨n,e1,e2⟩:=h.mem d Np;have hn:v.n<n:=by have:=of_decide_eq_true Pv;omega
  refine hk d.keys ?_;have:(K.drop (v.n+1))[n-(v.n+1)]?=some d.keys:=by rw[List.getElem?_drop,<-e2];congr 1;omega
  exact List.mem_of_getElem? this
theorem KK.begin (h:KK s K) (i:Nat):KK (dX s i) K:=⟨h.len,h.mem,fun j v hj n h1 h2=>by
 have Td:Ab s.Da i (some ⟨aS s.x.rows,s.now,[],[]⟩) j=some v:=hj;unfold Ab at Td;split at Td
 ·cases Td;have tr:n<=s.now:=h2;exact absurd h1 (by show ¬s.now<n;omega)
 ·exact h.all j v Td n h1 h2⟩
theorem KK.view (h:KK s K) {v:Mc} (hv:s.Da i=some v) (ba:List ma) (ga:ta):KK (jU s i v ba ga) K:=⟨h.len,h.mem,fun j u hj n h1 h2=>by
 have Td:Ab s.Da i (some ⟨v.P,v.n,ba,ga⟩) j=some u:=hj;unfold Ab at Td;split at Td
 ·cases Td;exact h.all i v hv n h1 h2
 ·exact h.all j u Td n h1 h2⟩
theorem KK.ended (h:KK s K) (ok:Ed s) (h4:S4 s) (i:Nat):KK (Gd s i) K where
 len:=h.len
 mem:=fun d hd=>h.mem d (A1 hd)
 all:=fun j v hj n h1 h2=>by
  have Td:Ab s.Da i none j=some v:=hj;obtain⟨d,Np,Pv⟩:=h.all j v (EG Td) n h1 h2;have hj4:j<4:=by
   rcases M3 j 4 with h|h
   ·exact h
   ·have:=h4 j h;rw[EG Td] at this;cases this
  have ho:cI (nU s i)<=v.n:=yI (s:=nU s i) hj4 Td;refine⟨d,?_,Pv⟩;show d∈s.ds.drop (cR s.ds (cI (nU s i)));rw[YS ok.rd,A2];exact⟨Np,by simp;omega⟩
theorem KK.store (h:KK s K) (x:bg):KK { s with x:=x } K:=⟨h.len,h.mem,h.all⟩
theorem KK.add (h:KK s K) (ba:List ma):KK (Le s ba) (K++[ba.map (·.key)]) where
 len:=by show _=s.now+1+1;rw[YY,h.len];rfl
 mem:=fun d hd=>by
  rcases Q0.1 hd with hd|hd
  ·obtain⟨n,e1,e2⟩:=h.mem d hd;exact⟨n,e1,by rw[List.getElem?_append_left (Z0.1 e2).1];exact e2⟩
  ·rw[GZ.1 hd];exact⟨s.now+1,rfl,by rw[<-h.len,List.getElem?_append_right (n_ _),Nat.sub_self];rfl⟩
 all:=fun i v hv n h1 h2=>by
  have tr:n<=s.now+1:=h2;rcases M3 s.now n with hn|hn
  ·exact⟨⟨(s.now:Int)+1,ba.map (·.key)⟩,B7 _ (GZ.2 rfl),by show(s.now:Int)+1=n;omega⟩
  ·obtain⟨d,Np,Pv⟩:=h.all i v hv n h1 hn;exact⟨d,G7 _ Np,Pv⟩
end
end
section
open Go.RowKit Go.Joins
attribute [local go_sem ↓] Go.wp_at_zero Go.wp_at_succ
structure Vy (w:World) (sb db lb ia:Nat) (v:Value):Prop where
 c0:w.cell? ⟨sb,0,none⟩=some (.pointer (some ⟨db,0,none⟩))
 c1:w.cell? ⟨sb,1,none⟩=some (.pointer (some ⟨lb,0,none⟩))
 c2:w.cell? ⟨sb,2,none⟩=some (.int .i64 (ia:Int))
 c3:w.cell? ⟨sb,3,none⟩=some v
 soft:∀ j,w.frozen? ⟨sb,j,none⟩=false
structure SK (w:World) (B sb lb db:Nat) (S:Nat->Prop) (v:Value) (x:bg):Prop where
 hd:Vy w sb db lb x.ia v
 lk:LK w B lb db S 50 (x.d.now.length-50) x.first x.used x.d
 own:bO w B v x.rows
 ns:¬S sb
 nl:sb≠lb
 nv:∀ k,v.ownBlock=some k->k≠sb/\k≠lb/\¬S k
 lo:B<=sb
def Lq (sb lb:Nat) (v:Value) (S:Nat->Prop) (k:Nat):Prop:=k=sb∨k=lb∨v.ownBlock=some k∨S k
def SA (w:World) (B sb db:Nat) (T:Nat->Prop) (x:bg):Prop:=∃ lb S v,SK w B sb lb db S v x/\T=Lq sb lb v S
def Dh (w w':World) (B sb db:Nat) (T:Nat->Prop) (x:bg):Prop:=∃ T',SA w' B sb db T' x/\aG w w' B T T'
section
variable {w w':World} {B sb lb db:Nat} {S T:Nat->Prop} {v:Value} {x:bg}
theorem Vy.kept (h:Vy w sb db lb ia v) (hk:w'.heap[sb]?=w.heap[sb]?):Vy w' sb db lb ia v:=
 ⟨(b_ hk).trans h.c0,(b_ hk).trans h.c1,(b_ hk).trans h.c2,(b_ hk).trans h.c3,fun j=>(CZ hk).trans (h.soft j)⟩
theorem Vy.lt (h:Vy w sb db lb ia v):sb<w.heap.size:=AZ _ _ h.c0
theorem SK.lt (h:SK w B sb lb db S v x) (hk:Lq sb lb v S k):k<w.heap.size:=by
 rcases hk with rfl|rfl|hk|hk
 ·exact h.hd.lt
 ·exact h.lk.hd.lt
 ·exact(l_ h.own k hk).2
 ·exact h.lk.dk.lt hk
theorem SK.on (h:SK w B sb lb db S v x) (hb:Below w.heap.size w w'):SK w' B sb lb db S v x:=
 ⟨h.hd.kept (hb.block sb h.hd.lt),h.lk.on hb,bQ h.own hb,h.ns,h.nl,h.nv,h.lo⟩
theorem SA.on (h:SA w B sb db T x) (hb:Below w.heap.size w w'):SA w' B sb db T x:=by
 obtain⟨lb,S,v,h1,h2⟩:=h;exact⟨lb,S,v,h1.on hb,h2⟩
theorem SA.tk (h:SA w B sb db T x):B<=w.heap.size:=by
 obtain⟨lb,S,v,h1,h2⟩:=h;exact h1.lk.dk.lo
theorem SA.lt (h:SA w B sb db T x) (hk:T k):k<w.heap.size:=by
 obtain⟨lb,S,v,h1,rfl⟩:=h;exact h1.lt hk
theorem SA.stay (h:SA w B sb db T x) (hb:Below w.heap.size w w'):Dh w w' B sb db T x:=⟨T,h.on hb,.on h.tk hb⟩
theorem Dh.post (ha:Dh w w1 B sb db T x) (hb:Below w1.heap.size w1 w'):Dh w w' B sb db T x:=by
 obtain⟨T2,h1,h2⟩:=ha;exact⟨T2,h1.on hb,h2.trans (.on h1.tk hb)⟩
theorem qF (w:World) (h:SA w B sb db T x):Calls p_ 161 #[.pointer (some ⟨sb,0,none⟩)] w fun e w'=>e=.returned (.int .i64 ((x.d.now.length-50-x.used:Nat):Int))/\∃ n,w'=w.drewN n:=by
 obtain⟨lb,S,v,h1,_⟩:=h;have c1:=h1.hd.c1;have hm:=h1.lk.dk.many;have HR:=aa (vB w h1.lk.hd h1.lk.us (by omega));clear h1;generalize x.d.now.length-50-x.used=r at *;go_enter func161,ntmps161;go_wp2_with (go_at_call 216;refine HR.out.mono ?_;rintro e w1 ⟨rfl,n,rfl⟩)
 go_ret;exact⟨rfl,n,rfl⟩
theorem zF6 (hk:k<l.length):aS (l.take (k+1))=aS (l.take k)++[(l[k].key,l[k].val)]:=by
 unfold aS;rw[ZY hk,X1];rfl
theorem zBm (w:World) (h:SA w B sb db T x) (hl:x.rows.length<=1000):Calls p_ 49 #[.pointer (some ⟨sb,0,none⟩)] w fun e w'=>∃ v,e=.returned v/\Sb w' w.heap.size v (aS x.rows)/\Below w.heap.size w w':=by
 obtain⟨lb,S,v,h1,_⟩:=h;have c3:=h1.hd.c3;have HO:=aa h1.own;clear h1;generalize x.rows=l at *;obtain⟨i0,Qb,Xb,We,ze⟩:=info_parts FG;obtain⟨ao,cap,rfl,hh⟩:∃ ao cap,v=.slice ao l.length cap/\bW w ao l:=by
  rcases aX HO.out with⟨e,e2⟩|⟨g,cap,e,_⟩
  ·exact⟨none,0,by rw[e,e2],.inl (E0.1 e2)⟩
  ·refine⟨some ⟨g,0,none⟩,cap,e,.inr ⟨g,0,rfl,eW l 0 fun j u hj=>?_⟩⟩;have:=F2.cells HO.out (g:=g) (by rw[e];rfl) j u hj;rwa [C1] at this
 have HD:=aa hh;clear hh HO;go_enter func49,ntmps49;go_wp2
 go_loopw [3,11] (fun v iv wr=>∃ k:Nat,k<=l.length/\iv=.int .i64 (k:Int)/\Sb wr w.heap.size v (aS (l.take k))/\Below w.heap.size w wr) (fun _ iv _=>l.length-(intOf iv).toNat)
 case atStart=>exact⟨0,OZ _,rfl,World.ownsRow_nil _ _ _ _,r_ _ _⟩
 case round=>
  obtain⟨k,hk,rfl,ho,hb⟩:=hrel;clear c3;have Yn:(aS (l.take k)).length=k:=by unfold aS;rw[RZ,XY];omega
  by_cases Aa:k<l.length
  ·have Za:(k:Int)<(l.length:Int):=by omega
   have Ih:(0:Int)<=(k:Int):=by omega
   rcases HD.out with e|⟨b,off,e,Bf⟩
   ·rw[e] at Aa;simp at Aa
   subst e;obtain⟨x0,x1,x2⟩:=Bf k Aa;have UC:=zF6 Aa;clear Bf;generalize l[k]=c at *;generalize aS (l.take k)=m at *;replace ⟨x0,x1,x2⟩:=Fe hb x0 x1 x2;have HO:=aa ho;have Md:=aa hb;have AL:=aa UC;have Zg:=a_ wr (FX c.key c.val c.gone);have He:=aa (aB Md.out (n_ _) Zg);have Pd:=aa (bQ HO.out Zg);clear ho hb UC Zg;have Xq:=aa Yn;obtain⟨y0,y1,-⟩:=Nf wr (FX c.key c.val c.gone) rfl rfl
   go_upto_region 5 with(fail)
   generalize wr.alloc (FX c.key c.val c.gone)=W at *;generalize wr.heap.size=cb at *;go_wp2_with (at_builtin;refine oS rfl _ _ 32 rfl w.heap.size 142 i0 _ 2 32 underlying32 Qb Xb We ze rfl (by omega) W (aV (c.key,c.val)) rfl (GG _) _ m.length (m.flatMap aV) Pd.out rfl rfl (by omega) (by omega) He.out.size ?_;intro v9 w9 Ei xq;have Kj:=aa (Cw Ei);have Rt:=aa (xq w He.out);clear Ei xq)
   exact⟨⟨k+1,by omega,by go_num,by rw[AL.out];exact Kj.out,Rt.out⟩,by simp[intOf];omega⟩
  ·have ek:k=l.length:=by omega
   subst ek;have Za:¬(l.length:Int)<(l.length:Int):=by omega
   rw[O1] at ho;have HO:=aa ho;have Md:=aa hb;clear ho hb;go_wp2;go_ret;exact⟨_,rfl,HO.out,Md.out⟩
end
structure RS (w:World) (B rb:Nat) (v:Value) (rows:List (BA×BA)) (u many:Nat):Prop where
 c0:w.cell? ⟨rb,0,none⟩=some v
 c1:w.cell? ⟨rb,1,none⟩=some (.int .i64 (u:Int))
 c2:w.cell? ⟨rb,2,none⟩=some (.int .i64 (many:Int))
 soft:∀ j,w.frozen? ⟨rb,j,none⟩=false
 own:Sb w B v rows
 nv:∀ k,v.ownBlock=some k->k≠rb
 lo:B<=rb
def fj (rb:Nat) (v:Value) (k:Nat):Prop:=k=rb∨v.ownBlock=some k
def sq (w:World) (B rb:Nat) (T:Nat->Prop) (rows:List (BA×BA)) (u many:Nat):Prop:=∃ v,RS w B rb v rows u many/\T=fj rb v
def Hz (w w':World) (B rb:Nat) (T:Nat->Prop) (rows:List (BA×BA)) (u many:Nat):Prop:=∃ T',sq w' B rb T' rows u many/\aG w w' B T T'/\∀ k,k<w.heap.size->k≠rb->w'.heap[k]?=w.heap[k]?
section
variable {w w':World} {B rb u many:Nat} {v:Value} {rows:List (BA×BA)} {T:Nat->Prop}
theorem RS.lt (h:RS w B rb v rows u many) (hk:fj rb v k):k<w.heap.size:=by
 rcases hk with rfl|hk
 ·exact AZ _ _ h.c0
 ·exact(l_ h.own k hk).2
theorem RS.kept (h:RS w B rb v rows u many) (hk:∀ k,fj rb v k->w'.heap[k]?=w.heap[k]?):RS w' B rb v rows u many:=by
 have e:=hk rb (.inl rfl);exact⟨(b_ e).trans h.c0,(b_ e).trans h.c1,(b_ e).trans h.c2,fun j=>(CZ e).trans (h.soft j),aI h.own fun k e=>hk k (.inr e),h.nv,h.lo⟩
theorem sq.lt (h:sq w B rb T rows u many) (hk:T k):k<w.heap.size:=by
 obtain⟨v,h1,rfl⟩:=h;exact h1.lt hk
theorem sq.kept (h:sq w B rb T rows u many) (hk:∀ k,T k->w'.heap[k]?=w.heap[k]?):sq w' B rb T rows u many:=by
 obtain⟨v,h1,rfl⟩:=h;exact⟨v,h1.kept hk,rfl⟩
theorem sq.on (h:sq w B rb T rows u many) (hb:Below w.heap.size w w'):sq w' B rb T rows u many:=h.kept fun k e=>hb.block k (h.lt e)
theorem RS.used (h:RS w B rb v rows u many) (u':Nat):Hz w (w.setCell ⟨rb,1,none⟩ (.int .i64 (u':Int))) B rb (fj rb v) rows u' many:=by
 have lf:∀ k,k≠rb->(w.setCell ⟨rb,1,none⟩ (.int .i64 (u':Int))).heap[k]?=w.heap[k]?:=fun k hn=>h_ _ _ _ _ hn;refine⟨fj rb v,⟨v,⟨?_,u_ _ _ _ h.c1,?_,fun j=>by rw[EZ];exact h.soft j,aI h.own fun k e=>lf k (h.nv k e),h.nv,h.lo⟩,rfl⟩,⟨(r_ B w).setCell (p:=⟨rb,1,none⟩) h.lo _,fun j hj hn=>⟨lf j fun e=>hn (.inl e),hn⟩⟩,fun k _ hn=>lf k hn⟩
 ·exact(t_ _ _ _ _ (by simp)).trans h.c0
 ·exact(t_ _ _ _ _ (by simp)).trans h.c2
theorem RS.fq {w2:World} {Sj:List (BA×BA)} (h:RS w B rb v rows u many) (hB:B<=w.heap.size) (hb:Below w.heap.size w w1) (ho:Sb w1 w.heap.size v' Sj) (u':Nat)
  (hk:∀ k,k≠rb->w2.heap[k]?=w1.heap[k]?) (hs:∀ j,w2.frozen? ⟨rb,j,none⟩=w1.frozen? ⟨rb,j,none⟩) (zq:Below B w w2)
  (d0:w2.cell? ⟨rb,0,none⟩=some v') (d1:w2.cell? ⟨rb,1,none⟩=some (.int .i64 (u':Int))) (d2:w2.cell? ⟨rb,2,none⟩=some (.int .i64 (many:Int))):Hz w w2 B rb (fj rb v) Sj u' many:=by
 have lg:=h.lt (.inl rfl);have Rp:∀ k,v'.ownBlock=some k->w.heap.size<=k:=fun k e=>(l_ ho k e).1;have Bh:Sb w1 B v' Sj:=zX ho hB;refine⟨fj rb v',⟨v',⟨d0,d1,d2,fun j=>(hs j).trans ((CZ (hb.block rb lg)).trans (h.soft j)),aI Bh fun k e=>hk k (by have:=Rp k e;omega),fun k e=>by have:=Rp k e;omega,h.lo⟩,rfl⟩,⟨zq,fun j hj hn=>⟨(hk j fun e=>hn (.inl e)).trans (hb.block j hj),fun e=>?_⟩⟩,fun k Aa hn=>(hk k hn).trans (hb.block k Aa)⟩;rcases e with e|e
 ·exact hn (.inl e)
 ·have:=Rp j e;omega
end
def jR (rows:List (BA×BA)) (many:Nat) (l:List ma):Nat:=if jW l≠0 then jW l else if 40<(iB rows l).length∨many<l.length+1 then 8 else 0
def xZ (u many n:Nat):Nat:=(if many-u<n+1 then 0 else u)+n+1
theorem zOv {x:bg} (h:fH x.rows) (l:List ma):jR (aS x.rows) (x.d.now.length-50) l=Uc x l:=by
 unfold jR Uc;rw[<-CS h l,show(aS (aK x.rows l)).length=(aK x.rows l).length by unfold aS;rw[RZ]]
theorem zND {T:Nat->Prop} {rows:List (BA×BA)} (l:List ma) (ao:Option Addr) (cap:Nat) (w:World) (h:sq w B rb T rows u many) (hB:B<=w.heap.size) (hd:bW w ao l) (hk:∀ c∈l,c.key.size<=1000) (hl:l.length<=1000) (hm:many<=1000) (hu:u<=many) (hr:rows.length<=100):
  Calls p_ 42 #[.pointer (some ⟨rb,0,none⟩),.slice ao l.length cap] w fun e w'=>e=.returned (.int .i64 (jR rows many l:Nat))/\Hz w w' B rb T (if jR rows many l=0 then iB rows l else rows) (if jR rows many l=0 then xZ u many l.length else u) many/\(jR rows many l≠0->Below w.heap.size w w'):=by
 have HR:=aa h;have HD:=aa hd;have HK:=aa hk;clear hd hk;obtain⟨v,hv,rfl⟩:=h;have stay:∀ w',Below w.heap.size w w'->Hz w w' B rb (fj rb v) rows u many:=fun w' hb=>⟨_,HR.out.on hb,.on hB hb,fun k hk _=>hb.block k hk⟩;have Ce:=aa stay;clear stay;by_cases sr:12<l.length
 ·have hF:jR rows many l=2:=by
   have:jW l=2:=by unfold jW;rw[if_pos sr]
   unfold jR;rw[this];rfl
  rw[hF,if_neg (by decide),if_neg (by decide)];have Jn:(12:Int)<(l.length:Int):=by omega
  go_enter func42,ntmps42;go_wp2;go_ret;exact⟨rfl,Ce.out _ (r_ _ _),fun _=>r_ _ _⟩
 have UM:jW l=bS l:=by unfold jW;rw[if_neg sr]
 have Jn:¬(12:Int)<(l.length:Int):=by omega
 have OU:Hid (bS l≠0->jR rows many l=bS l):=fun e=>by unfold jR;rw[UM,if_pos e]
 have PU:Hid (bS l=0->jR rows many l=if 40<(iB rows l).length∨many<l.length+1 then 8 else 0):=fun e=>by unfold jR;rw[UM,e];rfl
 clear UM;generalize nf:jR rows many l=rf at *;clear nf;obtain⟨RR,AN⟩:∃ RR,RR=if rf=0 then iB rows l else rows:=⟨_,rfl⟩;obtain⟨UU,DN⟩:∃ UU,UU=if rf=0 then xZ u many l.length else u:=⟨_,rfl⟩;rw[<-AN,<-DN];have Xf:=aa AN;have PA:=aa DN;clear AN DN;obtain⟨va,vc,Iq,hvh,fw⟩:∃ va vc,v=.slice va rows.length vc/\bY w va rows/\(va=none->vc=0/\rows=[]):=by
  have HO:=hv.own;rcases aX HO with⟨e,e2⟩|⟨g,Pb,e,hg⟩
  ·have e3:rows=[]:=E0.1 e2;exact⟨none,0,by rw[e,e2],.inl e3,fun _=>⟨rfl,e3⟩⟩
  ·obtain⟨a7,c7,e7,h7⟩:=lV HO;have hag:a7=some ⟨g,0,none⟩:=by rw[e] at e7;cases e7;rfl
   exact⟨a7,c7,e7,h7,fun e0=>by rw[hag] at e0;cases e0⟩
 have c0:=hv.c0;have c1:=hv.c1;have c2:=hv.c2;have HV:=aa hv;clear hv;subst Iq;go_enter func42,ntmps42;go_wp2
 go_loopw [5] (fun iv wr=>∃ k:Nat,k<=l.length/\iv=.int .i64 (k:Int)/\bS (l.take k)=0/\Below w.heap.size w wr) (fun iv _=>l.length-(intOf iv).toNat)
 case atStart=>exact⟨0,OZ _,rfl,rfl,r_ _ _⟩
 case round=>
  obtain⟨k,Ui,rfl,Df,hb⟩:=hrel;by_cases Aa:k<l.length
  ·have Za:(k:Int)<(l.length:Int):=by omega
   have Ih:(0:Int)<=(k:Int):=by omega
   rcases HD.out with e|⟨b,off,e,Bf⟩
   ·rw[e] at Aa;simp at Aa
   subst e;obtain⟨x0,x1,x2⟩:=Bf k Aa;have kh:=zC Aa Df;have hkk:=HK.out _ (MZ Aa);clear Bf;generalize l[k]=x at *;replace ⟨x0,x1,x2⟩:=Fe hb x0 x1 x2;have Rh:=fun w'=>aa (vK x w' hkk);have HB:=aa hb;have CU:=aa kh;clear hb kh Df c0 c1 c2;by_cases hf:aD x=0
   ·have HF:=aa hf;rw[hf] at Rh;clear hf;go_wp2_with (go_at_call 92;refine((Rh _).out).mono ?_;rintro e w7 ⟨rfl,Af⟩;have Gi:=aa (aB HB.out (n_ _) Af);clear Af)
    exact⟨⟨k+1,by omega,by go_num,CU.out.1.trans HF.out,Gi.out⟩,by simp[intOf];omega⟩
   ·have pg:=CU.out.2 hf;have La:bS l≠0:=by rw[pg];exact hf
    have HF:Hid (rf=aD x):=(OU.out La).trans pg;have Cq:(0:Int)<(aD x:Int):=by omega
    have Eh:Hid (RR=rows/\UU=u):=by
     have e:rf≠0:=by rw[HF.out];exact hf
     have h1:=Xf.out;have h2:=PA.out;rw[if_neg e] at h1 h2;exact⟨h1,h2⟩
    clear hf La pg;generalize aD x=cf at *;go_wp2_with (go_at_call 92;refine((Rh _).out).mono ?_;rintro e w7 ⟨rfl,Af⟩;have Gi:=aa (aB HB.out (n_ _) Af);clear Af)
    go_ret;exact⟨iJ (by rw[HF.out]),by rw[Eh.out.1,Eh.out.2];exact Ce.out _ Gi.out,fun _=>Gi.out⟩
  ·have Za:¬(k:Int)<(l.length:Int):=by omega
   have ek:k=l.length:=by omega
   rw[ek,O1] at Df;have nf:=PU.out Df;have HB:=aa hb;have y0:=aA hb c0;have y1:=aA hb c1;have y2:=aA hb c2;have Zu:=aa (zCV rows va vc l ao cap wr (lX hb hvh) fw (eA hb HD.out) (by omega) hl);clear hb Df c0 c1 c2 hvh fw OU PU;generalize iB rows l=ap at *;have kl:(0:Int)<=(l.length:Int):=by omega
   have kl2:(l.length:Int)<=12:=by omega
   have km:(many:Int)<=1000:=by omega
   have ku:(u:Int)<=(many:Int):=by omega
   have ku0:(0:Int)<=(u:Int):=by omega
   go_upto_region 10 with(first
    | (go_at_call 93;refine Zu.out.mono ?_;rintro e w8 ⟨v8,rfl,fg,Jd⟩)
    | fail)
   obtain⟨a8,c8,rfl,h8⟩:=lV fg;have Ng:=aa (zX fg HB.out.size);have Hl:=aa (aB HB.out (n_ _) Jd);replace ⟨y0,y1,y2⟩:=Fe Jd y0 y1 y2;clear fg Jd h8 Zu;by_cases Xy:40<ap.length
   ·have ur:(40:Int)<(ap.length:Int):=by omega
    have HF:Hid (rf=8):=aa (by rw[nf,if_pos (.inl Xy)]);have Eh:Hid (RR=rows/\UU=u):=by
     have e:rf≠0:=by rw[HF.out];decide
     have h1:=Xf.out;have h2:=PA.out;rw[if_neg e] at h1 h2;exact⟨h1,h2⟩
    clear nf;go_wp2;go_ret;exact⟨iJ (by rw[HF.out];rfl),by rw[Eh.out.1,Eh.out.2];exact Ce.out _ Hl.out,fun _=>Hl.out⟩
   have ur:decide ((40:Int)<(ap.length:Int))=false:=by simp;omega
   by_cases hmy:many<l.length+1
   ·have DP:(many:Int)<(l.length:Int)+1:=by omega
    have HF:Hid (rf=8):=aa (by rw[nf,if_pos (.inr hmy)]);have Eh:Hid (RR=rows/\UU=u):=by
     have e:rf≠0:=by rw[HF.out];decide
     have h1:=Xf.out;have h2:=PA.out;rw[if_neg e] at h1 h2;exact⟨h1,h2⟩
    clear nf;go_wp2;go_ret;exact⟨iJ (by rw[HF.out];rfl),by rw[Eh.out.1,Eh.out.2];exact Ce.out _ Hl.out,fun _=>Hl.out⟩
   have DP:decide ((many:Int)<(l.length:Int)+1)=false:=by simp;omega
   have hF:rf=0:=by rw[nf,if_neg (by omega)]
   have HF:=aa hF;have Eh:Hid (RR=ap/\UU=xZ u many l.length):=by
    have h1:=Xf.out;have h2:=PA.out;rw[if_pos hF] at h1 h2;exact⟨h1,h2⟩
   have HS8:=aa fun j=>(CZ (a:=⟨rb,j,none⟩) (Hl.out.block rb (HV.out.lt (.inl rfl)))).trans (HV.out.soft j);have Bh:=HV.out.lo;have sf:=HS8.out;clear nf hF Xf PA;by_cases Nu:many-u<l.length+1
   ·have UP:(many:Int)-(u:Int)<(l.length:Int)+1:=by omega
    have HU:Hid (xZ u many l.length=0+l.length+1):=aa (by unfold xZ;rw[if_pos Nu]);go_wp2_with fail;go_quiet (fail);go_wp2;go_ret;refine⟨iJ (by rw[HF.out];rfl),?_,fun La=>absurd HF.out La⟩;rw[Eh.out.1,Eh.out.2,HU.out];have hW:∀ k,k≠rb->((((w8.drewN nq).setCell ⟨rb,1,none⟩ (i_ k_ 0)).setCell ⟨rb,1,none⟩ (i_ k_ ((l.length:Int)+1))).setCell ⟨rb,0,none⟩ (FZ a8 ap.length c8)).heap[k]?=(w8.drewN nq).heap[k]?:=fun k hn=>(h_ _ _ _ _ hn).trans ((h_ _ _ _ _ hn).trans (h_ _ _ _ _ hn));have xr:=below_drewN Hl.out nq;have z0:=aA (below_drewN (r_ _ w8) nq) y0;have z1:=aA (below_drewN (r_ _ w8) nq) y1;have z2:=aA (below_drewN (r_ _ w8) nq) y2;refine HV.out.fq hB xr (bQ Ng.out (below_drewN (r_ _ w8) nq)) _ hW (fun j=>by rw[EZ,EZ,EZ]) ((((xr.mono hB).setCell (p:=⟨rb,1,none⟩) Bh _).setCell (p:=⟨rb,1,none⟩) Bh _).setCell (p:=⟨rb,0,none⟩) Bh _) ?_ ?_ ?_
    ·exact u_ _ _ _ ((t_ _ _ _ _ (by simp)).trans ((t_ _ _ _ _ (by simp)).trans z0))
    ·refine(t_ _ _ _ _ (by simp)).trans ((u_ _ _ _ (u_ _ _ _ z1)).trans ?_);rw[show((0+l.length+1:Nat):Int)=(l.length:Int)+1 by omega]
    ·exact(t_ _ _ _ _ (by simp)).trans ((t_ _ _ _ _ (by simp)).trans ((t_ _ _ _ _ (by simp)).trans z2))
   ·have UP:¬(many:Int)-(u:Int)<(l.length:Int)+1:=by omega
    have HU:Hid (xZ u many l.length=u+l.length+1):=aa (by unfold xZ;rw[if_neg Nu]);go_wp2_with fail;go_quiet (fail);go_wp2;go_ret;refine⟨iJ (by rw[HF.out];rfl),?_,fun La=>absurd HF.out La⟩;rw[Eh.out.1,Eh.out.2,HU.out];have hW:∀ k,k≠rb->(((w8.drewN nq).setCell ⟨rb,1,none⟩ (i_ k_ ((u:Int)+(l.length:Int)+1))).setCell ⟨rb,0,none⟩ (FZ a8 ap.length c8)).heap[k]?=(w8.drewN nq).heap[k]?:=fun k hn=>(h_ _ _ _ _ hn).trans (h_ _ _ _ _ hn);have xr:=below_drewN Hl.out nq;have z0:=aA (below_drewN (r_ _ w8) nq) y0;have z1:=aA (below_drewN (r_ _ w8) nq) y1;have z2:=aA (below_drewN (r_ _ w8) nq) y2;refine HV.out.fq hB xr (bQ Ng.out (below_drewN (r_ _ w8) nq)) _ hW (fun j=>by rw[EZ,EZ]) (((xr.mono hB).setCell (p:=⟨rb,1,none⟩) Bh _).setCell (p:=⟨rb,0,none⟩) Bh _) ?_ ?_ ?_
    ·exact u_ _ _ _ ((t_ _ _ _ _ (by simp)).trans z0)
    ·refine(t_ _ _ _ _ (by simp)).trans ((u_ _ _ _ z1).trans ?_);rw[show((u+l.length+1:Nat):Int)=(u:Int)+(l.length:Int)+1 by omega]
    ·exact(t_ _ _ _ _ (by simp)).trans ((t_ _ _ _ _ (by simp)).trans z2)
end
section
open Go.RowKit Go.Joins
structure Zd where
 eb:Nat
 sb:Nat
 pv:Value
 kv:Value
 rv:Value
 rows:ta
 u:Nat
 many:Nat
 PL:List Value
 KL:List (List ByteArray×Value)
 W:Nat->Nat
 G:Nat->Nat->Prop
abbrev Fs:=Nat->Option Mc
def qn (r:Zd) (f:Fs) (i:Nat):Value:=match f i with
 | none=>.pointer none
 | some _=>.pointer (some ⟨r.W i,0,none⟩)
def W_ (r:Zd) (f:Fs):Nat->Nat->Prop
 | 0=>fun k=>k=r.eb
 | 1=>fun k=>k=r.sb
 | 2=>fun k=>r.pv.ownBlock=some k
 | 3=>fun k=>r.kv.ownBlock=some k
 | i+4=>fun k=>f i≠none/\k=r.W i
def X_ (X:Nat->Prop) (r:Zd) (f:Fs) (k:Nat):Prop:=X k∨∃ i,W_ r f i k
def Y_ (r:Zd) (f:Fs) (k:Nat):Prop:=r.rv.ownBlock=some k∨(∃ p∈r.KL,p.2.ownBlock=some k)∨∃ i,f i≠none/\r.G i k/\k≠r.W i
def px (w:World) (rb:Nat) (G:Nat->Prop) (v:Mc):Prop:=∃ sn:Sn,sn.n=v.n/\RW w rb G v.P sn v.ba v.ga
structure RE (w:World) (B:Nat) (X:Nat->Prop) (r:Zd) (f:Fs):Prop where
 c0:w.cell? ⟨r.eb,0,none⟩=some (.pointer (some ⟨r.sb,0,none⟩))
 c1:w.cell? ⟨r.eb,1,none⟩=some r.pv
 c2:w.cell? ⟨r.eb,2,none⟩=some r.kv
 cd:∀ i,i<4->w.cell? ⟨r.eb,3+i,none⟩=some (qn r f i)
 soft:∀ j,w.frozen? ⟨r.eb,j,none⟩=false
 rs:RS w B r.sb r.rv r.rows r.u r.many
 past:w.ownsRow B 32 1 r.pv r.PL.length r.PL
 keys:w.ownsRow B 97 1 r.kv r.KL.length (r.KL.map (·.2))
 Am:∀ p∈r.KL,w.ownsRow B 9 1 p.2 p.1.length (p.1.map v_)
 vw:∀ i v,f i=some v->px w (r.W i) (r.G i) v
 ap:∀ i j k,W_ r f i k->W_ r f j k->i=j
 Ma:∀ i k,W_ r f i k->B<=k/\¬X k
 im:∀ k,Y_ r f k->¬X_ X r f k
 xl:∀ k,X k->k<w.heap.size
 bl:B<=w.heap.size
theorem zPw {sn sn':Sn} (h:RW w rb G P sn ba ga) (e:sn'.n=sn.n):RW w rb G P sn' ba ga:=by
 obtain⟨ra,rc,ca,cc,sa,sc,h1,h2⟩:=h;exact⟨ra,rc,ca,cc,sa,sc,⟨h1.c0,by rw[e];exact h1.c1,h1.c2,h1.c3,h1.soft,h1.hP,h1.nP,h1.hC,h1.hR⟩,h2⟩
section
variable {w w' w1:World} {B:Nat} {X X':Nat->Prop} {r:Zd} {f:Fs}
theorem RE.lt (h:RE w B X r f) (hk:W_ r f i k):k<w.heap.size:=by
 match i,hk with
 | 0,hk=>rw[show k=r.eb from hk];exact AZ _ _ h.c0
 | 1,hk=>exact h.rs.lt (.inl hk)
 | 2,hk=>exact(l_ h.past k hk).2
 | 3,hk=>exact(l_ h.keys k hk).2
 | i+4,⟨h1,h2⟩=>
  cases hv:f i with
  | none=>exact absurd hv h1
  | some v=>
   obtain⟨sn,_,hr⟩:=h.vw i v hv;rw[h2];exact hr.ug
theorem RE.Zp (h:RE w B X r f) (hk:Y_ r f k):k<w.heap.size:=by
 rcases hk with e|⟨p,hp,e⟩|⟨i,h1,h2,_⟩
 ·exact h.rs.lt (.inr e)
 ·exact(l_ (h.Am p hp) k e).2
 ·cases hv:f i with
  | none=>exact absurd hv h1
  | some v=>
   obtain⟨sn,_,hr⟩:=h.vw i v hv;exact hr.lt h2
theorem RE.YI (h:RE w B X r f) (hk:X_ X r f k):k<w.heap.size:=hk.elim (h.xl k) fun ⟨_,e⟩=>h.lt e
theorem RE.yk (_h:RE w B X r f) {v:Mc} (hv:f i=some v) (hk:r.G i k):W_ r f (i+4) k∨Y_ r f k:=by
 have hn:f i≠none:=by rw[hv];exact nofun
 by_cases e:k=r.W i
 ·exact .inl ⟨hn,e⟩
 ·exact .inr (.inr (.inr ⟨i,hn,hk,e⟩))
theorem RE.kept (h:RE w B X r f) (hs:w.heap.size<=w'.heap.size) (hk:∀ k,k<w.heap.size->¬X k->w'.heap[k]?=w.heap[k]?/\¬X' k) (hx:∀ k,X' k->k<w'.heap.size):RE w' B X' r f:=by
 have hm:∀ i k,W_ r f i k->w'.heap[k]?=w.heap[k]?:=fun i k e=>(hk k (h.lt e) (h.Ma i k e).2).1;have hi:∀ k,Y_ r f k->w'.heap[k]?=w.heap[k]?:=fun k e=>(hk k (h.Zp e) fun x=>h.im k e (.inl x)).1;have he:=hm 0 r.eb rfl;exact {
  c0:=(b_ he).trans h.c0
  c1:=(b_ he).trans h.c1
  c2:=(b_ he).trans h.c2
  cd:=fun i hi=>(b_ he).trans (h.cd i hi)
  soft:=fun j=>(CZ he).trans (h.soft j)
  rs:=h.rs.kept fun k e=>e.elim (fun e=>hm 1 k e) fun e=>hi k (.inl e)
  past:=aI h.past fun k e=>hm 2 k e
  keys:=aI h.keys fun k e=>hm 3 k e
  Am:=fun p hp=>aI (h.Am p hp) fun k e=>hi k (.inr (.inl ⟨p,hp,e⟩))
  vw:=fun i v hv=>by
   obtain⟨sn,e,hr⟩:=h.vw i v hv;exact⟨sn,e,hr.kept fun k hk=>(h.yk hv hk).elim (fun e=>hm _ k e) fun e=>hi k e⟩
  ap:=h.ap
  Ma:=fun i k e=>⟨(h.Ma i k e).1,(hk k (h.lt e) (h.Ma i k e).2).2⟩
  im:=fun k e hy=>hy.elim (hk k (h.Zp e) fun x=>h.im k e (.inl x)).2 fun he=>h.im k e (.inr he)
  xl:=hx
  bl:=BZ h.bl hs }
theorem RE.on (h:RE w B X r f) (hb:Below w.heap.size w w'):RE w' B X r f:=h.kept hb.size (fun k hk hn=>⟨hb.block k hk,hn⟩) fun k e=>UY (h.xl k e) hb.size
structure iI (w w':World) (B:Nat) (X:Nat->Prop):Prop where
 Ia:Below B w w'
 fx:∀ k,X k->w'.heap[k]?=w.heap[k]?
theorem iI.trans (h:iI w w1 B X) (h':iI w1 w' B X):iI w w' B X:=⟨h.Ia.trans h'.Ia,fun k e=>(h'.fx k e).trans (h.fx k e)⟩
theorem RE.here (h:RE w B X r f) (hb:Below w.heap.size w w'):iI w w' B X:=⟨hb.mono h.bl,fun k e=>hb.block k (h.xl k e)⟩
theorem RE.set (h:RE w B X r f) (j:Nat) (v:Value):iI w (w.setCell ⟨r.eb,j,none⟩ v) B X:=⟨(r_ B w).setCell (p:=⟨r.eb,j,none⟩) (h.Ma 0 r.eb rfl).1 v,fun k e=>h_ _ _ _ _ fun e'=>(h.Ma 0 k e').2 e⟩
theorem RE.store (h:RE w B X r f) {Sj:ta} {u':Nat} (ha:Hz w w' B r.sb (fj r.sb r.rv) Sj u' r.many):∃ v',RE w' B X { r with rv:=v',rows:=Sj,u:=u' } f/\iI w w' B X:=by
 obtain⟨T',⟨v',hr,rfl⟩,st,un⟩:=ha;have hn:∀ i k,i≠1->W_ r f i k->k≠r.sb:=fun i k hi e e'=>hi (h.ap i 1 k e e');have pj:∀ k,Y_ r f k->k≠r.sb:=fun k e e'=>h.im k e (.inr ⟨1,e'⟩);have hm:∀ i k,i≠1->W_ r f i k->w'.heap[k]?=w.heap[k]?:=fun i k hi e=>un k (h.lt e) (hn i k hi e);have hi:∀ k,Y_ r f k->w'.heap[k]?=w.heap[k]?:=fun k e=>un k (h.Zp e) (pj k e);have he:=hm 0 r.eb (by decide) rfl;refine⟨v',{
  c0:=(b_ he).trans h.c0
  c1:=(b_ he).trans h.c1
  c2:=(b_ he).trans h.c2
  cd:=fun i hi=>(b_ he).trans (h.cd i hi)
  soft:=fun j=>(CZ he).trans (h.soft j)
  rs:=hr
  past:=aI h.past fun k e=>hm 2 k (by decide) e
  keys:=aI h.keys fun k e=>hm 3 k (by decide) e
  Am:=fun p hp=>aI (h.Am p hp) fun k e=>hi k (.inr (.inl ⟨p,hp,e⟩))
  vw:=fun i v hv=>by
   obtain⟨sn,e,hr⟩:=h.vw i v hv;exact⟨sn,e,hr.kept fun k hk=>(h.yk hv hk).elim (fun e=>hm _ k (by omega) e) fun e=>hi k e⟩
  ap:=h.ap
  Ma:=h.Ma
  im:=fun k e hy=>?_
  xl:=fun k e=>UY (h.xl k e) st.Ia.size
  bl:=BZ h.bl st.Ia.size },st.Ia,fun k e=>un k (h.xl k e) fun e'=>(h.Ma 1 k e').2 e⟩
 rcases e with e|e
 ·have Aa:=h.YI hy;by_cases hT:fj r.sb r.rv k
  ·rcases hT with e2|e2
   ·exact hr.nv k e e2
   ·exact h.im k (.inl e2) hy
  ·exact(st.Ma k Aa hT).2 (.inr e)
 ·exact h.im k (.inr e) hy
theorem RE.drop (h:RE w B X r f) (hi:i<4):RE (w.setCell ⟨r.eb,3+i,none⟩ (.pointer none)) B X r (Ab f i none):=by
 have hs:∀ k,k≠r.eb->(w.setCell ⟨r.eb,3+i,none⟩ (.pointer none)).heap[k]?=w.heap[k]?:=fun k hk=>h_ _ _ _ _ hk;have hF:∀ j k,W_ r (Ab f i none) j k->W_ r f j k:=fun j k e=>by
  match j,e with
  | 0,e=>exact e
  | 1,e=>exact e
  | 2,e=>exact e
  | 3,e=>exact e
  | j+4,⟨h1,h2⟩=>exact⟨fun e=>h1 (by unfold Ab;split<;>first|rfl|exact e),h2⟩
 have hI:∀ k,Y_ r (Ab f i none) k->Y_ r f k:=fun k e=>by
  rcases e with e|e|⟨j,h1,h2⟩
  ·exact .inl e
  ·exact .inr (.inl e)
  ·exact .inr (.inr ⟨j,fun e=>h1 (by unfold Ab;split<;>first|rfl|exact e),h2⟩)
 have hn:∀ j k,j≠0->W_ r f j k->k≠r.eb:=fun j k hj e e'=>hj (h.ap j 0 k e e');have pj:∀ k,Y_ r f k->k≠r.eb:=fun k e e'=>h.im k e (.inr ⟨0,e'⟩);exact {
  c0:=(t_ _ _ _ _ (by simp<;>omega)).trans h.c0
  c1:=(t_ _ _ _ _ (by simp<;>omega)).trans h.c1
  c2:=(t_ _ _ _ _ (by simp<;>omega)).trans h.c2
  cd:=fun j hj=>by
   by_cases e:j=i
   ·subst e;unfold qn;rw[hE];exact u_ _ _ _ (h.cd j hj)
   ·unfold qn;rw[hU _ e];exact(t_ _ _ _ _ (by simp<;>omega)).trans (h.cd j hj)
  soft:=fun j=>by rw[EZ];exact h.soft j
  rs:=h.rs.kept fun k e=>hs k (e.elim (fun e=>hn 1 k (by decide) e) fun e=>pj k (.inl e))
  past:=aI h.past fun k e=>hs k (hn 2 k (by decide) e)
  keys:=aI h.keys fun k e=>hs k (hn 3 k (by decide) e)
  Am:=fun p hp=>aI (h.Am p hp) fun k e=>hs k (pj k (.inr (.inl ⟨p,hp,e⟩)))
  vw:=fun j v hv=>by
   have Ro:=EG hv;obtain⟨sn,e,hr⟩:=h.vw j v Ro;exact⟨sn,e,hr.kept fun k hk=>hs k ((h.yk Ro hk).elim (fun e=>hn _ k (by omega) e) fun e=>pj k e)⟩
  ap:=fun a b k ha hb=>h.ap a b k (hF a k ha) (hF b k hb)
  Ma:=fun a k e=>h.Ma a k (hF a k e)
  im:=fun k e hy=>h.im k (hI k e) (hy.elim .inl fun ⟨a,e⟩=>.inr ⟨a,hF a k e⟩)
  xl:=fun k e=>by simpa using h.xl k e
  bl:=by simpa using h.bl }
end
section
variable {w w' w1:World} {B:Nat} {X X':Nat->Prop} {r:Zd} {f:Fs}
def Se {α:Type} (g:Nat->α) (i:Nat) (x:α):Nat->α:=fun j=>if j=i then x else g j
theorem kN {α:Type} (g:Nat->α) (i:Nat) (x:α):Se g i x i=x:=if_pos rfl
theorem jI {α:Type} {g:Nat->α} (x:α) (h:j≠i):Se g i x j=g j:=if_neg h
theorem AG {i wb:Nat} {G:Nat->Prop} {v:Mc}:∀ j k,W_ { r with W:=Se r.W i wb,G:=Se r.G i G } (Ab f i (some v)) j k->W_ r f j k∨(j=i+4/\k=wb)
 | 0,_,e=>.inl e
 | 1,_,e=>.inl e
 | 2,_,e=>.inl e
 | 3,_,e=>.inl e
 | j+4,k,⟨h1,h2⟩=>by
  by_cases e:j=i
  ·subst e;exact .inr ⟨rfl,h2.trans (kN _ _ _)⟩
  ·rw[hU _ e] at h1;exact .inl ⟨h1,h2.trans (jI _ e)⟩
theorem zNJ {v:Mc} (e:Y_ { r with W:=Se r.W i wb,G:=Se r.G i G } (Ab f i (some v)) k):Y_ r f k∨(G k/\k≠wb):=by
 rcases e with e|e|⟨j,h1,h2,h3⟩
 ·exact .inl (.inl e)
 ·exact .inl (.inr (.inl e))
 ·have tr:Se r.G i G j k:=h2;have zx:k≠Se r.W i wb j:=h3;by_cases e:j=i
  ·subst e;rw[kN] at tr zx;exact .inr ⟨tr,zx⟩
  ·rw[hU _ e] at h1;rw[jI _ e] at tr zx;exact .inl (.inr (.inr ⟨j,h1,tr,zx⟩))
theorem zNv {v:Mc} (j:Nat):qn { r with W:=Se r.W i wb,G:=Se r.G i G } (Ab f i (some v)) j=if j=i then .pointer (some ⟨wb,0,none⟩) else qn r f j:=by
 unfold qn;by_cases e:j=i
 ·subst e;rw[hE,if_pos rfl];dsimp only;rw[kN]
 ·rw[hU _ e,if_neg e];dsimp only;rw[jI _ e]
theorem RE.begun (h:RE w B X r f) {v:Mc} (hz:w.heap.size<=w'.heap.size) (hs:∀ k,k<w.heap.size->k≠r.eb->w'.heap[k]?=w.heap[k]?) (hc:∀ j,j≠3+i->w'.cell? ⟨r.eb,j,none⟩=w.cell? ⟨r.eb,j,none⟩) (il:w'.cell? ⟨r.eb,3+i,none⟩=some (.pointer (some ⟨wb,0,none⟩))) (hf:∀ j,w'.frozen? ⟨r.eb,j,none⟩=false) (hw:w.heap.size<=wb) (hr:px w' wb G v) (hG:∀ k,G k->k=wb∨Y_ r f k):
  RE w' B X { r with W:=Se r.W i wb,G:=Se r.G i G } (Ab f i (some v)):=by
 have hn:∀ j k,j≠0->W_ r f j k->w'.heap[k]?=w.heap[k]?:=fun j k hj e=>hs k (h.lt e) fun e'=>hj (h.ap j 0 k e e');have pj:∀ k,Y_ r f k->w'.heap[k]?=w.heap[k]?:=fun k e=>hs k (h.Zp e) fun e'=>h.im k e (.inr ⟨0,e'⟩);have qm:∀ k,X_ X r f k->k≠wb:=fun k e e'=>by have:=h.YI e;omega
 exact {
  c0:=(hc 0 (by omega)).trans h.c0
  c1:=(hc 1 (by omega)).trans h.c1
  c2:=(hc 2 (by omega)).trans h.c2
  cd:=fun j hj=>by
   rw[zNv];split
   ·rename_i e;subst e;exact il
   ·exact(hc _ (by omega)).trans (h.cd j hj)
  soft:=hf
  rs:=h.rs.kept fun k e=>e.elim (fun e=>hn 1 k (by decide) e) fun e=>pj k (.inl e)
  past:=aI h.past fun k e=>hn 2 k (by decide) e
  keys:=aI h.keys fun k e=>hn 3 k (by decide) e
  Am:=fun p hp=>aI (h.Am p hp) fun k e=>pj k (.inr (.inl ⟨p,hp,e⟩))
  vw:=fun j u hu=>by
   show px _ (Se r.W i wb j) (Se r.G i G j) u;by_cases e:j=i
   ·subst e;rw[hE] at hu;cases hu;rw[kN,kN];exact hr
   ·rw[hU _ e] at hu;rw[jI _ e,jI _ e];obtain⟨sn,e,hr⟩:=h.vw j u hu;exact⟨sn,e,hr.kept fun k hk=>(h.yk hu hk).elim (fun e=>hn _ k (by omega) e) fun e=>pj k e⟩
  ap:=fun a b k ha hb=>by
   rcases AG a k ha with ha|⟨ha,ka⟩<;>rcases AG b k hb with hb|⟨hb,kb⟩
   ·exact h.ap a b k ha hb
   ·exact absurd kb (qm k (.inr ⟨a,ha⟩))
   ·exact absurd ka (qm k (.inr ⟨b,hb⟩))
   ·rw[ha,hb]
  Ma:=fun a k e=>by
   rcases AG a k e with e|⟨_,rfl⟩
   ·exact h.Ma a k e
   ·exact⟨BZ h.bl hw,fun e=>qm k (.inl e) rfl⟩
  im:=fun k e hy=>by
   have e':Y_ r f k:=by
    rcases zNJ e with e|⟨e,hk⟩
    ·exact e
    ·exact(hG k e).resolve_left hk
   rcases hy with hy|⟨a,ha⟩
   ·exact h.im k e' (.inl hy)
   ·rcases AG a k ha with ha|⟨_,hk⟩
    ·exact h.im k e' (.inr ⟨a,ha⟩)
    ·have:=h.Zp e';omega
  xl:=fun k e=>UY (h.xl k e) hz
  bl:=BZ h.bl hz }
theorem RE.view (h:RE w B X r f) {v0 v:Mc} (hv:f i=some v0) (hs:w.heap.size<=w'.heap.size) (hk:∀ k,k<w.heap.size->¬X k->k≠r.W i->w'.heap[k]?=w.heap[k]?/\¬X' k) (lg:¬X' (r.W i)) (hx:∀ k,X' k->k<w'.heap.size) (hr:px w' (r.W i) G v) (hG:∀ k,G k->k≠r.W i->¬X' k/\¬X_ X r f k):
  RE w' B X' { r with W:=Se r.W i (r.W i),G:=Se r.G i G } (Ab f i (some v)):=by
 have Xx:W_ r f (i+4) (r.W i):=⟨by rw[hv];exact nofun,rfl⟩;have hF:∀ j k,W_ { r with W:=Se r.W i (r.W i),G:=Se r.G i G } (Ab f i (some v)) j k->W_ r f j k:=fun j k e=>(AG j k e).elim id fun ⟨e1,e2⟩=>by rw[e1,e2];exact Xx
 have hn:∀ j k,j≠i+4->W_ r f j k->w'.heap[k]?=w.heap[k]?:=fun j k hj e=>(hk k (h.lt e) (h.Ma j k e).2 fun e'=>hj (h.ap j (i+4) k e (e'▸Xx))).1;have pj:∀ k,Y_ r f k->w'.heap[k]?=w.heap[k]?/\¬X' k:=fun k e=>hk k (h.Zp e) (fun x=>h.im k e (.inl x)) fun e'=>h.im k e (.inr ⟨_,e'▸Xx⟩);have he:=hn 0 r.eb (by omega) rfl;exact {
  c0:=(b_ he).trans h.c0
  c1:=(b_ he).trans h.c1
  c2:=(b_ he).trans h.c2
  cd:=fun j hj=>by
   rw[zNv];refine(b_ he).trans ((h.cd j hj).trans ?_);split
   ·rename_i e;subst e;unfold qn;rw[hv]
   ·rfl
  soft:=fun j=>(CZ he).trans (h.soft j)
  rs:=h.rs.kept fun k e=>e.elim (fun e=>hn 1 k (by omega) e) fun e=>(pj k (.inl e)).1
  past:=aI h.past fun k e=>hn 2 k (by omega) e
  keys:=aI h.keys fun k e=>hn 3 k (by omega) e
  Am:=fun p hp=>aI (h.Am p hp) fun k e=>(pj k (.inr (.inl ⟨p,hp,e⟩))).1
  vw:=fun j u hu=>by
   show px _ (Se r.W i (r.W i) j) (Se r.G i G j) u;by_cases e:j=i
   ·subst e;rw[hE] at hu;cases hu;rw[kN,kN];exact hr
   ·rw[hU _ e] at hu;rw[jI _ e,jI _ e];obtain⟨sn,e2,hr⟩:=h.vw j u hu;exact⟨sn,e2,hr.kept fun k hk=>(h.yk hu hk).elim (fun e'=>hn _ k (by omega) e') fun e=>(pj k e).1⟩
  ap:=fun a b k ha hb=>h.ap a b k (hF a k ha) (hF b k hb)
  Ma:=fun a k e=>by
   have e':=hF a k e;refine⟨(h.Ma a k e').1,?_⟩;by_cases e2:k=r.W i
   ·rw[e2];exact lg
   ·exact(hk k (h.lt e') (h.Ma a k e').2 e2).2
  im:=fun k e hy=>by
   rcases zNJ e with e|⟨e,lf⟩
   ·rcases hy with hy|⟨a,ha⟩
    ·exact(pj k e).2 hy
    ·exact h.im k e (.inr ⟨a,hF a k ha⟩)
   ·rcases hy with hy|⟨a,ha⟩
    ·exact(hG k e lf).1 hy
    ·exact(hG k e lf).2 (.inr ⟨a,hF a k ha⟩)
  xl:=hx
  bl:=BZ h.bl hs }
structure Ky (w w3:World) (B c:Nat) (X:Nat->Prop) (r:Zd) (f:Fs) (pv:Value) (g:Nat):Prop where
 he:∀ k,k<w.heap.size->pv.ownBlock≠some k->w3.heap[k]?=w.heap[k]?
 Ia:Below B w w3
 Sc:pv.ownBlock=some g∨w.heap.size<=g
theorem RE.grow (h:RE w B X r f) {c:Nat} {pv:Value} (hb:Below w.heap.size w W1) (hg:W1.grownBy w3 pv.ownBlock) (hp:∀ k,pv.ownBlock=some k->B<=k) (Sc:pv.ownBlock=some g∨w.heap.size<=g):Ky w w3 B c X r f pv g:=
 ⟨fun k hk hn=>(hg.block k (UY hk hb.size) fun e=>hn e.symm).trans (hb.block k hk),(hb.mono h.bl).grown hg (BZ h.bl hb.size) hp,Sc⟩
theorem RE.TF (h:RE w B X r f) {u:Value} (hg:Ky w w3 B 1 X r f r.pv g) (ho:w3.ownsRow B 32 1 (.slice (some ⟨g,0,none⟩) (r.PL.length+1) cap) (r.PL.length+1) (r.PL++[u])):
  RE (w3.setCell ⟨r.eb,1,none⟩ (.slice (some ⟨g,0,none⟩) (r.PL.length+1) cap)) B X { r with pv:=.slice (some ⟨g,0,none⟩) (r.PL.length+1) cap,PL:=r.PL++[u] } f/\iI w (w3.setCell ⟨r.eb,1,none⟩ (.slice (some ⟨g,0,none⟩) (r.PL.length+1) cap)) B X/\
  ∀ k,k<w.heap.size->¬X_ X r f k->(w3.setCell ⟨r.eb,1,none⟩ (.slice (some ⟨g,0,none⟩) (r.PL.length+1) cap)).heap[k]?=w.heap[k]?/\¬X_ X { r with pv:=.slice (some ⟨g,0,none⟩) (r.PL.length+1) cap,PL:=r.PL++[u] } f k:=by
 have hs:∀ k,k≠r.eb->(w3.setCell ⟨r.eb,1,none⟩ (.slice (some ⟨g,0,none⟩) (r.PL.length+1) cap)).heap[k]?=w3.heap[k]?:=fun k hk=>h_ _ _ _ _ hk;have hF:∀ j k,W_ { r with pv:=.slice (some ⟨g,0,none⟩) (r.PL.length+1) cap,PL:=r.PL++[u] } f j k->W_ r f j k∨(j=2/\w.heap.size<=k):=fun j k e=>by
  match j,e with
  | 0,e=>exact .inl e
  | 1,e=>exact .inl e
  | 2,e=>
   have e2:g=k:=I0.inj e;subst e2;exact hg.Sc.elim .inl fun e=>.inr ⟨rfl,e⟩
  | 3,e=>exact .inl e
  | j+4,e=>exact .inl e
 have hn:∀ j k,j≠0->j≠2->W_ r f j k->(w3.setCell ⟨r.eb,1,none⟩ (.slice (some ⟨g,0,none⟩) (r.PL.length+1) cap)).heap[k]?=w.heap[k]?:=fun j k h0 h2 e=>(hs k fun e'=>h0 (h.ap j 0 k e e')).trans (hg.he k (h.lt e) fun e'=>h2 (h.ap j 2 k e e'));have hy:∀ k,k<w.heap.size->¬X_ X r f k->(w3.setCell ⟨r.eb,1,none⟩ (.slice (some ⟨g,0,none⟩) (r.PL.length+1) cap)).heap[k]?=w.heap[k]?/\¬X_ X { r with pv:=.slice (some ⟨g,0,none⟩) (r.PL.length+1) cap,PL:=r.PL++[u] } f k:=fun k hk hn=>⟨(hs k fun e=>hn (.inr ⟨0,e⟩)).trans (hg.he k hk fun e=>hn (.inr ⟨2,e⟩)),fun e=>e.elim (fun e=>hn (.inl e)) fun ⟨a,e⟩=>(hF a k e).elim (fun e=>hn (.inr ⟨a,e⟩)) fun e=>by omega⟩;have pj:∀ k,Y_ r f k->(w3.setCell ⟨r.eb,1,none⟩ (.slice (some ⟨g,0,none⟩) (r.PL.length+1) cap)).heap[k]?=w.heap[k]?:=fun k e=>(hy k (h.Zp e) (h.im k e)).1;have he:w3.heap[r.eb]?=w.heap[r.eb]?:=hg.he _ (h.lt (i:=0) rfl) fun e=>absurd (h.ap 0 2 r.eb rfl e) (by decide);have Rp:g≠r.eb:=fun e=>hg.Sc.elim (fun e2=>absurd (h.ap 0 2 r.eb rfl (e▸e2)) (by decide)) fun e2=>by have:=h.lt (i:=0) (k:=r.eb) rfl;omega
 refine⟨{
  c0:=(t_ _ _ _ _ (by simp)).trans ((b_ he).trans h.c0)
  c1:=u_ _ _ _ ((b_ he).trans h.c1)
  c2:=(t_ _ _ _ _ (by simp)).trans ((b_ he).trans h.c2)
  cd:=fun i hi=>(t_ _ _ _ _ (by simp<;>omega)).trans ((b_ he).trans (h.cd i hi))
  soft:=fun j=>by rw[EZ];exact(CZ he).trans (h.soft j)
  rs:=h.rs.kept fun k e=>e.elim (fun e=>hn 1 k (by decide) (by decide) e) fun e=>pj k (.inl e)
  past:=by
   show F2 _ _ _ _ _ (r.PL++[u]).length _;rw[YY];exact aI ho fun k e=>hs k (by rw[<-I0.inj e];exact Rp)
  keys:=aI h.keys fun k e=>hn 3 k (by decide) (by decide) e
  Am:=fun p hp=>aI (h.Am p hp) fun k e=>pj k (.inr (.inl ⟨p,hp,e⟩))
  vw:=fun j v hv=>by
   obtain⟨sn,e,hr⟩:=h.vw j v hv;exact⟨sn,e,hr.kept fun k hk=>(h.yk hv hk).elim (fun e=>hn _ k (by omega) (by omega) e) fun e=>pj k e⟩
  ap:=fun a b k ha hb=>by
   rcases hF a k ha with ha|⟨ha,ka⟩<;>rcases hF b k hb with hb|⟨hb,kb⟩
   ·exact h.ap a b k ha hb
   ·have:=h.lt ha;omega
   ·have:=h.lt hb;omega
   ·rw[ha,hb]
  Ma:=fun a k e=>by
   rcases hF a k e with e|⟨_,e⟩
   ·exact h.Ma a k e
   ·exact⟨BZ h.bl e,fun x=>by have:=h.xl k x;omega⟩
  im:=fun k e=>(hy k (h.Zp e) (h.im k e)).2
  xl:=fun k e=>by have:=h.xl k e;have:=hg.Ia.size;simp;omega
  bl:=by have:=h.bl;have:=hg.Ia.size;simp;omega },⟨hg.Ia.setCell (p:=⟨r.eb,1,none⟩) (h.Ma 0 r.eb rfl).1 _,fun k e=>(hs k fun e'=>(h.Ma 0 k e').2 e).trans (hg.he k (h.xl k e) fun e'=>(h.Ma 2 k e').2 e)⟩,hy⟩
theorem RE.FF (h:RE w B X r f) {ks:List ByteArray} {u:Value} (hg:Ky w w3 B 2 X r f r.kv g) (ho:w3.ownsRow B 97 1 (.slice (some ⟨g,0,none⟩) (r.KL.length+1) cap) (r.KL.length+1) (r.KL.map (·.2)++[u])) (hu:w.ownsRow B 9 1 u ks.length (ks.map v_)) (hun:∀ k,u.ownBlock=some k->¬X_ X r f k):
  RE (w3.setCell ⟨r.eb,2,none⟩ (.slice (some ⟨g,0,none⟩) (r.KL.length+1) cap)) B X { r with kv:=.slice (some ⟨g,0,none⟩) (r.KL.length+1) cap,KL:=r.KL++[(ks,u)] } f/\iI w (w3.setCell ⟨r.eb,2,none⟩ (.slice (some ⟨g,0,none⟩) (r.KL.length+1) cap)) B X:=by
 have hs:∀ k,k≠r.eb->(w3.setCell ⟨r.eb,2,none⟩ (.slice (some ⟨g,0,none⟩) (r.KL.length+1) cap)).heap[k]?=w3.heap[k]?:=fun k hk=>h_ _ _ _ _ hk;have hF:∀ j k,W_ { r with kv:=.slice (some ⟨g,0,none⟩) (r.KL.length+1) cap,KL:=r.KL++[(ks,u)] } f j k->W_ r f j k∨(j=3/\w.heap.size<=k):=fun j k e=>by
  match j,e with
  | 0,e=>exact .inl e
  | 1,e=>exact .inl e
  | 2,e=>exact .inl e
  | 3,e=>
   have e2:g=k:=I0.inj e;subst e2;exact hg.Sc.elim .inl fun e=>.inr ⟨rfl,e⟩
  | j+4,e=>exact .inl e
 have hn:∀ j k,j≠0->j≠3->W_ r f j k->(w3.setCell ⟨r.eb,2,none⟩ (.slice (some ⟨g,0,none⟩) (r.KL.length+1) cap)).heap[k]?=w.heap[k]?:=fun j k h0 h2 e=>(hs k fun e'=>h0 (h.ap j 0 k e e')).trans (hg.he k (h.lt e) fun e'=>h2 (h.ap j 3 k e e'));have hy:∀ k,k<w.heap.size->¬X_ X r f k->(w3.setCell ⟨r.eb,2,none⟩ (.slice (some ⟨g,0,none⟩) (r.KL.length+1) cap)).heap[k]?=w.heap[k]?/\¬X_ X { r with kv:=.slice (some ⟨g,0,none⟩) (r.KL.length+1) cap,KL:=r.KL++[(ks,u)] } f k:=fun k hk hn=>⟨(hs k fun e=>hn (.inr ⟨0,e⟩)).trans (hg.he k hk fun e=>hn (.inr ⟨3,e⟩)),fun e=>e.elim (fun e=>hn (.inl e)) fun ⟨a,e⟩=>(hF a k e).elim (fun e=>hn (.inr ⟨a,e⟩)) fun e=>by omega⟩;have pj:∀ k,Y_ r f k->(w3.setCell ⟨r.eb,2,none⟩ (.slice (some ⟨g,0,none⟩) (r.KL.length+1) cap)).heap[k]?=w.heap[k]?:=fun k e=>(hy k (h.Zp e) (h.im k e)).1;have he:w3.heap[r.eb]?=w.heap[r.eb]?:=hg.he _ (h.lt (i:=0) rfl) fun e=>absurd (h.ap 0 3 r.eb rfl e) (by decide);have Rp:g≠r.eb:=fun e=>hg.Sc.elim (fun e2=>absurd (h.ap 0 3 r.eb rfl (e▸e2)) (by decide)) fun e2=>by have:=h.lt (i:=0) (k:=r.eb) rfl;omega
 have hul:∀ k,u.ownBlock=some k->k<w.heap.size:=fun k e=>(l_ hu k e).2;refine⟨{
  c0:=(t_ _ _ _ _ (by simp)).trans ((b_ he).trans h.c0)
  c1:=(t_ _ _ _ _ (by simp)).trans ((b_ he).trans h.c1)
  c2:=u_ _ _ _ ((b_ he).trans h.c2)
  cd:=fun i hi=>(t_ _ _ _ _ (by simp<;>omega)).trans ((b_ he).trans (h.cd i hi))
  soft:=fun j=>by rw[EZ];exact(CZ he).trans (h.soft j)
  rs:=h.rs.kept fun k e=>e.elim (fun e=>hn 1 k (by decide) (by decide) e) fun e=>pj k (.inl e)
  past:=aI h.past fun k e=>hn 2 k (by decide) (by decide) e
  keys:=by
   show F2 _ _ _ _ _ (r.KL++[(ks,u)]).length ((r.KL++[(ks,u)]).map (·.2));rw[YY,X1];exact aI ho fun k e=>hs k (by rw[<-I0.inj e];exact Rp)
  Am:=fun p hp=>by
   rcases Q0.1 hp with hp|hp
   ·exact aI (h.Am p hp) fun k e=>pj k (.inr (.inl ⟨p,hp,e⟩))
   ·rw[GZ.1 hp];exact aI hu fun k e=>(hy k (hul k e) (hun k e)).1
  vw:=fun j v hv=>by
   obtain⟨sn,e,hr⟩:=h.vw j v hv;exact⟨sn,e,hr.kept fun k hk=>(h.yk hv hk).elim (fun e=>hn _ k (by omega) (by omega) e) fun e=>pj k e⟩
  ap:=fun a b k ha hb=>by
   rcases hF a k ha with ha|⟨ha,ka⟩<;>rcases hF b k hb with hb|⟨hb,kb⟩
   ·exact h.ap a b k ha hb
   ·have:=h.lt ha;omega
   ·have:=h.lt hb;omega
   ·rw[ha,hb]
  Ma:=fun a k e=>by
   rcases hF a k e with e|⟨_,e⟩
   ·exact h.Ma a k e
   ·exact⟨BZ h.bl e,fun x=>by have:=h.xl k x;omega⟩
  im:=fun k e=>by
   rcases e with e|⟨p,hp,e⟩|e
   ·exact(hy k (h.Zp (.inl e)) (h.im k (.inl e))).2
   ·rcases Q0.1 hp with hp|hp
    ·exact(hy k (h.Zp (.inr (.inl ⟨p,hp,e⟩))) (h.im k (.inr (.inl ⟨p,hp,e⟩)))).2
    ·rw[GZ.1 hp] at e;exact(hy k (hul k e) (hun k e)).2
   ·exact(hy k (h.Zp (.inr (.inr e))) (h.im k (.inr (.inr e)))).2
  xl:=fun k e=>by have:=h.xl k e;have:=hg.Ia.size;simp;omega
  bl:=by have:=h.bl;have:=hg.Ia.size;simp;omega },hg.Ia.setCell (p:=⟨r.eb,2,none⟩) (h.Ma 0 r.eb rfl).1 _,fun k e=>(hs k fun e'=>(h.Ma 0 k e').2 e).trans (hg.he k (h.xl k e) fun e'=>(h.Ma 3 k e').2 e)⟩
end
end
section
open Go.RowKit Go.Joins
attribute [local go_sem ↓] Go.wp_at_zero Go.wp_at_succ
theorem zM9 {x a1:Value} (La:b'≠b) (h:W.cell? ⟨b',0,none⟩=some a0/\W.cell? ⟨b',1,none⟩=some a1/\W.cell? ⟨b',2,none⟩=some a2):
  (((W.setCell ⟨b,0,none⟩ x).setCell ⟨b,1,none⟩ y).setCell ⟨b,2,none⟩ z).cell? ⟨b',0,none⟩=some a0/\(((W.setCell ⟨b,0,none⟩ x).setCell ⟨b,1,none⟩ y).setCell ⟨b,2,none⟩ z).cell? ⟨b',1,none⟩=some a1/\(((W.setCell ⟨b,0,none⟩ x).setCell ⟨b,1,none⟩ y).setCell ⟨b,2,none⟩ z).cell? ⟨b',2,none⟩=some a2:=by
 have hk:∀ k,k≠b->(((W.setCell ⟨b,0,none⟩ x).setCell ⟨b,1,none⟩ y).setCell ⟨b,2,none⟩ z).heap[k]?=W.heap[k]?:=fun k hn=>(h_ _ _ _ _ hn).trans ((h_ _ _ _ _ hn).trans (h_ _ _ _ _ hn));exact⟨(b_ (a:=⟨b',0,none⟩) (hk b' La)).trans h.1,(b_ (a:=⟨b',1,none⟩) (hk b' La)).trans h.2.1,(b_ (a:=⟨b',2,none⟩) (hk b' La)).trans h.2.2⟩
section
variable {B db:Nat} {S:Nat->Prop} {s:Bb}
structure Cn (w W:World) (B db:Nat) (S S':Nat->Prop) (s:Bb):Prop where
 dk:DK W B db S' s
 n:¬S' w.heap.size
 st:aG w W B S S'
 c0:W.cell? ⟨w.heap.size,0,none⟩=some (.int .i64 0)
 c1:W.cell? ⟨w.heap.size,1,none⟩=some (.int .i64 0)
 c2:W.cell? ⟨w.heap.size,2,none⟩=some (.int .i64 0)
 f:∀ j,W.frozen? ⟨w.heap.size,j,none⟩=false
theorem Cn.lt (h:Cn w W B db S S' s):w.heap.size<W.heap.size:=AZ _ _ h.c0
theorem Cn.on (h:Cn w W B db S S' s) (hb:Below W.heap.size W W') (hB:B<=w.heap.size):Cn w W' B db S S' s:=by
 have hl:=h.lt;exact⟨h.dk.on hb,h.n,h.st.trans (.on (by omega) hb),aA hb h.c0,aA hb h.c1,aA hb h.c2,fun j=>aE hb hl (h.f j)⟩
theorem Cn.step {s':Bb} (h:Cn w W B db S S' s) (hs:Xa W W' B db S' s'):∃ S2,Cn w W' B db S S2 s'/\aG W W' B S' S2:=by
 obtain⟨S2,k1,k2⟩:=hs;have f:=k2.Ma w.heap.size h.lt h.n;exact⟨S2,⟨k1,f.2,h.st.trans k2,(b_ (a:=⟨w.heap.size,0,none⟩) f.1).trans h.c0,(b_ (a:=⟨w.heap.size,1,none⟩) f.1).trans h.c1,(b_ (a:=⟨w.heap.size,2,none⟩) f.1).trans h.c2,fun j=>(CZ (a:=⟨w.heap.size,j,none⟩) f.1).trans (h.f j)⟩,k2⟩
theorem Cn.set (h:Cn w W B db S S' s) (hB:B<=w.heap.size) (x y z:Value):Xa w (((W.setCell ⟨w.heap.size,0,none⟩ x).setCell ⟨w.heap.size,1,none⟩ y).setCell ⟨w.heap.size,2,none⟩ z) B db S s:=by
 have hk:∀ k,k≠w.heap.size->(((W.setCell ⟨w.heap.size,0,none⟩ x).setCell ⟨w.heap.size,1,none⟩ y).setCell ⟨w.heap.size,2,none⟩ z).heap[k]?=W.heap[k]?:=fun k hn=>(h_ _ _ _ _ hn).trans ((h_ _ _ _ _ hn).trans (h_ _ _ _ _ hn));refine⟨S',h.dk.kept (by simp) fun k e=>hk k fun e2=>h.n (e2▸e),((h.st.Ia.setCell (p:=⟨w.heap.size,0,none⟩) hB x).setCell (p:=⟨w.heap.size,1,none⟩) hB y).setCell (p:=⟨w.heap.size,2,none⟩) hB z,fun j hj hn=>?_⟩;obtain⟨f1,f2⟩:=h.st.Ma j hj hn;exact⟨(hk j (by omega)).trans f1,f2⟩
theorem zCI (ia:Nat) (rows:List ma) (ao:Option Addr) (cap:Nat) (w:World) (hk:DK w B db S s) (ha:ia<=1) (hn:54<=s.now.length) (hd:bW w ao rows) (hf:fH rows) (ee:rows.length<=40):
  Calls p_ 80 #[.pointer (some ⟨db,0,none⟩),.int .i64 (ia:Int),.slice ao rows.length cap] w fun e w'=>∃ rv,e=.returned (.tuple #[rv,pa (dC ia rows s).1])/\zIp rv (dC ia rows s).1 ia (aM s.now) (aO rows).size/\Xa w w' B db S (dC ia rows s).2:=by
 have Et:=jA hf ee;have hz:∀ c∈rows,c.key.size<=255/\c.val.size<=255:=fun c hc=>by have:=iS (hf.1 c hc).1;omega
 have hB:=hk.lo;have Nc:=a_ w JX;have XG:=aa (zKa rows ao cap _ (eA Nc hd) (by omega) hz);have hly:Cn w (w.alloc JX) B db S S s:=⟨hk.on Nc,fun e=>by have:=hk.lt e;omega,.on hB Nc,aC _ _ _ 0,aC _ _ _ 1,aC _ _ _ 2,fun j=>aQ _ _ _ j⟩;have Yt:=aa hly;have Ci:=rB s.now;rw[zFV];have LI:∀ (r:Nat×Bb),r=Ea (aL (aJ ia) (bI (aO rows))) s->r.2.now[50]?=s.now[50]?/\r.2.now.length=s.now.length:=fun r e=>by
  rw[e];refine⟨zKV _ 50 s fun o ho a d e=>?_,fS _ _⟩;obtain⟨q1,q2,_⟩:=sX _ _ o ho a d e;rw[sC] at q2;unfold aJ bT at *;omega
 obtain⟨r,hr⟩:∃ r,r=Ea (aL (aJ ia) (bI (aO rows))) s:=⟨_,rfl⟩;have CE:=LI r hr;have PB:∀ k,S k->k<w.heap.size:=fun k e=>hk.lt e;have dt:Hid (∀ W v,Cn w W B db S S s->W.ownsRow (w.heap.size+1) 5 1 v (aO rows).size (Y2 (aO rows))->Calls p_ 148 #[.pointer (some ⟨db,0,none⟩),.int .i64 (ia:Int),v] W fun e w'=>e=.returned (pa r.1)/\∃ S',Cn w w' B db S S' r.2):=fun W v hl ho=>by
  have go:∀ nt Pb,v=.slice nt (aO rows).size Pb->TS nt Pb (aO rows)->(0<(aO rows).size->¬S (iW nt))->(∀ j u,(Y2 (aO rows))[j]?=some u->W.cell? ⟨iW nt,j,none⟩=some u)->Calls p_ 148 #[.pointer (some ⟨db,0,none⟩),.int .i64 (ia:Int),v] W fun e w'=>e=.returned (pa r.1)/\∃ S',Cn w w' B db S S' r.2:=fun nt Pb hv hti UH Yf=>by
   rw[hv,hr];refine(zES ia (aO rows) nt Pb W hl.dk ha (by omega) hti UH Yf).mono ?_;rintro e w' ⟨rfl,zh⟩;obtain⟨S2,q,_⟩:=hl.step zh;exact⟨rfl,S2,q⟩
  rcases ho.2 with⟨e,e2⟩|⟨g,Pb,cur,e,hb,hg,h1,h2,h3⟩
  ·have et:aO rows=⟨#[]⟩:=zIK e2;refine go none 0 (by rw[e,e2]) (.inl ⟨rfl,rfl,et⟩) (fun h=>by omega) (fun j u h=>?_);rw[et] at h;simp[Y2] at h
  ·unfold maxLen at h2;refine go _ Pb e (.inr ⟨g,rfl,h1,h2⟩) (fun _ e3=>by have:=PB _ e3;have e4:iW (some ⟨g,0,none⟩)=g:=rfl;omega) (fun j u h=>?_);have:=F2.cells ho (g:=g) (by rw[e];rfl) j u h;rw[C1,TZ] at this;exact this
 clear LI;rw[<-hr];have HRT:=fun w'=>aa (zHN ia (aM s.now) (aO rows).size ha (by omega) (by omega) w');have qq:Hid (eK ia (aM s.now) rows=iG ia (aM s.now) (aO rows).size):=rfl;rw[qq.out];clear qq;have Xb:(w.alloc JX).heap.size=w.heap.size+1:=by simp
 generalize Mb:(aO rows).size=size at *;generalize iG ia (aM s.now) size=rt at *;have HR:=aa hr;have GA:=aa CE;have LG:=aa hk;clear hk hr CE hd hz hly;go_enter func80,ntmps80;go_wp2_with fail;refine XG.out.mono ?_;rintro e w1 ⟨v1,rfl,mc,Ba⟩;rw[Mb,Xb] at mc;have rq:=aa Mb;clear Mb;have jm:=Yt.out.on Ba hB;obtain⟨a1,c1,rfl⟩:∃ a1 c1,v1=.slice a1 size c1:=by
  rcases mc.2 with⟨e,e2⟩|⟨g,Pb,cur,e,_⟩
  ·exact⟨none,0,by rw[e,e2]⟩
  ·exact⟨_,Pb,e⟩
 have HC:=aa (dt.out _ _ jm mc);clear Ba mc jm Nc Yt XG Xb dt;go_wp2_with fail;refine HC.out.mono ?_;rintro e w2 ⟨rfl,S2,Jh⟩;clear HC;have q0:=Jh.c0;have q1:=Jh.c1;have q2:=Jh.c2;have qf:=Jh.f;have Qw:=aa Jh;clear Jh;by_cases h1:r.1=0
 ·rw[h1,aR];have Mw:=aa h1;clear h1;clear q0 q1 q2 qf;go_wp2_with fail;refine(tC _ Qw.out.dk).mono ?_;rintro e w3 ⟨rfl,ez⟩;obtain⟨S3,Up,_⟩:=Qw.out.step ez;have ct:=aa Up;have q0:=Up.c0;have q1:=Up.c1;have q2:=Up.c2;have qf:=Up.f;clear ez Up Qw;by_cases h2:cD r.2=0
  ·rw[h2,aR];have Wp:(bZ r.2).now=r.2.now:=by unfold bZ;rw[if_pos h2];exact(eH _).1
   have XH:aM (bZ r.2).now=aM s.now:=by rw[Wp];exact zG3 GA.out.1
   have Jk:=zJK h2;have ZK:=aa (zHS w3 ct.out.dk Jk (by rw[Wp,GA.out.2];omega));rw[XH] at ZK;have Vk:=aa h2;clear h2 Wp XH Jk q0 q1 q2 qf;go_wp2_with fail;refine ZK.out.mono ?_;rintro e w4 ⟨rfl,Eb⟩;have Ry:=aa (ct.out.on Eb hB);have Ja:=a_ w4 (IX (ia:Int) (aM s.now:Int) (size:Int));have AV:=aa (Ry.out.on Ja hB);have vp:Hid (¬S3 w4.heap.size/\w4.heap.size≠w.heap.size):=⟨fun e=>by have:=Ry.out.dk.lt e;omega,by have:=Ry.out.lt;omega⟩;obtain⟨g0,g1,g2,-⟩:=Nf w4 (IX (ia:Int) (aM s.now:Int) (size:Int)) rfl rfl;have HG:=aa (F4 g0 (F4 g1 g2));have JW:Hid (w4.heap.size<(w4.alloc (IX (ia:Int) (aM s.now:Int) (size:Int))).heap.size):=aa (by simp);clear Eb Ja g0 g1 g2 ct ZK Ry;go_wp2_with fail;refine((HRT _).out).mono ?_;rintro e w5 ⟨rfl,qe⟩;have IL:=aa (AV.out.on qe hB);have Kw:Hid (w5.cell? ⟨w4.heap.size,0,none⟩=some (.int .i64 (ia:Int))/\w5.cell? ⟨w4.heap.size,1,none⟩=some (.int .i64 (aM s.now:Int))/\w5.cell? ⟨w4.heap.size,2,none⟩=some (.int .i64 (size:Int))/\w4.heap.size<w5.heap.size):=⟨aA qe HG.out.1,aA qe HG.out.2.1,aA qe HG.out.2.2,UY JW.out qe.size⟩;clear qe HG JW AV;go_wp2_with fail;refine(sH 0 rt _ IL.out.dk).mono ?_;rintro e w6 ⟨rfl,ha6⟩;obtain⟨S6,Gr,Gk⟩:=IL.out.step ha6;have f6:=Gk.Ma w4.heap.size Kw.out.2.2.2 vp.out.1;have g0:w6.cell? ⟨w4.heap.size,0,none⟩=some (.int .i64 (ia:Int)):=(b_ (a:=⟨w4.heap.size,0,none⟩) f6.1).trans Kw.out.1;have g1:w6.cell? ⟨w4.heap.size,1,none⟩=some (.int .i64 (aM s.now:Int)):=(b_ (a:=⟨w4.heap.size,1,none⟩) f6.1).trans Kw.out.2.1;have g2:w6.cell? ⟨w4.heap.size,2,none⟩=some (.int .i64 (size:Int)):=(b_ (a:=⟨w4.heap.size,2,none⟩) f6.1).trans Kw.out.2.2.1;have SG:=aa f6.2;have BV:=aa Gr;have q0:=Gr.c0;have q1:=Gr.c1;have q2:=Gr.c2;have qf:=Gr.f;have ox:Hid (w4.heap.size<w6.heap.size):=AZ _ _ g0;clear ha6 Gr Gk f6 IL Kw;generalize OE:cV (bZ r.2) 0 rt=s6 at *;have KU:=aa OE;clear OE;by_cases h3:dO (bZ r.2) 0 rt=0
   ·rw[h3,aR];have wv:=aa h3;clear h3;have YK:Hid (∀ W,Cn w W B db S S6 s6->Calls p_ 149 #[.pointer (some ⟨db,0,none⟩)] W fun e w'=>e=.returned (pa (cD s6))/\Xa W w' B db S6 (bZ s6)):=fun W h=>tC W h.dk;have Xj:=aa (BV.out.on (r_ _ w6).drew hB);have La:=vp.out.2;go_wp2_with fail
    go_region_held3 (fun w'=>w'.cell? ⟨w4.heap.size,0,none⟩=some (.int .i64 (ia:Int))/\w'.cell? ⟨w4.heap.size,1,none⟩=some (.int .i64 (aM s.now:Int))/\w'.cell? ⟨w4.heap.size,2,none⟩=some (.int .i64 (size:Int))) (first|go_keep|exact⟨g0,g1,g2⟩|exact Oy.out|exact zM9 vp.out.2 Oy.out) (first|(go_at_call 149;refine(YK.out _ Xj.out).mono ?_;rintro e w7 ⟨rfl,Cd⟩;obtain⟨S7,pz,Ag⟩:=Xj.out.step Cd;have f7:=Ag.Ma w4.heap.size (by exact ox.out) SG.out;have Oy:Hid (w7.cell? ⟨w4.heap.size,0,none⟩=some (.int .i64 (ia:Int))/\w7.cell? ⟨w4.heap.size,1,none⟩=some (.int .i64 (aM s.now:Int))/\w7.cell? ⟨w4.heap.size,2,none⟩=some (.int .i64 (size:Int))):=⟨(b_ (a:=⟨w4.heap.size,0,none⟩) f7.1).trans g0,(b_ (a:=⟨w4.heap.size,1,none⟩) f7.1).trans g1,(b_ (a:=⟨w4.heap.size,2,none⟩) f7.1).trans g2⟩;have p0:=pz.c0;have p1:=pz.c1;have p2:=pz.c2;have pf:=pz.f;have HL8:=aa pz;clear Cd Ag f7 pz))
    have tg:=HL8.out.set hB (.int .i64 (ia:Int)) (.int .i64 (aM s.now:Int)) (.int .i64 (size:Int));obtain⟨k0,k1,k2⟩:=Ug (x:=.int .i64 (ia:Int)) (y:=.int .i64 (aM s.now:Int)) (z:=.int .i64 (size:Int)) p0 p1 p2;have yn:=aa tg;clear tg g0 g1 g2 p0 p1 p2 q0 q1 q2;go_wp2;refine bodyPost_ret (v:=.tuple #[.agg #[.int .i64 (ia:Int),.int .i64 (aM s.now:Int),.int .i64 (size:Int)],pa (cD s6)]) (by simp[results,results80,go_sem,k0,k1,k2]) rfl ?_;rw[KU.out];exact⟨_,rfl,⟨_,_,_,rfl,fun _=>⟨rfl,rfl,rfl⟩⟩,yn.out⟩
   ·rw[aP h3];have wv:=aa h3;have Wd:Hid (pa (dO (bZ r.2) 0 rt)=.iface 77 (.int .i64 (dO (bZ r.2) 0 rt))):=aP h3;have tg:=BV.out.set hB (.int .i64 0) (.int .i64 0) (.int .i64 0);obtain⟨k0,k1,k2⟩:=Ug (x:=.int .i64 0) (y:=.int .i64 0) (z:=.int .i64 0) q0 q1 q2;have yn:=aa tg;clear h3 tg g0 g1 g2;go_wp2;refine bodyPost_ret (v:=.tuple #[.agg #[.int .i64 0,.int .i64 0,.int .i64 0],.iface 77 (.int .i64 (dO (bZ r.2) 0 rt))]) (by simp[results,results80,go_sem,k0,k1,k2]) rfl ?_;exact⟨_,by rw[Wd.out],⟨0,0,0,rfl,fun e=>absurd e wv.out⟩,by rw[KU.out];exact yn.out⟩
  ·rw[aP h2];have Vk:=aa h2;have Wd:Hid (pa (cD r.2)=.iface 77 (.int .i64 (cD r.2))):=aP h2;have tg:=ct.out.set hB (.int .i64 0) (.int .i64 0) (.int .i64 0);obtain⟨k0,k1,k2⟩:=Ug (x:=.int .i64 0) (y:=.int .i64 0) (z:=.int .i64 0) q0 q1 q2;have yn:=aa tg;clear h2 tg;go_wp2;refine bodyPost_ret (v:=.tuple #[.agg #[.int .i64 0,.int .i64 0,.int .i64 0],.iface 77 (.int .i64 (cD r.2))]) (by simp[results,results80,go_sem,k0,k1,k2]) rfl ?_;exact⟨_,by rw[Wd.out],⟨0,0,0,rfl,fun e=>absurd e Vk.out⟩,yn.out⟩
 ·rw[aP h1];have Mw:=aa h1;have Wd:Hid (pa r.1=.iface 77 (.int .i64 r.1)):=aP h1;have tg:=Qw.out.set hB (.int .i64 0) (.int .i64 0) (.int .i64 0);obtain⟨k0,k1,k2⟩:=Ug (x:=.int .i64 0) (y:=.int .i64 0) (z:=.int .i64 0) q0 q1 q2;have yn:=aa tg;clear h1 tg;go_wp2;refine bodyPost_ret (v:=.tuple #[.agg #[.int .i64 0,.int .i64 0,.int .i64 0],.iface 77 (.int .i64 r.1)]) (by simp[results,results80,go_sem,k0,k1,k2]) rfl ?_;exact⟨_,by rw[Wd.out],⟨0,0,0,rfl,fun e=>absurd e Mw.out⟩,yn.out⟩
end
section
variable {B db:Nat} {S:Nat->Prop} {s:Bb}
theorem iK (w:World) (hk:DK w B db S s) (hn:50<=s.now.length):Calls p_ 160 #[.pointer (some ⟨db,0,none⟩)] w fun e w'=>e=.returned (.int .i64 ((s.now.length-50:Nat):Int))/\w'=w:=by
 have HS:=aa (mU w hk);have hm:=hk.many;clear hk;generalize s.now.length=n at *;have h0:(50:Int)<=(n:Int):=by omega
 have h1:(n:Int)<=200:=by omega
 go_enter func160,ntmps160;go_wp2_with (go_at_call 79;refine HS.out.mono ?_;rintro e w1 ⟨rfl,rfl⟩)
 go_ret;exact⟨iJ (by omega),rfl⟩
theorem mC.le {lb:Nat} (h:mC w0 w' lb db fr many first dv ds u) (hb:Below w.heap.size w w0):mC w w' lb db fr many first dv ds u:=by
 obtain⟨l,h1,h2,h3⟩:=h.de;exact⟨⟨l,⟨ownsRow_le h1.1 hb.size,fun d hd=>dJ (h1.2.1 d hd) hb.size,h1.2.2⟩,h2,h3⟩,h.dn,h.hd,BZ hb.size h.new,aB hb (n_ _) h.Ia⟩
theorem tM (ia first size:Nat) (w:World) (hk:DK w B db S s) (hd:s.down=false) (h1:51<=s.now.length) (h2:1<=first) (hf:first<=2):
  Calls p_ 97 #[.pointer (some ⟨db,0,none⟩),.agg #[.int .i64 (ia:Int),.int .i64 (first:Int),.int .i64 (size:Int)]] w fun e w'=>∃ lb dv,e=.returned (.tuple #[.pointer (some ⟨lb,0,none⟩),dv,.nilIface])/\mC w w' lb db 50 (s.now.length-50) first dv (mX (eB s 50 (s.now.length-50)) first) (mH (eB s 50 (s.now.length-50)) first):=by
 obtain⟨-,r1,-,Nc,-⟩:=Nf w (GY (ia:Int) (first:Int) (size:Int)) rfl rfl;have Wk:Hid (∀ W,Below w.heap.size w W->Calls p_ 160 #[.pointer (some ⟨db,0,none⟩)] W fun e w'=>e=.returned (.int .i64 ((s.now.length-50:Nat):Int))/\w'=W):=fun W hb=>iK W (hk.on hb) (by omega);have VG:Hid (∀ W,Below w.heap.size w W->Calls p_ 169 #[.pointer (some ⟨db,0,none⟩),.int .i64 50,.int .i64 ((s.now.length-50:Nat):Int),.int .i64 (first:Int)] W fun e w'=>∃ lb dv,e=.returned (.tuple #[.pointer (some ⟨lb,0,none⟩),dv,.nilIface])/\mC w w' lb db 50 (s.now.length-50) first dv (mX (eB s 50 (s.now.length-50)) first) (mH (eB s 50 (s.now.length-50)) first)):=fun W hb=>by
  refine(zHf 50 (s.now.length-50) first W (hk.on hb) hd (by omega) h2 (by omega) (by omega)).mono ?_;rintro e w' ⟨lb,dv,he,ho⟩;exact⟨lb,dv,he,ho.le hb⟩
 clear hk hd;generalize mX (eB s 50 (s.now.length-50)) first=ds at *;generalize mH (eB s 50 (s.now.length-50)) first=u at *;generalize s.now.length-50=m at *;have ie:=aa Nc;clear Nc;go_enter func97,ntmps97;go_wp2_with fail
 go_region_with (first
  | (go_at_call 160;refine(Wk.out _ (by exact aB ie.out (n_ _) (below_draws _ _ _))).mono ?_;rintro e w7 ⟨rfl,rfl⟩)
  | (go_at_call 169;refine(VG.out _ (by exact aB ie.out (n_ _) (below_draws _ _ _))).mono ?_;rintro e w8 ⟨lb,dv,rfl,fg⟩;have Ng:=aa fg;clear fg;dsimp only))
 all_goals
  go_wp2;go_ret3;exact⟨lb,dv,rfl,Ng.out⟩
end
section
variable {B db:Nat} {S:Nat->Prop} {s:Bb}
structure sx (w w':World) (B sb db:Nat) (S:Nat->Prop) (x:bg):Prop where
 ex:∃ lb v,SK w' B sb lb db S v x/\w.heap.size<=lb/\∀ k,v.ownBlock=some k->w.heap.size<=k
 new:w.heap.size<=sb
 Ia:Below w.heap.size w w'
theorem zGH {rows:List ma} (hk:k<ds.length):(ds.take (k+1)).foldl aK rows=aK ((ds.take k).foldl aK rows) ds[k]:=by
 rw[ZY hk,C8];rfl
theorem zFO {rows:List ma} (w:World) (hk:DK w B db S s) (hr:cQ s ia first u rows):
  Calls p_ 47 #[.pointer (some ⟨db,0,none⟩)] w fun e w'=>∃ sb,e=.returned (.tuple #[.pointer (some ⟨sb,0,none⟩),.nilIface])/\sx w w' B sb db S ⟨s,ia,first,u,rows⟩:=by
 obtain⟨Ya,ds,Vn,bh⟩:=hr.ex;have Et:=jA Vn.we Vn.Mi;have Hh:=Vn.a1;have Qc:=Vn.f1;have Rm:=Vn.Ks;have hB:=hk.lo;have Ht:=cQ.us hr;have Fi:dB first 0 (eB s 50 (s.now.length-50)) ([],[]) 0=(ds,u):=Vn.has;have Ie:mX (eB s 50 (s.now.length-50)) first=ds/\mH (eB s 50 (s.now.length-50)) first=u:=by unfold mX mH;rw[Fi];exact⟨rfl,rfl⟩
 have Xf:=aa (zBX ia first (aO Ya).size w hk hr.down Hh Qc.1 Qc.2 Et Rm Vn.root);have JA:Hid (∀ W,Below w.heap.size w W->Calls p_ 99 #[.pointer (some ⟨db,0,none⟩),.agg #[.int .i64 (ia:Int),.int .i64 (first:Int),.int .i64 ((aO Ya).size:Int)]] W fun e w'=>∃ v,e=.returned (.tuple #[v,.nilIface])/\bO w' W.heap.size v Ya/\Below W.heap.size W w'):=fun W hb=>zCo ia first Ya W (hk.on hb) hr.down Hh (by omega) Vn.we Vn.Mi Vn.text;have UG:Hid (∀ W,Below w.heap.size w W->Calls p_ 97 #[.pointer (some ⟨db,0,none⟩),.agg #[.int .i64 (ia:Int),.int .i64 (first:Int),.int .i64 ((aO Ya).size:Int)]] W fun e w'=>∃ lb dv,e=.returned (.tuple #[.pointer (some ⟨lb,0,none⟩),dv,.nilIface])/\mC W w' lb db 50 (s.now.length-50) first dv ds u):=fun W hb=>by
  have:=tM ia first (aO Ya).size W (hk.on hb) hr.down (by omega) Qc.1 Qc.2;rw[Ie.1,Ie.2] at this;exact this
 have LG:=aa hk;have MG:=aa hr;have HOD:=aa Vn;have xn:=aa bh;clear hk hr Vn bh Fi Ie;generalize Mb:(aO Ya).size=size at *;clear Mb;go_enter func47,ntmps47;go_wp2_with fail;refine Xf.out.mono ?_;rintro e w1 ⟨rfl,Ba⟩;have Ja:=aB Ba (n_ _) (a_ w1 (IX (ia:Int) (first:Int) (size:Int)));obtain⟨g0,g1,g2,-⟩:=Nf w1 (IX (ia:Int) (first:Int) (size:Int)) rfl rfl;have HG:=aa (F4 g0 (F4 g1 g2));have Pq:=aa Ja;clear g0 g1 g2 Ba Ja Xf;go_wp2_with fail;refine(JA.out _ Pq.out).mono ?_;rintro e w2 ⟨v2,rfl,qc,za⟩;have Cb:=aa (aB Pq.out (n_ _) za);have Kc:=aa (dJ qc Pq.out.size);have g0:=aA za HG.out.1;have g1:=aA za HG.out.2.1;have g2:=aA za HG.out.2.2;clear qc za HG JA Pq;go_wp2_with fail;refine(UG.out _ Cb.out).mono ?_;rintro e w3 ⟨lb,dv,rfl,Ae⟩;obtain⟨dl,Bq,hdm,Bo⟩:=Ae.de;have g0':=aA Ae.Ia g0;have Zc:=aa (aB Cb.out (n_ _) Ae.Ia);have Cf:=aa (bQ Kc.out Ae.Ia);have JL:=aa Ae.hd;have kj:Hid (w.heap.size<=lb):=BZ Cb.out.size Ae.new;have LD:∀ k,v2.ownBlock=some k->k≠lb:=fun k e e2=>by have h1:=(l_ Kc.out k e).2;have h2:=Ae.new;omega
 have QG:=aa LD;obtain⟨da,dc,AO⟩:∃ da dc,dv=.slice da dl.length dc:=by
  rcases Bq.1.2 with⟨e,e2⟩|⟨g,cap,cur,e,_⟩
  ·exact⟨none,0,by rw[e,e2]⟩
  ·exact⟨_,cap,e⟩
 have Bc:∀ k (h:k<dl.length),∃ g,da=some ⟨g,0,none⟩/\w3.cell? ⟨g,k,none⟩=some (Ip dl[k]):=fun k h=>by
  rcases Bq.1.2 with⟨e,e2⟩|⟨g,cap,cur,e,_⟩
  ·omega
  ·rw[AO] at e;have e3:da=some ⟨g,0,none⟩:=by cases e;rfl
   have:=F2.cells Bq.1 (g:=g) (by rw[AO,e3];rfl) k (Ip dl[k]) (by rw[N8,VY h];rfl);rw[C1,TZ] at this;exact⟨g,e3,this⟩
 subst AO;have BU:=aa Bc;have QU:Hid (∀ d∈dl,bW w3 d.ao d.ba):=fun d hd=>zGr (Bq.2.1 d hd);have JU:=aa hdm;have zg:dl.length<=9223372036854775807:=by
  rcases Bq.1.2 with⟨_,e2⟩|⟨g,cap,cur,_,_,_,h1,h2,_⟩
  ·omega
  ·unfold maxLen at h2;omega
 clear Ae Bq hdm Bo Bc g0 g1 g2 UG Kc Cb LD;have HDI:Hid (∀ k (h:k<dl.length),∃ h2:k<ds.length,ds[k]=dl[k].ba):=fun k h=>by
  have e:=JU.out;subst e;exact⟨by rw[RZ];exact h,by rw[List.getElem_map]⟩
 have KG:Hid (ds.length=dl.length):=aa (by rw[<-JU.out,RZ]);go_wp2_with fail
 go_loopw [6,40] (fun v iv wr=>∃ k:Nat,k<=dl.length/\iv=.int .i64 (k:Int)/\bO wr w.heap.size v ((ds.take k).foldl aK Ya)/\(∀ q,v.ownBlock=some q->q≠lb)/\Below w3.heap.size w3 wr) (fun _ iv _=>dl.length-(intOf iv).toNat)
 case atStart=>exact⟨0,OZ _,rfl,Cf.out,QG.out,r_ _ _⟩
 case round=>
  obtain⟨k,hk,rfl,ho,PI,hb⟩:=hrel;clear Cf QG;have ee:=xn.out.Mi k;by_cases Aa:k<dl.length
  ·have Za:(k:Int)<(dl.length:Int):=by omega
   have Ih:(0:Int)<=(k:Int):=by omega
   obtain⟨g,hg,hce⟩:=BU.out k Aa;subst hg;obtain⟨lf,hdk⟩:=HDI.out k Aa;have JO:=zGH (rows:=Ya) lf;have Hr:=xn.out.dl _ (MZ lf);have hhe:=eA hb (QU.out _ (MZ Aa));rw[hdk] at JO Hr;replace hce:=aA hb hce;unfold Ip at hce;generalize dl[k]=dd at *;generalize (ds.take k).foldl aK Ya=m at *;have bp:=aa (lG m dd.ba u6 dd.ao dd.cap w.heap.size wr ho hhe (by omega) (by omega));have Zs:=aa JO;have Md:=aa hb;have HZ:Hid (w.heap.size<=wr.heap.size/\lb<wr.heap.size):=⟨BZ Zc.out.size hb.size,UY JL.out.lt hb.size⟩;clear ho hb JO hhe PI hdk Hr ee lf;go_wp2_with (go_at_call 100;refine bp.out.mono ?_;rintro e w7 ⟨v7,rfl,Xp,Af⟩;have vn:=aa Xp;have Gi:=aa Af;clear Xp Af)
   exact⟨⟨k+1,by omega,by go_num,by rw[Zs.out];exact dJ vn.out HZ.out.1,fun q e e2=>by have h1:=(l_ vn.out q e).1;have h2:=HZ.out.2;omega,aB Md.out (n_ _) Gi.out⟩,by simp[intOf];omega⟩
  ·have ek:k=dl.length:=by omega
   subst ek;have Za:¬(dl.length:Int)<(dl.length:Int):=by omega
   rw[<-KG.out,O1] at ho ee;rw[xn.out.eq] at ho ee;have c0:=aA hb g0';obtain⟨va,vc,rfl⟩:∃ va vc,u6=.slice va rows.length vc:=by
    rcases aX ho with⟨e,e2⟩|⟨g,cap,e,_⟩
    ·exact⟨none,0,by rw[e,e2]⟩
    ·exact⟨_,cap,e⟩
   have HO:=aa ho;have HVL:=aa PI;have Md:=aa hb;have Xy:¬(40:Int)<(rows.length:Int):=by omega
   clear ho PI hb g0' BU QU;have AH:=aa (a_ wr (o_ #[.pointer (some ⟨db,0,none⟩),.pointer (some ⟨lb,0,none⟩),.int .i64 (ia:Int),.slice va rows.length vc] 183));go_wp2_with fail;go_ret2;have mh:=JL.out.lt;have Aq:=aB Zc.out (n_ _) Md.out;have PB:∀ k,w.heap.size<=k->¬S k:=fun k h e=>by have:=LG.out.lt e;omega
   refine⟨wr.heap.size,rfl,⟨⟨lb,.slice va rows.length vc,⟨⟨aC _ _ _ 0,aC _ _ _ 1,aC _ _ _ 2,aC _ _ _ 3,fun j=>aQ _ _ _ j⟩,⟨LG.out.on (aB Aq (n_ _) AH.out),JL.out.kept ((AH.out.block lb (UY mh Md.out.size)).trans (Md.out.block lb mh)),PB _ kj.out,BZ hB kj.out,Ht,by show 50+(s.now.length-50)<=s.now.length;omega,Qc.1,by show first<=1500000;omega⟩,dJ (bQ HO.out AH.out) hB,PB _ Aq.size,?_,?_,BZ hB Aq.size⟩,kj.out,fun k e=>(l_ HO.out k e).1⟩,Aq.size,aB Aq (n_ _) AH.out⟩⟩
   ·have:=Md.out.size;omega
   ·intro k e;have h1:=l_ HO.out k e;exact⟨by omega,HVL.out k e,PB _ h1.1⟩
theorem zFF (w:World) (hk:DK w B db S s) (hn:54<=s.now.length):Calls p_ 32 #[.pointer (some ⟨db,0,none⟩)] w fun e w'=>e=.returned (pa (dC 0 [] s).1)/\Xa w w' B db S (dC 0 [] s).2:=by
 have HS:=aa (mU w hk);have Yt:=aa (zCI 0 [] none 0 w hk (by decide) hn (.inl rfl) xS (by decide));clear hk;generalize (dC 0 [] s).1=f at *;generalize (dC 0 [] s).2=s2 at *;generalize s.now.length=n at *;have h1:¬(n:Int)<54:=by omega
 go_enter func32,ntmps32;go_wp2_with (first
  | (go_at_call 79;refine HS.out.mono ?_;rintro e w1 ⟨rfl,rfl⟩)
  | (go_at_call 80;refine Yt.out.mono ?_;rintro e w2 ⟨rv,rfl,⟨x,y,z,rfl,_⟩,al⟩;have Gl:=aa al;clear al)
  | fail)
 go_ret;exact⟨rfl,Gl.out.post (a_ _ _)⟩
end
section
variable {w w':World} {B sb lb db:Nat} {S S' T:Nat->Prop} {v:Value} {x:bg}
theorem SK.step (h:SK w B sb lb db S v x) {s':Bb} (hk:DK w' B db S' s') (hs:aG w w' B S S') (hl:s'.now.length=x.d.now.length):SK w' B sb lb db S' v { x with d:=s' }:=by
  have f1:=hs.Ma sb h.hd.lt h.ns;refine⟨h.hd.kept f1.1,?_,aI h.own fun k e=>(hs.Ma k (l_ h.own k e).2 (h.nv k e).2.2).1,f1.2,h.nl,fun k e=>⟨(h.nv k e).1,(h.nv k e).2.1,(hs.Ma k (l_ h.own k e).2 (h.nv k e).2.2).2⟩,h.lo⟩;have:=h.lk.step hk hs hl;show LK w' B lb db S' 50 (s'.now.length-50) x.first x.used s';rw[hl];exact this
theorem zMG {S1:Nat->Prop} (hs:aG w w' B S1 S2):aG w w' B (Lq sb lb v S1) (Lq sb lb v S2):=
  ⟨hs.Ia,fun j hj hn=>⟨(hs.Ma j hj fun e=>hn (.inr (.inr (.inr e)))).1,fun e=>e.elim (fun e=>hn (.inl e)) fun e=>e.elim (fun e=>hn (.inr (.inl e))) fun e=>e.elim (fun e=>hn (.inr (.inr (.inl e)))) (hs.Ma j hj fun e=>hn (.inr (.inr (.inr e)))).2⟩⟩
theorem SK.fq {W2:World} (h:SK w B sb lb db S v x) {s':Bb} {qw wo Ni:Nat} (hk:DK W1 B db S2 s') (hs:aG w W1 B S S2) (hl:s'.now.length=x.d.now.length) (ho:mC W1 W2 qw db 50 (s'.now.length-50) Ni dv ds 0) (hn:50<=s'.now.length) (hf:1<=Ni/\Ni<=2):
    Dh w ((W2.setCell ⟨sb,1,none⟩ (.pointer (some ⟨qw,0,none⟩))).setCell ⟨sb,2,none⟩ (.int .i64 (wo:Int))) B sb db (Lq sb lb v S) ⟨s',wo,Ni,0,x.rows⟩:=by
  have h1:=h.step hk hs hl;have h2:=h1.hd.kept (ho.Ia.block sb h1.hd.lt);have Qo:sb<W2.heap.size:=h2.lt;have xd:=ho.new;have Na:=h1.hd.lt;have lf:∀ k,k≠sb->((W2.setCell ⟨sb,1,none⟩ (.pointer (some ⟨qw,0,none⟩))).setCell ⟨sb,2,none⟩ (.int .i64 (wo:Int))).heap[k]?=W2.heap[k]?:=fun k hn=>(h_ _ _ _ _ hn).trans (h_ _ _ _ _ hn);have YD:=bQ h1.own ho.Ia;have La:qw≠sb:=by omega
  have ew:∀ k,v.ownBlock=some k->k≠qw:=fun k e=>by have:=(l_ h1.own k e).2;omega
  have UD:¬S2 qw:=fun e=>by have:=hk.lt e;omega
  refine⟨_,⟨qw,S2,v,⟨⟨?_,?_,?_,?_,fun j=>by rw[EZ,EZ];exact h2.soft j⟩,⟨(hk.on ho.Ia).kept (by simp) fun k e=>lf k fun e2=>h1.ns (e2▸e),ho.hd.kept (lf qw La),UD,BZ hk.lo xd,OZ _,by show 50+(s'.now.length-50)<=s'.now.length;omega,hf.1,by show Ni<=1500000;omega⟩,aI YD fun k e=>lf k (h.nv k e).1,h1.ns,La.symm,fun k e=>⟨(h.nv k e).1,ew k e,(h1.nv k e).2.2⟩,h.lo⟩,rfl⟩,?_,fun j hj Di=>?_⟩
  · exact(t_ _ _ _ _ (by simp)).trans ((t_ _ _ _ _ (by simp)).trans h2.c0)
  · exact(t_ _ _ _ _ (by simp)).trans (u_ _ _ _ h2.c1)
  · exact u_ _ _ _ ((t_ _ _ _ _ (by simp)).trans h2.c2)
  · exact(t_ _ _ _ _ (by simp)).trans ((t_ _ _ _ _ (by simp)).trans h2.c3)
  · exact((hs.Ia.trans (ho.Ia.mono hk.lo)).setCell (p:=⟨sb,1,none⟩) h.lo _).setCell (p:=⟨sb,2,none⟩) h.lo _
  · have n1:¬S j:=fun e=>Di (.inr (.inr (.inr e)));have n2:j≠sb:=fun e=>Di (.inl e);have n3:¬v.ownBlock=some j:=fun e=>Di (.inr (.inr (.inl e)));have f1:=hs.Ma j hj n1;have hj1:=UY hj hs.Ia.size;refine⟨(lf j n2).trans ((ho.Ia.block j hj1).trans f1.1),fun e=>?_⟩;rcases e with e|e|e|e
    · exact n2 e
    · omega
    · exact n3 e
    · exact f1.2 e
structure Xu (w W:World) (B db rb:Nat) (S:Nat->Prop) (s:Bb) (x y z:Int):Prop where
  ex:∃ S2,DK W B db S2 s/\aG w W B S S2
  ge:w.heap.size<=rb
  k0:W.cell? ⟨rb,0,none⟩=some (.int .i64 x)
  k1:W.cell? ⟨rb,1,none⟩=some (.int .i64 y)
  k2:W.cell? ⟨rb,2,none⟩=some (.int .i64 z)
theorem Xu.ofA {s:Bb} {a b:Int} (hk:DK w7 B db S' s) (hs:aG w.drew w7 B S S') (hB:B<=w.heap.size):Xu w (w7.alloc (IX a b c)) B db w7.heap.size S s a b c:=by
  have hd:aG w w.drew B S S:=.on hB (r_ _ w).drew;exact⟨⟨S',hk.on (a_ _ _),(hd.trans hs).trans (.on hk.lo (a_ _ _))⟩,hs.Ia.size,aC _ _ _ 0,aC _ _ _ 1,aC _ _ _ 2⟩
theorem Xu.ofB {s:Bb} {a b:Int} (hk:DK w7 B db S' s) (hs:aG (w.alloc JX).drew w7 B S S') (hB:B<=w.heap.size) (hn:¬S w.heap.size) (t0:w7.cell? ⟨w.heap.size,0,none⟩=some (.int .i64 0)) (t1:w7.cell? ⟨w.heap.size,1,none⟩=some (.int .i64 0)) (t2:w7.cell? ⟨w.heap.size,2,none⟩=some (.int .i64 0)):
    Xu w (((w7.setCell ⟨w.heap.size,0,none⟩ (.int .i64 a)).setCell ⟨w.heap.size,1,none⟩ (.int .i64 b)).setCell ⟨w.heap.size,2,none⟩ (.int .i64 c)) B db w.heap.size S s a b c:=by
  have hd:aG w (w.alloc JX).drew B S S:=.on hB (a_ w _).drew;have hz:w.heap.size<(w.alloc JX).drew.heap.size:=by simp
  have fn:=hs.Ma w.heap.size hz hn;have Bk:∀ k,k≠w.heap.size->(((w7.setCell ⟨w.heap.size,0,none⟩ (.int .i64 a)).setCell ⟨w.heap.size,1,none⟩ (.int .i64 b)).setCell ⟨w.heap.size,2,none⟩ (.int .i64 c)).heap[k]?=w7.heap[k]?:=fun k hn=>(h_ _ _ _ _ hn).trans ((h_ _ _ _ _ hn).trans (h_ _ _ _ _ hn));obtain⟨k0,k1,k2⟩:=Ug (x:=.int .i64 a) (y:=.int .i64 b) (z:=.int .i64 c) t0 t1 t2;have Zb:=hd.trans hs;refine⟨⟨S',hk.kept (by simp) fun k e=>Bk k fun e2=>fn.2 (e2▸e),⟨((Zb.Ia.setCell (p:=⟨w.heap.size,0,none⟩) hB _).setCell (p:=⟨w.heap.size,1,none⟩) hB _).setCell (p:=⟨w.heap.size,2,none⟩) hB _,fun j hj Di=>?_⟩⟩,n_ _,k0,k1,k2⟩;obtain⟨f1,f2⟩:=Zb.Ma j hj Di;exact⟨(Bk j (by omega)).trans f1,f2⟩
theorem zHP {x a1:Value} (La:b'≠b) (h:W.cell? ⟨b',0,none⟩=some a0/\W.cell? ⟨b',2,none⟩=some a1/\W.cell? ⟨b',3,none⟩=some a2):
    (((W.setCell ⟨b,0,none⟩ x).setCell ⟨b,1,none⟩ y).setCell ⟨b,2,none⟩ z).cell? ⟨b',0,none⟩=some a0/\(((W.setCell ⟨b,0,none⟩ x).setCell ⟨b,1,none⟩ y).setCell ⟨b,2,none⟩ z).cell? ⟨b',2,none⟩=some a1/\(((W.setCell ⟨b,0,none⟩ x).setCell ⟨b,1,none⟩ y).setCell ⟨b,2,none⟩ z).cell? ⟨b',3,none⟩=some a2:=by
  have hk:∀ k,k≠b->(((W.setCell ⟨b,0,none⟩ x).setCell ⟨b,1,none⟩ y).setCell ⟨b,2,none⟩ z).heap[k]?=W.heap[k]?:=fun k hn=>(h_ _ _ _ _ hn).trans ((h_ _ _ _ _ hn).trans (h_ _ _ _ _ hn));exact⟨(b_ (a:=⟨b',0,none⟩) (hk b' La)).trans h.1,(b_ (a:=⟨b',2,none⟩) (hk b' La)).trans h.2.1,(b_ (a:=⟨b',3,none⟩) (hk b' La)).trans h.2.2⟩
theorem zDC (w:World) (h:SA w B sb db T x) (hg:fA x):Calls p_ 46 #[.pointer (some ⟨sb,0,none⟩)] w fun e w'=>e=.returned (pa (zc x).1)/\Dh w w' B sb db T (zc x).2:=by
  obtain⟨lb,S,v,Gt,rfl⟩:=h;have Hh:=cQ.a1 hg;have Rm:=cQ.Ks hg;have ee:=cQ.Mi hg;have hB:=Gt.lk.dk.lo;have c0:=Gt.hd.c0;have c2:=Gt.hd.c2;have c3:=Gt.hd.c3;have Qo:=Gt.hd.lt;obtain⟨va,vc,hv,hh⟩:∃ va vc,v=.slice va x.rows.length vc/\bW w va x.rows:=by
    rcases aX Gt.own with⟨e,e2⟩|⟨g,cap,e,_⟩
    · exact⟨none,0,by rw[e,e2],.inl (E0.1 e2)⟩
    · refine⟨some ⟨g,0,none⟩,cap,e,.inr ⟨g,0,rfl,eW x.rows 0 fun j u hj=>?_⟩⟩;have:=F2.cells Gt.own (g:=g) (by rw[e];rfl) j u hj;rwa [C1] at this
  have Yt:Hid (∀ W,Below w.heap.size w W->Calls p_ 80 #[.pointer (some ⟨db,0,none⟩),.int .i64 ((1-x.ia:Nat):Int),.slice va x.rows.length vc] W fun e w'=>∃ rv,e=.returned (.tuple #[rv,pa (dC (1-x.ia) x.rows x.d).1])/\zIp rv (dC (1-x.ia) x.rows x.d).1 (1-x.ia) (aM x.d.now) (aO x.rows).size/\Xa W w' B db S (dC (1-x.ia) x.rows x.d).2):=fun W hb=>zCI (1-x.ia) x.rows va vc W (Gt.lk.dk.on hb) (by omega) Rm (eA hb hh) (cQ.we hg) ee;have hlen:=uQ (1-x.ia) x.rows x.d;have ea:(1:Int)-(x.ia:Int)=((1-x.ia:Nat):Int):=by omega
  have a0:(0:Int)<=(x.ia:Int):=by omega
  have a1:(x.ia:Int)<=1:=by omega
  have Jq:IntKind.i64.wrap (1-(x.ia:Int))=((1-x.ia:Nat):Int):=by rw[ea];simp[IntKind.wrap,IntKind.bits];omega
  subst hv;have gx:=aa Gt;have BL:=aa hg;clear Gt hg hh ea;unfold zc;by_cases hf:(dC (1-x.ia) x.rows x.d).1=0
  · rw[if_pos hf];have AD:=hf;rw[hf,aR] at Yt;have Ox:=BL.out.gr;unfold zc at Ox;rw[if_pos hf] at Ox;obtain⟨_,_,hck⟩:=Ox;have XC:fA ⟨(dC (1-x.ia) x.rows x.d).2,1-x.ia,aM x.d.now,0,x.rows⟩:=by
      rcases hck with⟨_,a,_⟩|⟨a,_⟩
      · exact a
      · cases a
    have Tz:=aa XC;have Ci:=rB x.d.now;have mq:=aa hlen;clear hf hlen AD hck XC;generalize dC (1-x.ia) x.rows x.d=r at *;generalize (aO x.rows).size=size at *;generalize aM x.d.now=fr at *;generalize 1-x.ia=ar at *;obtain⟨Ya,ds0,Vn,vz⟩:=Tz.out.ex;have Bo:=Tz.out.down;have UG:Hid (∀ W S2,DK W B db S2 r.2->Calls p_ 97 #[.pointer (some ⟨db,0,none⟩),.agg #[.int .i64 (ar:Int),.int .i64 (fr:Int),.int .i64 (size:Int)]] W fun e w'=>∃ lb dv,e=.returned (.tuple #[.pointer (some ⟨lb,0,none⟩),dv,.nilIface])/\∃ dd,mC W w' lb db 50 (r.2.now.length-50) fr dv dd 0):=fun W S2 lf=>by
      have h1:=tM ar fr size W lf Bo (by rw[mq.out];omega) Ci.1 Ci.2;have Fi:dB fr 0 (eB r.2 50 (r.2.now.length-50)) ([],[]) 0=(ds0,0):=Vn.has;have Ht:mH (eB r.2 50 (r.2.now.length-50)) fr=0:=by unfold mH;rw[Fi]
      rw[Ht] at h1;exact h1.mono fun e w' ⟨lb,dv,he,ho⟩=>⟨lb,dv,he,_,ho⟩
    clear Vn vz Bo;go_enter func46,ntmps46;go_wp2_with fail;have ZL:Hid (w.heap.size<(w.alloc JX).heap.size):=aa (by simp);have vd:Hid (¬S w.heap.size):=fun e=>by have:=gx.out.lk.dk.lt e;omega
    have tj:Hid (sb≠w.heap.size):=aa (by omega)
    go_region_held3 (fun w'=>w'.cell? ⟨sb,0,none⟩=some (.pointer (some ⟨db,0,none⟩))/\w'.cell? ⟨sb,2,none⟩=some (.int .i64 (x.ia:Int))/\w'.cell? ⟨sb,3,none⟩=some (.slice va x.rows.length vc)) (first|exact⟨c0,c2,c3⟩|exact cp.out|exact⟨aA (a_ _ _) cp.out.1,aA (a_ _ _) cp.out.2.1,aA (a_ _ _) cp.out.2.2⟩|exact zHP tj.out cp.out|exact⟨aA (a_ _ _).drew c0,aA (a_ _ _).drew c2,aA (a_ _ _).drew c3⟩|go_keep) (first|(go_at_call 80;refine(Yt.out _ (by first|exact(r_ _ w).drew|exact(a_ w _).drew)).mono ?_;rintro e w7 ⟨rv7,rfl,⟨x7,y7,z7,rfl,KE⟩,⟨S7,Ck,Ag⟩⟩;have f7:=Ag.Ma sb (by first|exact Qo|exact UY Qo (a_ w _).size) gx.out.ns;have cp:Hid (w7.cell? ⟨sb,0,none⟩=some (.pointer (some ⟨db,0,none⟩))/\w7.cell? ⟨sb,2,none⟩=some (.int .i64 (x.ia:Int))/\w7.cell? ⟨sb,3,none⟩=some (.slice va x.rows.length vc)):=(by first|exact⟨(b_ (a:=⟨sb,0,none⟩) f7.1).trans c0,(b_ (a:=⟨sb,2,none⟩) f7.1).trans c2,(b_ (a:=⟨sb,3,none⟩) f7.1).trans c3⟩|exact⟨(b_ (a:=⟨sb,0,none⟩) f7.1).trans (aA (a_ w _).drew c0),(b_ (a:=⟨sb,2,none⟩) f7.1).trans (aA (a_ w _).drew c2),(b_ (a:=⟨sb,3,none⟩) f7.1).trans (aA (a_ w _).drew c3)⟩);(first|(have z7:=(Ag.Ma w.heap.size (by exact ZL.out) vd.out).1;have t0:w7.cell? ⟨w.heap.size,0,none⟩=some (.int .i64 0):=(b_ (a:=⟨w.heap.size,0,none⟩) z7).trans (aC w _ _ 0);have t1:w7.cell? ⟨w.heap.size,1,none⟩=some (.int .i64 0):=(b_ (a:=⟨w.heap.size,1,none⟩) z7).trans (aC w _ _ 1);have t2:w7.cell? ⟨w.heap.size,2,none⟩=some (.int .i64 0):=(b_ (a:=⟨w.heap.size,2,none⟩) z7).trans (aC w _ _ 2);have tf:∀ j,w7.frozen? ⟨w.heap.size,j,none⟩=false:=(fun j=>(CZ (a:=⟨w.heap.size,j,none⟩) z7).trans (aQ w _ _ j));clear z7)|skip);dsimp only))
    all_goals
      obtain⟨e1,e2,e3⟩:=KE rfl;subst e1 e2 e3
    all_goals
      first
        | (have Sm:=Xu.ofA (a:=(ar:Int)) (b:=(fr:Int)) (c:=(size:Int)) Ck Ag hB
           generalize w7.alloc (IX (ar:Int) (fr:Int) (size:Int))=W at *;generalize w7.heap.size=rb at *)
        | (have Sm:=Xu.ofB (a:=(ar:Int)) (b:=(fr:Int)) (c:=(size:Int)) Ck Ag hB vd.out t0 t1 t2
           generalize ((w7.setCell ⟨w.heap.size,0,none⟩ (i_ k_ (ar:Int))).setCell ⟨w.heap.size,1,none⟩ (i_ k_ (fr:Int))).setCell ⟨w.heap.size,2,none⟩ (i_ k_ (size:Int))=W at *;obtain⟨rb,lg⟩:∃ rb,w.heap.size=rb:=⟨_,rfl⟩;rw[lg] at Sm ⊢;clear lg t0 t1 t2 tf)
      have Om:=aa Sm;clear Sm Ck Ag f7 cp
    all_goals
      obtain⟨S2,q1,q2⟩:=Om.out.ex;have k0:=Om.out.k0;have k1:=Om.out.k1;have k2:=Om.out.k2;have uy:=gx.out.step q1 q2 mq.out;have d0:=uy.hd.c0;have yf:=aa uy;have Kb:=aa q1;have Cg:=aa q2;have zi:Hid (rb≠sb):=aa (by have:=Om.out.ge;omega);clear uy q1 q2 Om;go_wp2_with fail
      go_region_held3 (fun w'=>w'.cell? ⟨sb,0,none⟩=some (.pointer (some ⟨db,0,none⟩))/\w'.cell? ⟨rb,0,none⟩=some (.int .i64 (ar:Int))/\w'.cell? ⟨rb,1,none⟩=some (.int .i64 (fr:Int))/\w'.cell? ⟨rb,2,none⟩=some (.int .i64 (size:Int))) (first|exact⟨d0,k0,k1,k2⟩|exact Il.out|go_keep) (first|(go_at_call 97;refine(UG.out _ S2 (Kb.out.on (r_ _ _).drew)).mono ?_;rintro e w8 ⟨lb8,dv8,rfl,dd8,fg⟩;have Il:Hid (w8.cell? ⟨sb,0,none⟩=some (.pointer (some ⟨db,0,none⟩))/\w8.cell? ⟨rb,0,none⟩=some (.int .i64 (ar:Int))/\w8.cell? ⟨rb,1,none⟩=some (.int .i64 (fr:Int))/\w8.cell? ⟨rb,2,none⟩=some (.int .i64 (size:Int))):=⟨aA fg.Ia d0,aA fg.Ia k0,aA fg.Ia k1,aA fg.Ia k2⟩;dsimp only))
      have Ff:=(yf.out.on (r_ _ _).drew).hd.kept (fg.Ia.block sb (yf.out.on (r_ _ _).drew).hd.lt);have m1:=Ff.c1;have m2:=Ff.c2;have mf:=Ff.soft;have n0:=Il.out.2.1;have Ng:=aa fg;clear Ff fg Il d0 k0 k1 k2;have Zv:=zi.out;have OI:sb≠rb:=fun e=>Zv e.symm;go_wp2_with fail
      go_region_held3 (fun w'=>w'.cell? ⟨rb,0,none⟩=some (.int .i64 (ar:Int))) (first|exact n0|go_keep) (fail)
      go_wp2;go_ret;refine⟨rfl,?_⟩;have EO:=gx.out.fq (wo:=ar) (Kb.out.on (r_ _ _).drew) (Cg.out.trans (.on Kb.out.lo (r_ _ _).drew)) mq.out Ng.out (by rw[mq.out];omega) Ci;exact EO.post (r_ _ _).drew
  · rw[if_neg hf];have Wd:Hid (pa (dC (1-x.ia) x.rows x.d).1=.iface 77 (.int .i64 (dC (1-x.ia) x.rows x.d).1)):=aP hf;rw[Wd.out] at Yt ⊢;have HF:=aa hf;have mq:=aa hlen;clear hf hlen;generalize dC (1-x.ia) x.rows x.d=r at *;generalize (aO x.rows).size=size at *;generalize aM x.d.now=fr at *;generalize 1-x.ia=ar at *;go_enter func46,ntmps46;go_wp2_with fail;have ZL:Hid (w.heap.size<(w.alloc JX).heap.size):=aa (by simp);have vd:Hid (¬S w.heap.size):=fun e=>by have:=gx.out.lk.dk.lt e;omega
    have tj:Hid (sb≠w.heap.size):=aa (by omega)
    go_region_held3 (fun w'=>w'.cell? ⟨sb,0,none⟩=some (.pointer (some ⟨db,0,none⟩))/\w'.cell? ⟨sb,2,none⟩=some (.int .i64 (x.ia:Int))/\w'.cell? ⟨sb,3,none⟩=some (.slice va x.rows.length vc)) (first|exact⟨c0,c2,c3⟩|exact cp.out|exact⟨aA (a_ _ _) cp.out.1,aA (a_ _ _) cp.out.2.1,aA (a_ _ _) cp.out.2.2⟩|exact zHP tj.out cp.out|exact⟨aA (a_ _ _).drew c0,aA (a_ _ _).drew c2,aA (a_ _ _).drew c3⟩|go_keep) (first|(go_at_call 80;refine(Yt.out _ (by first|exact(r_ _ w).drew|exact(a_ w _).drew)).mono ?_;rintro e w7 ⟨rv7,rfl,⟨x7,y7,z7,rfl,KE⟩,⟨S7,Ck,Ag⟩⟩;have f7:=Ag.Ma sb (by first|exact Qo|exact UY Qo (a_ w _).size) gx.out.ns;have cp:Hid (w7.cell? ⟨sb,0,none⟩=some (.pointer (some ⟨db,0,none⟩))/\w7.cell? ⟨sb,2,none⟩=some (.int .i64 (x.ia:Int))/\w7.cell? ⟨sb,3,none⟩=some (.slice va x.rows.length vc)):=(by first|exact⟨(b_ (a:=⟨sb,0,none⟩) f7.1).trans c0,(b_ (a:=⟨sb,2,none⟩) f7.1).trans c2,(b_ (a:=⟨sb,3,none⟩) f7.1).trans c3⟩|exact⟨(b_ (a:=⟨sb,0,none⟩) f7.1).trans (aA (a_ w _).drew c0),(b_ (a:=⟨sb,2,none⟩) f7.1).trans (aA (a_ w _).drew c2),(b_ (a:=⟨sb,3,none⟩) f7.1).trans (aA (a_ w _).drew c3)⟩);(first|(have z7:=(Ag.Ma w.heap.size (by exact ZL.out) vd.out).1;have t0:w7.cell? ⟨w.heap.size,0,none⟩=some (.int .i64 0):=(b_ (a:=⟨w.heap.size,0,none⟩) z7).trans (aC w _ _ 0);have t1:w7.cell? ⟨w.heap.size,1,none⟩=some (.int .i64 0):=(b_ (a:=⟨w.heap.size,1,none⟩) z7).trans (aC w _ _ 1);have t2:w7.cell? ⟨w.heap.size,2,none⟩=some (.int .i64 0):=(b_ (a:=⟨w.heap.size,2,none⟩) z7).trans (aC w _ _ 2);have tf:∀ j,w7.frozen? ⟨w.heap.size,j,none⟩=false:=(fun j=>(CZ (a:=⟨w.heap.size,j,none⟩) z7).trans (aQ w _ _ j));clear z7)|skip);dsimp only))
    all_goals
      first
        | (have Sm:=Xu.ofA (a:=x7) (b:=y7) (c:=z7) Ck Ag hB
           generalize w7.alloc (IX x7 y7 z7)=W at *;generalize w7.heap.size=rb at *)
        | (have Sm:=Xu.ofB (a:=x7) (b:=y7) (c:=z7) Ck Ag hB vd.out t0 t1 t2
           generalize ((w7.setCell ⟨w.heap.size,0,none⟩ (i_ k_ x7)).setCell ⟨w.heap.size,1,none⟩ (i_ k_ y7)).setCell ⟨w.heap.size,2,none⟩ (i_ k_ z7)=W at *;obtain⟨rb,lg⟩:∃ rb,w.heap.size=rb:=⟨_,rfl⟩;rw[lg] at Sm ⊢;clear lg t0 t1 t2 tf)
      have Om:=aa Sm;clear Sm Ck Ag f7 cp
    all_goals
      go_wp2;go_ret;obtain⟨S2,q1,q2⟩:=Om.out.ex;exact⟨rfl,_,⟨lb,S2,_,gx.out.step q1 q2 mq.out,rfl⟩,zMG q2⟩
end
section
variable {w w':World} {B sb lb db:Nat} {S S' T:Nat->Prop} {v:Value} {x:bg}
theorem SK.added (h:SK w B sb lb db S v x) {s':Bb} (hk:LK w' B lb db S' 50 (x.d.now.length-50) x.first u s') (hs:aG w w' B (Jt lb S) (Jt lb S')) (hl:s'.now.length=x.d.now.length):SK w' B sb lb db S' v { x with d:=s',used:=u }/\aG w w' B (Lq sb lb v S) (Lq sb lb v S'):=by
 have nsb:¬Jt lb S sb:=fun e=>e.elim h.nl h.ns;have nvb:∀ k,v.ownBlock=some k->¬Jt lb S k:=fun k e e2=>e2.elim (h.nv k e).2.1 (h.nv k e).2.2;have f1:=hs.Ma sb h.hd.lt nsb;refine⟨⟨h.hd.kept f1.1,?_,aI h.own fun k e=>(hs.Ma k (l_ h.own k e).2 (nvb k e)).1,fun e=>f1.2 (.inr e),h.nl,fun k e=>⟨(h.nv k e).1,(h.nv k e).2.1,fun e2=>(hs.Ma k (l_ h.own k e).2 (nvb k e)).2 (.inr e2)⟩,h.lo⟩,hs.Ia,fun j hj hn=>?_⟩
 ·show LK w' B lb db S' 50 (s'.now.length-50) x.first u s';rw[hl];exact hk
 ·obtain⟨a,b⟩:=hs.Ma j hj (fun e=>e.elim (fun e=>hn (.inr (.inl e))) fun e=>hn (.inr (.inr (.inr e))));exact⟨a,fun e=>e.elim (fun e=>hn (.inl e)) fun e=>e.elim (fun e=>hn (.inr (.inl e))) fun e=>e.elim (fun e=>hn (.inr (.inr (.inl e)))) fun e=>b (.inr e)⟩
theorem SK.finish {y:bg} {v2:Value} {xw:List ma} (h:SK w3 B sb lb db S v y) (Zb:aG w w3 B T (Lq sb lb v S)) (hB:B<=w.heap.size) (ho:bO w3 w.heap.size v2 xw) (jf:∀ k,v2.ownBlock=some k->¬Lq sb lb v S k):Dh w (w3.setCell ⟨sb,3,none⟩ v2) B sb db T { y with rows:=xw }:=by
 have lf:∀ k,k≠sb->(w3.setCell ⟨sb,3,none⟩ v2).heap[k]?=w3.heap[k]?:=fun k hn=>h_ _ _ _ _ hn;have hv:∀ k,v2.ownBlock=some k->k≠sb/\k≠lb/\¬S k:=fun k e=>⟨fun e2=>jf k e (.inl e2),fun e2=>jf k e (.inr (.inl e2)),fun e2=>jf k e (.inr (.inr (.inr e2)))⟩;refine⟨_,⟨lb,S,v2,⟨⟨(t_ _ _ _ _ (by simp)).trans h.hd.c0,(t_ _ _ _ _ (by simp)).trans h.hd.c1,(t_ _ _ _ _ (by simp)).trans h.hd.c2,u_ _ _ _ h.hd.c3,fun j=>by rw[EZ];exact h.hd.soft j⟩,?_,?_,h.ns,h.nl,hv,h.lo⟩,rfl⟩,Zb.Ia.setCell (p:=⟨sb,3,none⟩) h.lo v2,fun j hj hn=>?_⟩
 ·exact⟨h.lk.dk.kept (by simp) fun k e=>lf k fun e2=>h.ns (e2▸e),h.lk.hd.kept (lf lb fun e=>h.nl e.symm),h.lk.nl,h.lk.lo,h.lk.us,h.lk.fit,h.lk.f1⟩
 ·exact dJ (aI ho fun k e=>lf k (hv k e).1) hB
 ·obtain⟨a,b⟩:=Zb.Ma j hj hn;refine⟨(lf j fun e=>b (.inl e)).trans a,fun e=>?_⟩;rcases e with e|e|e|e
  ·exact b (.inl e)
  ·exact b (.inr (.inl e))
  ·have:=(l_ ho j e).1;omega
  ·exact b (.inr (.inr (.inr e)))
theorem zCC (fr many first used:Nat) (s:Bb) (l:List ma):(og fr many first used s l).2.2.now.length=s.now.length:=by
 unfold og;split
 ·rfl
 ·exact fS _ _
def apart (T:Nat->Prop) (ao:Option Addr) (l:List ma):Prop:=l=[]∨∀ a,ao=some a->¬T a.block
theorem apart.step {T':Nat->Prop} {ao:Option Addr} (h:apart T ao l) (hh:bW w ao l) (hs:aG w w' B T T'):apart T' ao l/\bW w' ao l:=by
 rcases h with h|h
 ·exact⟨.inl h,.inl h⟩
 ·rcases hh with hh|⟨b,off,e,hc⟩
  ·exact⟨.inl hh,.inl hh⟩
  ·subst e;by_cases hl:l=[]
   ·exact⟨.inl hl,.inl hl⟩
   ·have hb:b<w.heap.size:=AZ _ _ (hc 0 (List.length_pos_iff.2 hl)).1;obtain⟨a,n⟩:=hs.Ma b hb (h _ rfl);exact⟨.inr fun a e=>by cases e;exact n,.inr ⟨b,off,rfl,fun i hi=>⟨(b_ (a:=⟨b,_,none⟩) a).trans (hc i hi).1,(b_ (a:=⟨b,_,none⟩) a).trans (hc i hi).2.1,(b_ (a:=⟨b,_,none⟩) a).trans (hc i hi).2.2⟩⟩⟩
end
section
variable {w w':World} {B sb lb db:Nat} {S S' T:Nat->Prop} {v:Value} {x:bg}
theorem zEV (l:List ma) (ao:Option Addr) (cap:Nat) (w:World) (h:SA w B sb db T x) (hg:fA x) (hd:bW w ao l) (jf:apart T ao l) (hl:l.length<=100) (Mb:∀ c∈l,c.key.size<=1000/\c.val.size<=1000):
  Calls p_ 88 #[.pointer (some ⟨sb,0,none⟩),.slice ao l.length cap] w fun e w'=>e=.returned (pa (Ha x l).1)/\Dh w w' B sb db T (Ha x l).2:=by
 have ee:=cQ.Mi hg;have Rm:=cQ.Ks hg;have Ht:=cQ.us hg;have hB:=h.tk;have Mm:=aa (zFX l ao cap w hd (by omega) (fun c hc=>by have:=Mb c hc;unfold maxLen;omega));have vo:=aa h;have BL:=aa hg;have fp:=aa hd;have AK:=aa jf;have rq:=aa Mb;clear h hg hd jf Mb;by_cases h1:jW l=0
 ·obtain⟨lb0,S0,v0,qs,hT0⟩:=vo.out;have c0:=qs.hd.c0;have c3:=qs.hd.c3;have Nl:=aa qs;have hm:=qs.lk.dk.many;have EU:=aa h1;have zq:=zGt x.rows l;have gm:(l.length:Int)<=100:=by omega
  rw[h1,aR] at Mm;clear qs h1 hT0;by_cases h2:40<(aK x.rows l).length∨x.d.now.length-50<l.length+1
  ·have Ul:Ha x l=(8,x):=by
    have ef:Uc x l=8:=by unfold Uc;rw[if_neg (by rw[EU.out];decide),if_pos h2]
    unfold Ha;rw[ef,if_pos (by decide)]
   rw[Ul];clear Ul;have LU:Hid (pa 8=.iface 77 (.int .i64 8)):=rfl;have H2:=aa h2;clear h2;go_enter func88,ntmps88;go_wp2_with fail;refine Mm.out.mono ?_;rintro e w1 ⟨rfl,Ba⟩;have zb:=aa Ba;replace ⟨c0,c3⟩:=Em Ba c0 c3;have bp:=aa (lG x.rows l v0 ao cap B w1 (bQ Nl.out.own Ba) (eA Ba fp.out) (by omega) (by omega));clear Ba;go_wp2_with fail;refine bp.out.mono ?_;rintro e w2 ⟨v2,rfl,qc,za⟩;have Cb:=aa (aB zb.out (n_ _) za);have Kc:=aa (dJ qc zb.out.size);replace ⟨c0,c3⟩:=Em za c0 c3;obtain⟨va,vc,rfl⟩:∃ va vc,v2=.slice va (aK x.rows l).length vc:=by
    rcases aX qc with⟨e,e2⟩|⟨g,Pb,e,_⟩
    ·exact⟨none,0,by rw[e,e2]⟩
    ·exact⟨_,Pb,e⟩
   have Wk:=aa (iK w2 (Nl.out.lk.dk.on Cb.out) (by omega));have Qm:=aa (qF w2 (vo.out.on Cb.out));have zn:Hid (∀ n,aG w (w2.drewN n) B T T):=fun n=>.on hB (below_drewN Cb.out n);clear qc za bp Mm zb;generalize Vi:(aK x.rows l).length=n2 at *;have xp:=aa Vi;clear Vi;have h2:=H2.out;have Wt:=aa (vo.out.stay Cb.out);by_cases h3:40<n2
   ·have zx:(40:Int)<(n2:Int):=by omega
    clear h2;go_wp2;go_ret;exact⟨by rw[LU.out];rfl,Wt.out⟩
   ·have zx:¬(40:Int)<(n2:Int):=by omega
    have h4':((x.d.now.length-50:Nat):Int)<(l.length:Int)+1:=by omega
    clear h2 H2;generalize x.d.now.length-50=m at *;go_wp2_with fail;refine Wk.out.mono ?_;rintro e w3 ⟨rfl,rfl⟩;go_wp2;go_ret;exact⟨by rw[LU.out];rfl,Wt.out⟩
  ·have zv:Hid ((aK x.rows l).length<=40/\l.length+1<=x.d.now.length-50):=aa (by omega);have ef:Uc x l=0:=by unfold Uc;rw[if_neg (by rw[EU.out];decide),if_neg h2]
   have Ul:Ha x l=if (gO x l).1≠0 then gO x l else gM (gO x l).2 l (aK x.rows l):=by unfold Ha;rw[if_neg (by rw[ef];decide)]
   rw[Ul];clear Ul ef h2;have zx:¬(40:Int)<((aK x.rows l).length:Int):=by have:=zv.out;omega
   have h4':¬((x.d.now.length-50:Nat):Int)<(l.length:Int)+1:=by have:=zv.out;omega
   have hrI:((x.d.now.length-50-x.used:Nat):Int)<=200:=by omega
   by_cases Oc:x.d.now.length-50-x.used<l.length+1
   ·have Zn:((x.d.now.length-50-x.used:Nat):Int)<(l.length:Int)+1:=by omega
    have e1:gO x l=zc x:=if_pos Oc;rw[e1];clear e1 Oc;have Om:Hid (∀ W,Below w.heap.size w W->Calls p_ 46 #[.pointer (some ⟨sb,0,none⟩)] W fun e w'=>e=.returned (pa (zc x).1)/\Dh W w' B sb db T (zc x).2):=fun W hb=>zDC W (vo.out.on hb) BL.out;by_cases Df:(zc x).1=0
    ·rw[if_neg (by rw[Df];decide)];rw[Df,aR] at Om;clear Df;generalize (zc x).2=Y at *;obtain⟨R,Kn⟩:∃ R,og 50 (Y.d.now.length-50) Y.first Y.used Y.d l=R:=⟨_,rfl⟩;have qq:=aa Kn;have Oq:Hid (R.2.2.now.length=Y.d.now.length):=by rw[<-Kn];exact zCC 50 (Y.d.now.length-50) Y.first Y.used Y.d l
     unfold gM;rw[Kn];obtain⟨RW,Ix⟩:∃ RW,RW=if R.1=0 then aK x.rows l else Y.rows:=⟨_,rfl⟩;rw[<-Ix];have xn:=aa Ix;clear Kn Ix;go_enter func88,ntmps88;go_wp2_with fail;refine Mm.out.mono ?_;rintro e w1 ⟨rfl,Ba⟩;have zb:=aa Ba;replace ⟨c0,c3⟩:=Em Ba c0 c3;have bp:=aa (lG x.rows l v0 ao cap B w1 (bQ Nl.out.own Ba) (eA Ba fp.out) (by omega) (by omega));clear Ba;go_wp2_with fail;refine bp.out.mono ?_;rintro e w2 ⟨v2,rfl,qc,za⟩;have Cb:=aa (aB zb.out (n_ _) za);have Kc:=aa (dJ qc zb.out.size);replace ⟨c0,c3⟩:=Em za c0 c3;obtain⟨va,vc,rfl⟩:∃ va vc,v2=.slice va (aK x.rows l).length vc:=by
      rcases aX qc with⟨e,e2⟩|⟨g,Pb,e,_⟩
      ·exact⟨none,0,by rw[e,e2]⟩
      ·exact⟨_,Pb,e⟩
     have Wk:=aa (iK w2 (Nl.out.lk.dk.on Cb.out) (by omega));have Qm:=aa (qF w2 (vo.out.on Cb.out));have zn:Hid (∀ n,aG w (w2.drewN n) B T T):=fun n=>.on hB (below_drewN Cb.out n);clear qc za bp Mm zb;generalize Vi:(aK x.rows l).length=n2 at *;have xp:=aa Vi;clear Vi;generalize Yr:x.d.now.length-50-x.used=rm at *;clear Yr;generalize Wm:x.d.now.length-50=m at *;have Yz:=aa Wm;clear Wm;go_wp2_with fail;refine Wk.out.mono ?_;rintro e w3 ⟨rfl,rfl⟩;go_wp2_with fail;refine Qm.out.mono ?_;rintro e w4 ⟨rfl,nq,rfl⟩;go_wp2_with fail;refine(Om.out _ (below_drewN Cb.out nq)).mono ?_;rintro e W ⟨rfl,TY,Zr,Ik⟩;have vy:=(zn.out nq).trans Ik;have CL:=aa (AK.out.step fp.out vy).2;have HA:=aa Zr;have br:=aa vy;have Br:∀ k,VZ (.slice va n2 vc)=some k->W.heap[k]?=w3.heap[k]?/\¬TY k:=fun k e=>Ik.Ma k (l_ Kc.out k e).2 (fun e2=>by have h1:=(l_ Kc.out k e).1;have h2:=vo.out.lt e2;omega);have Vq:Hid (bO W w.heap.size (.slice va n2 vc) (aK x.rows l)):=aI Kc.out fun k e=>(Br k e).1;have Zu:Hid (∀ k,VZ (.slice va n2 vc)=some k->¬TY k):=fun k e=>(Br k e).2;clear Zr Ik vy Br Om Qm Wk Kc c0 c3;obtain⟨Kt,S5,v5,Hk,QB⟩:=HA.out;have g1:=Hk.hd.c1;have Zq:=aa Hk;have kx:=aa QB;have Uk:Hid (Calls p_ 162 #[.pointer (some ⟨Kt,0,none⟩),.slice ao l.length cap] W fun e w'=>e=.returned (pa R.1)/\pB W w' B Kt db S5 50 (Y.d.now.length-50) Y.first R.2.1 R.2.2):=by
      have h1:=zDn l ao cap W Hk.lk CL.out rq.out (by omega);rw[qq.out] at h1;exact h1
     clear Hk QB;by_cases Yh:R.1=0
     ·rw[Yh,aR] at Uk;have Ji:=aa Yh;clear Yh;go_wp2_with fail;refine Uk.out.mono ?_;rintro e w8 ⟨rfl,S8,Kh,oh⟩;obtain⟨Ff,Tg⟩:=Zq.out.added Kh oh Oq.out;have q3:=Ff.hd.c3;have qf:=Ff.hd.soft;have Yi:bO w8 w.heap.size (.slice va n2 vc) (aK x.rows l)/\∀ k,VZ (.slice va n2 vc)=some k->¬Lq sb Kt v5 S8 k:=by
       have jf:=Zu.out;rw[kx.out] at jf;exact⟨aI Vq.out fun k e=>(Tg.Ma k (l_ Vq.out k e).2 (jf k e)).1,fun k e=>(Tg.Ma k (l_ Vq.out k e).2 (jf k e)).2⟩
      have Cr:=Ff.finish (by have h1:=br.out;rw[kx.out] at h1;exact h1.trans Tg) hB Yi.1 Yi.2;have Jw:=aa Cr;clear Kh oh Ff Tg Yi Cr;go_wp2;go_ret;rw[Ji.out,xn.out,if_pos Ji.out];exact⟨rfl,Jw.out⟩
     ·have Wd:Hid (pa R.1=.iface 77 (.int .i64 R.1)):=aP Yh;rw[Wd.out] at Uk;have Ji:=aa Yh;clear Yh;go_wp2_with fail;refine Uk.out.mono ?_;rintro e w8 ⟨rfl,S8,Kh,oh⟩;obtain⟨Ff,Tg⟩:=Zq.out.added Kh oh Oq.out;have ix:=aa Ff;have jx:=aa Tg;clear Kh oh Ff Tg;go_wp2;go_ret;have h1:=br.out;rw[kx.out] at h1;rw[xn.out,if_neg Ji.out];exact⟨by rw[Wd.out];rfl,_,⟨Kt,S8,v5,ix.out,rfl⟩,h1.trans jx.out⟩
    ·have Wd:Hid (pa (zc x).1=.iface 77 (.int .i64 (zc x).1)):=aP Df;rw[if_pos Df];rw[Wd.out] at Om;clear Df;go_enter func88,ntmps88;go_wp2_with fail;refine Mm.out.mono ?_;rintro e w1 ⟨rfl,Ba⟩;have zb:=aa Ba;replace ⟨c0,c3⟩:=Em Ba c0 c3;have bp:=aa (lG x.rows l v0 ao cap B w1 (bQ Nl.out.own Ba) (eA Ba fp.out) (by omega) (by omega));clear Ba;go_wp2_with fail;refine bp.out.mono ?_;rintro e w2 ⟨v2,rfl,qc,za⟩;have Cb:=aa (aB zb.out (n_ _) za);have Kc:=aa (dJ qc zb.out.size);replace ⟨c0,c3⟩:=Em za c0 c3;obtain⟨va,vc,rfl⟩:∃ va vc,v2=.slice va (aK x.rows l).length vc:=by
      rcases aX qc with⟨e,e2⟩|⟨g,Pb,e,_⟩
      ·exact⟨none,0,by rw[e,e2]⟩
      ·exact⟨_,Pb,e⟩
     have Wk:=aa (iK w2 (Nl.out.lk.dk.on Cb.out) (by omega));have Qm:=aa (qF w2 (vo.out.on Cb.out));have zn:Hid (∀ n,aG w (w2.drewN n) B T T):=fun n=>.on hB (below_drewN Cb.out n);clear qc za bp Mm zb;generalize Vi:(aK x.rows l).length=n2 at *;have xp:=aa Vi;clear Vi;generalize Yr:x.d.now.length-50-x.used=rm at *;clear Yr;generalize Wm:x.d.now.length-50=m at *;have Yz:=aa Wm;clear Wm;go_wp2_with fail;refine Wk.out.mono ?_;rintro e w3 ⟨rfl,rfl⟩;go_wp2_with fail;refine Qm.out.mono ?_;rintro e w4 ⟨rfl,nq,rfl⟩;go_wp2_with fail;refine(Om.out _ (below_drewN Cb.out nq)).mono ?_;rintro e W ⟨rfl,TY,Zr,Ik⟩;have UL:=aa ((zn.out nq).trans Ik);have HA:=aa Zr;clear Zr Ik;go_wp2;go_ret;exact⟨by rw[Wd.out];rfl,TY,HA.out,UL.out⟩
   ·have Zn:¬((x.d.now.length-50-x.used:Nat):Int)<(l.length:Int)+1:=by omega
    have e1:gO x l=(0,x):=if_neg Oc;rw[e1,if_neg (by show ¬0≠0;decide)];clear e1 Oc;show Calls _ _ _ _ fun e w'=>e=.returned (pa (gM x l (aK x.rows l)).1)/\Dh w w' B sb db T (gM x l (aK x.rows l)).2;obtain⟨R,Kn⟩:∃ R,og 50 (x.d.now.length-50) x.first x.used x.d l=R:=⟨_,rfl⟩;have qq:=aa Kn;have Oq:Hid (R.2.2.now.length=x.d.now.length):=by rw[<-Kn];exact zCC 50 (x.d.now.length-50) x.first x.used x.d l
    unfold gM;rw[Kn];obtain⟨RW,Ix⟩:∃ RW,RW=if R.1=0 then aK x.rows l else x.rows:=⟨_,rfl⟩;rw[<-Ix];have xn:=aa Ix;clear Kn Ix;go_enter func88,ntmps88;go_wp2_with fail;refine Mm.out.mono ?_;rintro e w1 ⟨rfl,Ba⟩;have zb:=aa Ba;replace ⟨c0,c3⟩:=Em Ba c0 c3;have bp:=aa (lG x.rows l v0 ao cap B w1 (bQ Nl.out.own Ba) (eA Ba fp.out) (by omega) (by omega));clear Ba;go_wp2_with fail;refine bp.out.mono ?_;rintro e w2 ⟨v2,rfl,qc,za⟩;have Cb:=aa (aB zb.out (n_ _) za);have Kc:=aa (dJ qc zb.out.size);replace ⟨c0,c3⟩:=Em za c0 c3;obtain⟨va,vc,rfl⟩:∃ va vc,v2=.slice va (aK x.rows l).length vc:=by
     rcases aX qc with⟨e,e2⟩|⟨g,Pb,e,_⟩
     ·exact⟨none,0,by rw[e,e2]⟩
     ·exact⟨_,Pb,e⟩
    have Wk:=aa (iK w2 (Nl.out.lk.dk.on Cb.out) (by omega));have Qm:=aa (qF w2 (vo.out.on Cb.out));have zn:Hid (∀ n,aG w (w2.drewN n) B T T):=fun n=>.on hB (below_drewN Cb.out n);clear qc za bp Mm zb;generalize Vi:(aK x.rows l).length=n2 at *;have xp:=aa Vi;clear Vi;generalize Yr:x.d.now.length-50-x.used=rm at *;clear Yr;generalize Wm:x.d.now.length-50=m at *;have Yz:=aa Wm;clear Wm;go_wp2_with fail;refine Wk.out.mono ?_;rintro e w3 ⟨rfl,rfl⟩;go_wp2_with fail;refine Qm.out.mono ?_;rintro e w4 ⟨rfl,nq,rfl⟩;have CL:=aa (eA (below_drewN Cb.out nq) fp.out);have HA:=aa (vo.out.on (below_drewN Cb.out nq));have br:=aa (zn.out nq);have Vq:Hid (bO (w3.drewN nq) w.heap.size (.slice va n2 vc) (aK x.rows l)):=Kc.out;have Zu:Hid (∀ k,VZ (.slice va n2 vc)=some k->¬T k):=fun k e e2=>by have h1:=(l_ Kc.out k e).1;have h2:=vo.out.lt e2;omega
    clear Qm Wk Kc c0 c3 zn;generalize w3.drewN nq=W at *;obtain⟨Kt,S5,v5,Hk,QB⟩:=HA.out;have g1:=Hk.hd.c1;have Zq:=aa Hk;have kx:=aa QB;have Uk:Hid (Calls p_ 162 #[.pointer (some ⟨Kt,0,none⟩),.slice ao l.length cap] W fun e w'=>e=.returned (pa R.1)/\pB W w' B Kt db S5 50 m x.first R.2.1 R.2.2):=by
     have h1:=zDn l ao cap W Hk.lk CL.out rq.out (by omega);rw[Yz.out] at h1;rw[qq.out] at h1;exact h1
    clear Hk QB;by_cases Yh:R.1=0
    ·rw[Yh,aR] at Uk;have Ji:=aa Yh;clear Yh;go_wp2_with fail;refine Uk.out.mono ?_;rintro e w8 ⟨rfl,S8,Kh,oh⟩;rw[<-Yz.out] at Kh;obtain⟨Ff,Tg⟩:=Zq.out.added Kh oh Oq.out;have q3:=Ff.hd.c3;have qf:=Ff.hd.soft;have Yi:bO w8 w.heap.size (.slice va n2 vc) (aK x.rows l)/\∀ k,VZ (.slice va n2 vc)=some k->¬Lq sb Kt v5 S8 k:=by
      have jf:=Zu.out;rw[kx.out] at jf;exact⟨aI Vq.out fun k e=>(Tg.Ma k (l_ Vq.out k e).2 (jf k e)).1,fun k e=>(Tg.Ma k (l_ Vq.out k e).2 (jf k e)).2⟩
     have Cr:=Ff.finish (by have h1:=br.out;exact aG.trans (by have h2:=h1;rw[<-kx.out];exact h2) Tg) hB Yi.1 Yi.2;have Jw:=aa Cr;clear Kh oh Ff Tg Yi Cr;go_wp2;go_ret;rw[Ji.out,xn.out,if_pos Ji.out];exact⟨rfl,Jw.out⟩
    ·have Wd:Hid (pa R.1=.iface 77 (.int .i64 R.1)):=aP Yh;rw[Wd.out] at Uk;have Ji:=aa Yh;clear Yh;go_wp2_with fail;refine Uk.out.mono ?_;rintro e w8 ⟨rfl,S8,Kh,oh⟩;rw[<-Yz.out] at Kh;obtain⟨Ff,Tg⟩:=Zq.out.added Kh oh Oq.out;have ix:=aa Ff;have jx:=aa Tg;clear Kh oh Ff Tg;go_wp2;go_ret;have h1:=br.out;replace h1:aG w W B T (Lq sb Kt v5 S5):=by rw[<-kx.out];exact h1
     rw[xn.out,if_neg Ji.out];exact⟨by rw[Wd.out];rfl,_,⟨Kt,S8,v5,ix.out,rfl⟩,h1.trans jx.out⟩
 ·have Ul:Ha x l=(jW l,x):=by
   have ef:Uc x l=jW l:=by unfold Uc;rw[if_pos h1]
   unfold Ha;rw[ef,if_pos h1]
  rw[Ul];have Wd:Hid (pa (jW l)=.iface 77 (.int .i64 (jW l))):=aP h1;rw[Wd.out] at Mm;clear h1 Ul;go_enter func88,ntmps88;go_wp2_with fail;refine Mm.out.mono ?_;rintro e w1 ⟨rfl,Ba⟩;have Wt:=aa (vo.out.stay Ba);clear Ba;go_wp2;go_ret;exact⟨by rw[Wd.out];rfl,Wt.out⟩
end
section
variable {w w':World} {B sb lb db:Nat} {S S' T:Nat->Prop} {v:Value} {x:bg}
theorem SA.kept (h:SA w B sb db T x) (hs:w.heap.size<=w'.heap.size) (hk:∀ k,T k->w'.heap[k]?=w.heap[k]?):SA w' B sb db T x:=by
 obtain⟨lb,S,v,h1,rfl⟩:=h;refine⟨lb,S,v,⟨h1.hd.kept (hk sb (.inl rfl)),⟨h1.lk.dk.kept hs fun k e=>hk k (.inr (.inr (.inr e))),h1.lk.hd.kept (hk lb (.inr (.inl rfl))),h1.lk.nl,h1.lk.lo,h1.lk.us,h1.lk.fit,h1.lk.f1⟩,aI h1.own fun k e=>hk k (.inr (.inr (.inl e))),h1.ns,h1.nl,h1.nv,h1.lo⟩,rfl⟩
theorem SA.vx (h:SA w B sb db T x):∃ S,DK w B db S x.d/\∀ k,S k->T k:=by
 obtain⟨lb,S,v,h1,rfl⟩:=h;exact⟨S,h1.lk.dk,fun k e=>.inr (.inr (.inr e))⟩
theorem sx.sa (h:sx w0 w' B sb db S x):∃ T,SA w' B sb db T x/\∀ k,T k->S k∨w0.heap.size<=k:=by
 obtain⟨lb,v,h1,h2,h3⟩:=h.ex;refine⟨_,⟨lb,S,v,h1,rfl⟩,fun k e=>?_⟩;rcases e with rfl|rfl|e|e
 ·exact .inr h.new
 ·exact .inr h2
 ·exact .inr (h3 k e)
 ·exact .inl e
end
end
section
open Go.RowKit Go.Joins
structure Ic where
 eb:Nat
 sb:Nat
 db:Nat
 vb:Nat
 mb:Nat
 many:Nat
 D:DataW Value
 g:ByteArray->Value
 hv:Value
 dv:List (aU×Value)
 W:Nat->Nat×Value×Value
 Ts:Nat->Prop
 Q:Nat->Prop
def Wg (m:Ic) (f:Nat->Option Mc) (i:Nat):Value:=match f i with
 | none=>.pointer none
 | some _=>.pointer (some ⟨(m.W i).1,0,none⟩)
def Sg (m:Ic) (f:Nat->Option Mc):Nat->Option Value:=fun j=>
 if j=0 then some (.pointer (some ⟨m.sb,0,none⟩)) else if j=1 then some (.pointer (some ⟨m.vb,0,none⟩)) else if 3<=j/\j<7 then some (Wg m f (j-3)) else none
def Lb (m:Ic) (f:Nat->Option Mc):Nat->Nat->Prop
 | 0=>jn m.eb m.hv m.dv
 | 1=>m.Ts
 | 2=>Gb m.vb m.mb m.g
 | i+3=>fun k=>f i≠none/\sd (m.W i).1 (m.W i).2.1 (m.W i).2.2 k
def Tb (m:Ic) (f:Nat->Option Mc) (k:Nat):Prop:=∃ i,Lb m f i k
structure EK (w:World) (B:Nat) (m:Ic) (s:Cc):Prop where
 hi:bP w B m.eb (Sg m s.Da) m.hv m.dv
 sa:SA w B m.sb m.db m.Ts s.x
 vs:VS w B m.vb m.mb s.now m.many m.D m.g s.R
 vw:∀ i v,s.Da i=some v->VW w B (m.W i).1 m.vb v.n (m.W i).2.1 (m.W i).2.2 v.ba v.ga
 ds:xb m.dv=s.ds
 ap:∀ i j k,Lb m s.Da i k->Lb m s.Da j k->i=j
 mn:m.many<=2000*(s.c+1)
 s4:S4 s
def Vf (F:Nat->Nat->Prop) (a:Nat) (S:Nat->Prop):Nat->Nat->Prop:=fun i=>if i=a then S else F i
theorem wZ (jf:∀ i j k,F i k->F j k->i=j) (Aa:∀ i k,F i k->k<w.heap.size) (ic:∀ k,k<w.heap.size->¬F a k->w'.heap[k]?=w.heap[k]?/\¬S' k):
  (∀ i j k,Vf F a S' i k->Vf F a S' j k->i=j)/\(∀ i k,i≠a->F i k->w'.heap[k]?=w.heap[k]?):=by
 have hf:∀ i k,i≠a->F i k->w'.heap[k]?=w.heap[k]?/\¬S' k:=fun i k hi hk=>ic k (Aa i k hk) fun e=>hi (jf i a k hk e);refine⟨fun i j k hi hj=>?_,fun i k hi hk=>(hf i k hi hk).1⟩;unfold Vf at hi hj;split at hi
 ·split at hj
  ·rename_i e1 e2;rw[e1,e2]
  ·rename_i e1 e2;exact absurd hi (hf j k e2 hj).2
 ·split at hj
  ·rename_i e1 e2;exact absurd hj (hf i k e1 hi).2
  ·exact jf i j k hi hj
theorem XR (hb:Below B w w') (ic:∀ k,k<w.heap.size->¬F a k->w'.heap[k]?=w.heap[k]?/\¬S' k):
  aG w w' B (fun k=>∃ i,F i k) (fun k=>∃ i,Vf F a S' i k):=⟨hb,fun k hk hn=>by
 obtain⟨h1,h2⟩:=ic k hk fun e=>hn ⟨a,e⟩;refine⟨h1,fun ⟨i,hi⟩=>?_⟩;unfold Vf at hi;split at hi
 ·exact h2 hi
 ·exact hn ⟨i,hi⟩⟩
section
variable {w w':World} {B:Nat} {m:Ic} {s:Cc}
theorem EK.lt (h:EK w B m s) (hk:Lb m s.Da i k):k<w.heap.size:=by
 match i,hk with
 | 0,hk=>exact zM7 h.hi hk
 | 1,hk=>exact h.sa.lt hk
 | 2,hk=>exact h.vs.lt hk
 | i+3,⟨h1,h2⟩=>
  cases hv:s.Da i with
  | none=>exact absurd hv h1
  | some v=>exact(h.vw i v hv).lt h2
theorem EK.tk (h:EK w B m s):B<=w.heap.size:=h.sa.tk
theorem EK.kept (h:EK w B m s) (hs:w.heap.size<=w'.heap.size) (hk:∀ k,Tb m s.Da k->w'.heap[k]?=w.heap[k]?):EK w' B m s where
 hi:=h.hi.kept fun k e=>hk k ⟨0,e⟩
 sa:=h.sa.kept hs fun k e=>hk k ⟨1,e⟩
 vs:=h.vs.kept fun k e=>hk k ⟨2,e⟩
 vw:=fun i v hv=>(h.vw i v hv).kept fun k e=>hk k ⟨i+3,by rw[hv];exact nofun,e⟩
 ds:=h.ds
 ap:=h.ap
 mn:=h.mn
 s4:=h.s4
theorem EK.on (h:EK w B m s) (hb:Below w.heap.size w w'):EK w' B m s:=h.kept hb.size fun k ⟨_,e⟩=>hb.block k (h.lt e)
theorem EK.FD (h:EK w B m s) {Ai:List (aU×Value)} (hH:bP w' B m.eb (Sg m s.Da) v' Ai) (hb:Below B w w') (hf:∀ j,j<w.heap.size->¬jn m.eb m.hv m.dv j->w'.heap[j]?=w.heap[j]?/\¬jn m.eb v' Ai j) {ds':List aU} (hd:xb Ai=ds'):
  EK w' B { m with hv:=v',dv:=Ai } { s with ds:=ds' }/\aG w w' B (Tb m s.Da) (Tb { m with hv:=v',dv:=Ai } s.Da)/\∀ i k,i≠0->Lb m s.Da i k->w'.heap[k]?=w.heap[k]?:=by
 have eF:Lb { m with hv:=v',dv:=Ai } s.Da=Vf (Lb m s.Da) 0 (jn m.eb v' Ai):=by
  funext i
  match i with
  | 0=>rfl
  | 1=>rfl
  | 2=>rfl
  | i+3=>rfl
 obtain⟨f1,f2⟩:=wZ (F:=Lb m s.Da) (a:=0) (S':=jn m.eb v' Ai) h.ap (fun i k e=>h.lt e) hf;refine⟨⟨hH,h.sa.kept hb.size fun k e=>f2 1 k (by decide) e,h.vs.kept fun k e=>f2 2 k (by decide) e,fun i v hv=>(h.vw i v hv).kept fun k e=>f2 (i+3) k (by omega) ⟨by rw[hv];exact nofun,e⟩,hd,?_,h.mn,h.s4⟩,?_,f2⟩
 ·show ∀ i j k,Lb { m with hv:=v',dv:=Ai } s.Da i k->Lb { m with hv:=v',dv:=Ai } s.Da j k->i=j;rw[eF];exact f1
 ·have:=XR (F:=Lb m s.Da) (a:=0) (S':=jn m.eb v' Ai) hb hf;unfold Tb;rw[eF];exact this
theorem EK.store (h:EK w B m s) {x':bg} (ha:Dh w w' B m.sb m.db m.Ts x'):
  ∃ T',EK w' B { m with Ts:=T' } { s with x:=x' }/\aG w w' B (Tb m s.Da) (Tb { m with Ts:=T' } s.Da)/\∀ i k,i≠1->Lb m s.Da i k->w'.heap[k]?=w.heap[k]?:=by
 obtain⟨T',si,Zb⟩:=ha;have eF:Lb { m with Ts:=T' } s.Da=Vf (Lb m s.Da) 1 T':=by
  funext i
  match i with
  | 0=>rfl
  | 1=>rfl
  | 2=>rfl
  | i+3=>rfl
 obtain⟨f1,f2⟩:=wZ (F:=Lb m s.Da) (a:=1) (S':=T') h.ap (fun i k e=>h.lt e) Zb.Ma;refine⟨T',⟨h.hi.kept fun k e=>f2 0 k (by decide) e,si,h.vs.kept fun k e=>f2 2 k (by decide) e,fun i v hv=>(h.vw i v hv).kept fun k e=>f2 (i+3) k (by omega) ⟨by rw[hv];exact nofun,e⟩,h.ds,?_,h.mn,h.s4⟩,?_,f2⟩
 ·show ∀ i j k,Lb { m with Ts:=T' } s.Da i k->Lb { m with Ts:=T' } s.Da j k->i=j;rw[eF];exact f1
 ·have:=XR (F:=Lb m s.Da) (a:=1) (S':=T') Zb.Ia Zb.Ma;unfold Tb;rw[eF];exact this
theorem EK.YF (h:EK w B m s) {n':Nat} {D':DataW Value} {g':ByteArray->Value} {R':ByteArray->List yb} {cq:Nat} {c':Nat} (Ro:VS w' B m.vb m.mb (cq:Int) n' D' g' R') (hb:Below B w w') (hf:∀ j,j<w.heap.size->¬Gb m.vb m.mb m.g j->w'.heap[j]?=w.heap[j]?/\¬Gb m.vb m.mb g' j) (hn:n'<=2000*(c'+1)):
  EK w' B { m with many:=n',D:=D',g:=g' } { s with now:=cq,R:=R',c:=c' }/\aG w w' B (Tb m s.Da) (Tb { m with many:=n',D:=D',g:=g' } s.Da)/\∀ i k,i≠2->Lb m s.Da i k->w'.heap[k]?=w.heap[k]?:=by
 have eF:Lb { m with many:=n',D:=D',g:=g' } s.Da=Vf (Lb m s.Da) 2 (Gb m.vb m.mb g'):=by
  funext i
  match i with
  | 0=>rfl
  | 1=>rfl
  | 2=>rfl
  | i+3=>rfl
 obtain⟨f1,f2⟩:=wZ (F:=Lb m s.Da) (a:=2) (S':=Gb m.vb m.mb g') h.ap (fun i k e=>h.lt e) hf;refine⟨⟨h.hi.kept fun k e=>f2 0 k (by decide) e,h.sa.kept hb.size fun k e=>f2 1 k (by decide) e,Ro,fun i v hv=>(h.vw i v hv).kept fun k e=>f2 (i+3) k (by omega) ⟨by rw[hv];exact nofun,e⟩,h.ds,?_,hn,h.s4⟩,?_,f2⟩
 ·show ∀ i j k,Lb { m with many:=n',D:=D',g:=g' } s.Da i k->Lb { m with many:=n',D:=D',g:=g' } s.Da j k->i=j;rw[eF];exact f1
 ·have:=XR (F:=Lb m s.Da) (a:=2) (S':=Gb m.vb m.mb g') hb hf;unfold Tb;rw[eF];exact this
end
def Yb (f:Nat->Nat×Value×Value) (i:Nat) (x:Nat×Value×Value):Nat->Nat×Value×Value:=fun j=>if j=i then x else f j
theorem qH (f:Nat->Nat×Value×Value) (i:Nat) (x:Nat×Value×Value):Yb f i x i=x:=if_pos rfl
theorem oV {f:Nat->Nat×Value×Value} (x:Nat×Value×Value) (h:j≠i):Yb f i x j=f j:=if_neg h
theorem qW {m:Ic} {f:Nat->Option Mc} {x:Nat×Value×Value} {v:Mc}:Lb { m with W:=Yb m.W i x } (Ab f i (some v))=Vf (Lb m f) (i+3) (sd x.1 x.2.1 x.2.2):=by
 funext j
 match j with
 | 0=>exact(if_neg (by omega)).symm
 | 1=>exact(if_neg (by omega)).symm
 | 2=>exact(if_neg (by omega)).symm
 | j+3=>
  unfold Vf;by_cases e:j=i
  ·subst e;rw[if_pos rfl];funext k;show(Ab f j (some v) j≠none/\sd (Yb m.W j x j).1 (Yb m.W j x j).2.1 (Yb m.W j x j).2.2 k)=_;rw[hE,qH];exact propext ⟨fun h=>h.2,fun h=>⟨nofun,h⟩⟩
  ·rw[if_neg (by omega)];funext k;show(Ab f i (some v) j≠none/\sd (Yb m.W i x j).1 (Yb m.W i x j).2.1 (Yb m.W i x j).2.2 k)=_;rw[hU _ e,oV _ e];rfl
theorem zA1 {m:Ic} {f:Nat->Option Mc}:Lb m (Ab f i none)=Vf (Lb m f) (i+3) (fun _=>False):=by
 funext j
 match j with
 | 0=>exact(if_neg (by omega)).symm
 | 1=>exact(if_neg (by omega)).symm
 | 2=>exact(if_neg (by omega)).symm
 | j+3=>
  unfold Vf;by_cases e:j=i
  ·subst e;rw[if_pos rfl];funext k;show(Ab f j none j≠none/\sd _ _ _ k)=_;rw[hE];exact propext ⟨fun h=>absurd rfl h.1,fun h=>h.elim⟩
  ·rw[if_neg (by omega)];funext k;show(Ab f i none j≠none/\sd _ _ _ k)=_;rw[hU _ e];rfl
theorem kI {m:Ic} {f:Nat->Option Mc} (h:f i=none):Wg m f i=.pointer none:=by unfold Wg;rw[h]
theorem kE {m:Ic} {f:Nat->Option Mc} {v:Mc} (h:f i=some v):Wg m f i=.pointer (some ⟨(m.W i).1,0,none⟩):=by unfold Wg;rw[h]
theorem tK {m:Ic} {f:Nat->Option Mc} {x:Nat×Value×Value} {v:Mc}:Wg { m with W:=Yb m.W i x } (Ab f i (some v)) i=.pointer (some ⟨x.1,0,none⟩):=by
 unfold Wg;rw[hE];dsimp only;rw[qH]
theorem zAJ {m:Ic} {f:Nat->Option Mc} {x:Nat×Value×Value} {o:Option Mc} (h:j≠i):Wg { m with W:=Yb m.W i x } (Ab f i o) j=Wg m f j:=by
 unfold Wg;rw[hU _ h];dsimp only;rw[oV _ h]
theorem lQ {m:Ic} {f:Nat->Option Mc} (h:i<4):Sg m f (3+i)=some (Wg m f i):=by
 unfold Sg;rw[if_neg (by omega),if_neg (by omega),if_pos (by omega)];congr 2;omega
theorem zDk {m m':Ic} {f f':Nat->Option Mc} (h1:m'.sb=m.sb) (h2:m'.vb=m.vb) (h3:∀ j,j≠i->Wg m' f' j=Wg m f j) (hj:j≠3+i):Sg m' f' j=Sg m f j:=by
 unfold Sg;rw[h1,h2];split
 ·rfl
 ·split
  ·rfl
  ·split
   ·rw[h3 _ (by omega)]
   ·rfl
theorem zDm {m:Ic} {f:Nat->Option Mc} {x:Nat×Value×Value} {o:Option Mc} (hj:j≠3+i):Sg { m with W:=Yb m.W i x } (Ab f i o) j=Sg m f j:=zDk (m:=m) (m':={ m with W:=Yb m.W i x }) (f:=f) (f':=Ab f i o) (i:=i) rfl rfl (fun _ h=>zAJ h) hj
section
variable {w w':World} {B:Nat} {m:Ic} {s:Cc}
theorem EK.cell (h:EK w B m s) (hi:i<4):w.cell? ⟨m.eb,3+i,none⟩=some (Wg m s.Da i):=((h.hi.rest (3+i)).1 (by omega)).trans (lQ hi)
theorem EK.cell0 (h:EK w B m s):w.cell? ⟨m.eb,0,none⟩=some (.pointer (some ⟨m.sb,0,none⟩)):=(h.hi.rest 0).1 (by decide)
theorem EK.Li (h:EK w B m s):w.cell? ⟨m.eb,1,none⟩=some (.pointer (some ⟨m.vb,0,none⟩)):=(h.hi.rest 1).1 (by decide)
theorem EK.xx (_h:EK w B m s):Lb m s.Da 0 m.eb:=.inl rfl
theorem zBO {X X':Nat->Option Value} {eb:Nat} {u:Value} {dv:List (aU×Value)} (h:bP w B eb X v dv) (hj:j≠2) (hX:X' j=some u) (hc:∃ u0,X j=some u0) (wu:∀ k,k≠j->X' k=X k):bP (w.setCell ⟨eb,j,none⟩ u) B eb X' v dv where
 cell:=(t_ _ _ _ _ (by simp<;>omega)).trans h.cell
 soft:=by rw[EZ];exact h.soft
 lo:=h.lo
 own:=aI h.own fun k e=>h_ _ _ _ _ fun e'=>h.off (by rw[e,e'])
 keys:=fun p hp=>aI (h.keys p hp) fun k e=>h_ _ _ _ _ fun e'=>h.vf p hp (by rw[e,e'])
 off:=h.off
 vf:=h.vf
 apart:=h.apart
 pair:=h.pair
 rest:=fun k=>⟨fun hk=>by
  by_cases e:k=j
  ·subst e;obtain⟨u0,hu⟩:=hc;rw[hX];exact u_ _ _ _ (((h.rest k).1 hk).trans hu)
  ·rw[wu k e];exact(t_ _ _ _ _ (by simp<;>omega)).trans ((h.rest k).1 hk),by rw[EZ];exact(h.rest k).2⟩
theorem EK.drop (h:EK w B m s) (hi:i<4):EK (w.setCell ⟨m.eb,3+i,none⟩ (.pointer none)) B m (nU s i)/\aG w (w.setCell ⟨m.eb,3+i,none⟩ (.pointer none)) B (Tb m s.Da) (Tb m (nU s i).Da):=by
 have hs:∀ k,k≠m.eb->(w.setCell ⟨m.eb,3+i,none⟩ (.pointer none)).heap[k]?=w.heap[k]?:=fun k hk=>h_ _ _ _ _ hk;have La:∀ i k,i≠0->Lb m s.Da i k->k≠m.eb:=fun i k hi hk e=>hi (h.ap i 0 k hk (by rw[e];exact h.xx));have hX:bP (w.setCell ⟨m.eb,3+i,none⟩ (.pointer none)) B m.eb (Sg m (Ab s.Da i none)) m.hv m.dv:=zBO h.hi (by omega) (by rw[lQ hi,kI (hE _ _ _)]) ⟨_,lQ hi⟩ fun k hk=>zDk rfl rfl (fun j hj=>by unfold Wg;rw[hU _ hj]) hk;refine⟨⟨hX,h.sa.kept (by simp) fun k e=>hs k (La 1 k (by decide) e),h.vs.kept fun k e=>hs k (La 2 k (by decide) e),fun j v hv=>?_,h.ds,?_,h.mn,h.s4.set hi none⟩,?_⟩
 ·have Ro:=EG hv;exact(h.vw j v Ro).kept fun k e=>hs k (La (j+3) k (by omega) ⟨by rw[Ro];exact nofun,e⟩)
 ·show ∀ a b k,Lb m (Ab s.Da i none) a k->Lb m (Ab s.Da i none) b k->a=b;rw[zA1];intro a b k ha hb;unfold Vf at ha hb;split at ha
  ·exact ha.elim
  ·split at hb
   ·exact hb.elim
   ·exact h.ap a b k ha hb
 ·refine⟨(r_ B w).setCell (p:=⟨m.eb,3+i,none⟩) h.hi.lo _,fun k hk hn=>⟨hs k fun e=>hn ⟨0,by rw[e];exact h.xx⟩,?_⟩⟩;rintro⟨a,ha⟩;have zh:Lb m (Ab s.Da i none) a k:=ha;rw[zA1] at zh;unfold Vf at zh;split at zh
  ·exact zh
  ·exact hn ⟨a,zh⟩
theorem EK.begun (h:EK w B m s) (hi:i<4) (h0:s.Da i=none) (hv:VW w1 w.heap.size wb m.vb s.now (.slice none 0 0) (.slice none 0 0) [] []) (hb:Below w.heap.size w w1):
  EK (w1.setCell ⟨m.eb,3+i,none⟩ (.pointer (some ⟨wb,0,none⟩))) B { m with W:=Yb m.W i (wb,.slice none 0 0,.slice none 0 0) } (dX s i)/\aG w (w1.setCell ⟨m.eb,3+i,none⟩ (.pointer (some ⟨wb,0,none⟩))) B (Tb m s.Da) (Tb { m with W:=Yb m.W i (wb,.slice none 0 0,.slice none 0 0) } (dX s i).Da):=by
 have h1:=h.on hb;have hs:∀ k,k≠m.eb->(w1.setCell ⟨m.eb,3+i,none⟩ (.pointer (some ⟨wb,0,none⟩))).heap[k]?=w1.heap[k]?:=fun k hk=>h_ _ _ _ _ hk;have La:∀ i k,i≠0->Lb m s.Da i k->k≠m.eb:=fun i k hi hk e=>hi (h.ap i 0 k hk (by rw[e];exact h.xx));have Ig:∀ k,sd wb (.slice none 0 0) (.slice none 0 0) k->w.heap.size<=k:=fun k e=>hv.low e;have hX:bP (w1.setCell ⟨m.eb,3+i,none⟩ (.pointer (some ⟨wb,0,none⟩))) B m.eb (Sg { m with W:=Yb m.W i (wb,.slice none 0 0,.slice none 0 0) } (Ab s.Da i (some ⟨aS s.x.rows,s.now,[],[]⟩))) m.hv m.dv:=zBO h1.hi (by omega) (by
   rw[lQ hi,tK]) ⟨_,lQ hi⟩ fun k hk=>zDm hk
 refine⟨⟨hX,h1.sa.kept (by simp) fun k e=>hs k (La 1 k (by decide) e),h1.vs.kept fun k e=>hs k (La 2 k (by decide) e),fun j v hj=>?_,h.ds,?_,h.mn,h.s4.set hi _⟩,?_⟩
 ·have Td:Ab s.Da i (some ⟨aS s.x.rows,s.now,[],[]⟩) j=some v:=hj;show VW _ B (Yb m.W i _ j).1 m.vb v.n (Yb m.W i _ j).2.1 (Yb m.W i _ j).2.2 v.ba v.ga;by_cases e:j=i
  ·subst e;rw[hE] at Td;cases Td;rw[qH];refine(hv.down h.tk).kept fun k e=>hs k fun e'=>?_;have:=Ig k e;have:=h.lt h.xx;omega
  ·rw[hU _ e] at Td;rw[oV _ e];exact(h1.vw j v Td).kept fun k e=>hs k (La (j+3) k (by omega) ⟨by rw[Td];exact nofun,e⟩)
 ·show ∀ a b k,Lb { m with W:=Yb m.W i (wb,.slice none 0 0,.slice none 0 0) } (Ab s.Da i _) a k->Lb { m with W:=Yb m.W i (wb,.slice none 0 0,.slice none 0 0) } (Ab s.Da i _) b k->a=b;rw[qW];intro a b k ha Sd;unfold Vf at ha Sd;split at ha
  ·split at Sd
   ·rename_i e1 e2;rw[e1,e2]
   ·have:=Ig k ha;have:=h.lt Sd;omega
  ·split at Sd
   ·have:=Ig k Sd;have:=h.lt ha;omega
   ·exact h.ap a b k ha Sd
 ·refine⟨(hb.mono h.tk).setCell (p:=⟨m.eb,3+i,none⟩) h.hi.lo _,fun k hk hn=>⟨(hs k fun e=>hn ⟨0,by rw[e];exact h.xx⟩).trans (hb.block k hk),?_⟩⟩;rintro⟨a,ha⟩;have zh:Lb { m with W:=Yb m.W i (wb,.slice none 0 0,.slice none 0 0) } (Ab s.Da i (some ⟨aS s.x.rows,s.now,[],[]⟩)) a k:=ha;rw[qW] at zh;unfold Vf at zh;split at zh
  ·have:=Ig k zh;omega
  ·exact hn ⟨a,zh⟩
def Ez (B:Nat) (m:Ic) (s:Cc) (n:Nat):Sn:=⟨n,B,m.vb,m.mb,m.many,s.now,m.D,m.g,s.R,fun _=>False⟩
def Gs (m:Ic) (i k:Nat):Prop:=sd (m.W i).1 (m.W i).2.1 (m.W i).2.2 k∨Gb m.vb m.mb m.g k
theorem EK.pv (h:EK w B m s) (ok:Ed s) {v:Mc} (hv:s.Da i=some v) (hc:s.c<=190):PV w B (m.W i).1 (Gs m i) v.P (Ez B m s v.n) v.ba v.ga:=by
 have ho:=ok.Da i v hv;have hn:=h.mn;refine⟨_,_,h.vs,h.vw i v hv,rfl,fun k h1 h2=>?_,ho.Rk,by show m.many<=1000000;omega,fun key=>by have:=ok.rl key;have:=ok.nc;show(s.R key).length<=1000000;omega,ho.ov,h.tk⟩;have:=h.ap (i+3) 2 k ⟨by rw[hv];exact nofun,h2⟩ h1;omega
theorem EK.Aw (h:EK w B m s) {v:Mc} (hv:s.Da i=some v) (hi:i<4) (hp:PV w' B (m.W i).1 S' v.P (Ez B m s v.n) ba ga) (jh:Below B w w') (Zb:∀ j,j<w.heap.size->¬Gs m i j->j≠rb->w'.heap[j]?=w.heap[j]?/\¬S' j) (lg:¬Tb m s.Da rb):
  ∃ x,x.1=(m.W i).1/\EK w' B { m with W:=Yb m.W i x } (jU s i v ba ga)/\(∀ j,j<w.heap.size->¬Tb m s.Da j->j≠rb->(w'.heap[j]?=w.heap[j]?/\¬Tb { m with W:=Yb m.W i x } (jU s i v ba ga).Da j))/\∀ j,Tb { m with W:=Yb m.W i x } (jU s i v ba ga).Da j->Tb m s.Da j∨S' j:=by
 obtain⟨cv,rv,Kk,bn,hS,jf,_⟩:=hp;subst hS;have fw:Lb m s.Da (i+3)=sd (m.W i).1 (m.W i).2.1 (m.W i).2.2:=by
  funext k;exact propext ⟨fun h=>h.2,fun h=>⟨by rw[hv];exact nofun,h⟩⟩
 have ic:∀ a k,a≠i+3->a≠2->Lb m s.Da a k->w'.heap[k]?=w.heap[k]?/\¬(sd (m.W i).1 cv rv k∨Gb m.vb m.mb m.g k):=fun a k h1 h2 hk=>by
  refine Zb k (h.lt hk) ?_ fun e=>lg ⟨a,e▸hk⟩;rintro(e|e)
  ·exact h1 (h.ap a (i+3) k hk (by rw[fw];exact e))
  ·exact h2 (h.ap a 2 k hk e)
 have hX:Sg { m with W:=Yb m.W i ((m.W i).1,cv,rv) } (Ab s.Da i (some ⟨v.P,v.n,ba,ga⟩))=Sg m s.Da:=by
  funext j;by_cases e:j=3+i
  ·subst e;rw[lQ hi,lQ hi,tK,kE hv]
  ·exact zDm e
 refine⟨((m.W i).1,cv,rv),rfl,⟨?_,h.sa.kept jh.size fun k e=>(ic 1 k (by omega) (by decide) e).1,Kk,fun j u hj=>?_,h.ds,?_,h.mn,h.s4.set hi _⟩,?_,?_⟩
 ·show bP w' B m.eb (Sg { m with W:=Yb m.W i ((m.W i).1,cv,rv) } (Ab s.Da i (some ⟨v.P,v.n,ba,ga⟩))) m.hv m.dv;rw[hX];exact h.hi.kept fun k e=>(ic 0 k (by omega) (by decide) e).1
 ·have Td:Ab s.Da i (some ⟨v.P,v.n,ba,ga⟩) j=some u:=hj;show VW _ B (Yb m.W i _ j).1 m.vb u.n (Yb m.W i _ j).2.1 (Yb m.W i _ j).2.2 u.ba u.ga;by_cases e:j=i
  ·subst e;rw[hE] at Td;cases Td;rw[qH];exact bn
  ·rw[hU _ e] at Td;rw[oV _ e];exact(h.vw j u Td).kept fun k e'=>(ic (j+3) k (by omega) (by omega) ⟨by rw[Td];exact nofun,e'⟩).1
 ·show ∀ a b k,Lb { m with W:=Yb m.W i ((m.W i).1,cv,rv) } (Ab s.Da i (some ⟨v.P,v.n,ba,ga⟩)) a k->Lb { m with W:=Yb m.W i ((m.W i).1,cv,rv) } (Ab s.Da i (some ⟨v.P,v.n,ba,ga⟩)) b k->a=b;rw[qW];have key:∀ a k,a≠i+3->Lb m s.Da a k->¬sd (m.W i).1 cv rv k:=fun a k ha hk e=>by
   by_cases e2:a=2
   ·subst e2;exact jf k hk e
   ·exact(ic a k ha e2 hk).2 (.inl e)
  intro a b k ha Sd;unfold Vf at ha Sd;split at ha
  ·split at Sd
   ·rename_i e1 e2;rw[e1,e2]
   ·rename_i e1 e2;exact absurd ha (key b k e2 Sd)
  ·split at Sd
   ·rename_i e1 e2;exact absurd Sd (key a k e1 ha)
   ·exact h.ap a b k ha Sd
 ·intro k hk hn cy;obtain⟨q1,q2⟩:=Zb k hk (fun e=>hn (e.elim (fun e=>⟨i+3,by rw[fw];exact e⟩) fun e=>⟨2,e⟩)) cy;refine⟨q1,?_⟩;rintro⟨a,ha⟩;have zh:Lb { m with W:=Yb m.W i ((m.W i).1,cv,rv) } (Ab s.Da i (some ⟨v.P,v.n,ba,ga⟩)) a k:=ha;rw[qW] at zh;unfold Vf at zh;split at zh
  ·exact q2 (.inl zh)
  ·exact hn ⟨a,zh⟩
 ·rintro k ⟨a,ha⟩;have zh:Lb { m with W:=Yb m.W i ((m.W i).1,cv,rv) } (Ab s.Da i (some ⟨v.P,v.n,ba,ga⟩)) a k:=ha;rw[qW] at zh;unfold Vf at zh;split at zh
  ·exact .inr (.inl zh)
  ·exact .inl ⟨a,zh⟩
theorem EK.view (h:EK w B m s) {v:Mc} (hv:s.Da i=some v) (hi:i<4) (hp:PV w' B (m.W i).1 S' v.P (Ez B m s v.n) ba ga) (Zb:aG w w' B (Gs m i) S'):
  ∃ x,x.1=(m.W i).1/\EK w' B { m with W:=Yb m.W i x } (jU s i v ba ga)/\aG w w' B (Tb m s.Da) (Tb { m with W:=Yb m.W i x } (jU s i v ba ga).Da):=by
 obtain⟨x,a,b,c,_⟩:=h.Aw (rb:=w.heap.size) hv hi hp Zb.Ia (fun j hj hn _=>Zb.Ma j hj hn) fun ⟨a,e⟩=>by have:=h.lt e;omega
 exact⟨x,a,b,Zb.Ia,fun j hj hn=>c j hj hn (by omega)⟩
end
def zPs (s:Cc) (m' m:Ic):Prop:=m'.db=m.db/\∀ j,s.Da j≠none->(m'.W j).1=(m.W j).1
def Je (w w':World) (B:Nat) (m:Ic) (s s':Cc):Prop:=∃ m',EK w' B m' s'/\m'.eb=m.eb/\zPs s m' m/\aG w w' B (Tb m s.Da) (Tb m' s'.Da)
section
variable {w w' w1:World} {B:Nat} {m m1:Ic} {s s1 s':Cc}
theorem EK.stay (h:EK w B m s) (hb:Below w.heap.size w w'):Je w w' B m s s:=⟨m,h.on hb,rfl,⟨rfl,fun _ _=>rfl⟩,.on h.tk hb⟩
end
end
section
open Go.RowKit Go.Joins
attribute [local go_sem ↓] Go.wp_at_zero Go.wp_at_succ
theorem lM (i:Nat) (hi:i<4) (w:World):Calls p_ 33 #[.int .i64 (i:Int)] w fun e w'=>e=.returned (.bool true)/\w'=w:=by
 have h1:(0:Int)<=(i:Int):=by omega
 have h2:(i:Int)<4:=by omega
 go_enter func33,ntmps33;go_wp2;go_ret;exact⟨rfl,rfl⟩
theorem xR {vb:Nat} {since:Int} {cv rv:Value} (w:World) (h:VW w B wb vb since cv rv ba ga):
  Calls p_ 37 #[.pointer (some ⟨wb,0,none⟩)] w fun e w'=>e=.returned (.int .i64 since)/\w'=w:=by
 have c1:=h.c1;clear h;go_enter func37,ntmps37;go_wp2;go_ret;exact⟨rfl,rfl⟩
section
variable {B:Nat} {m:Ic} {s:Cc}
theorem mT (w:World) (h:EK w B m s) (hi:i<4) {v:Mc} (hv:s.Da i=some v):
  Calls p_ 19 #[.pointer (some ⟨m.eb,0,none⟩),.int .i64 (i:Int)] w fun e w'=>e=.returned (.tuple #[.pointer (some ⟨(m.W i).1,0,none⟩),.nilIface])/\w'=w:=by
 have c:=h.cell hi;rw[kE hv] at c;have h1:(0:Int)<=(i:Int):=by omega
 have h2:(i:Int)<4:=by omega
 clear h;go_enter func19,ntmps19;go_wp2_with fail;refine(lM i hi w).mono ?_;rintro e w1 ⟨rfl,rfl⟩;go_wp2;go_ret2;exact⟨rfl,rfl⟩
theorem pC (w:World) (h:EK w B m s) (hi:i<4) (hv:s.Da i=none):
  Calls p_ 19 #[.pointer (some ⟨m.eb,0,none⟩),.int .i64 (i:Int)] w fun e w'=>e=.returned (.tuple #[.pointer none,pa 7])/\w'=w:=by
 have c:=h.cell hi;rw[kI hv] at c;have h1:(0:Int)<=(i:Int):=by omega
 have h2:(i:Int)<4:=by omega
 have HE:Hid (pa 7=.iface 77 (.int .i64 7)):=rfl;rw[HE.out];clear h;go_enter func19,ntmps19;go_wp2_with fail;refine(lM i hi w).mono ?_;rintro e w1 ⟨rfl,rfl⟩;go_wp2;go_ret2;exact⟨rfl,rfl⟩
theorem zMY (w:World) (h:EK w B m s):Calls p_ 23 #[.pointer (some ⟨m.eb,0,none⟩)] w fun e w'=>e=.returned (.int .i64 (s.now:Int))/\w'=w:=by
 have c:=h.Li;have HN:=aa (XS w h.vs);clear h;go_enter func23,ntmps23;go_wp2_with fail;refine HN.out.mono ?_;rintro e w1 ⟨rfl,rfl⟩;go_wp2;go_ret;exact⟨rfl,rfl⟩
theorem zBq (w:World) (h:EK w B m s) (hr:s.x.rows.length<=1000):Calls p_ 26 #[.pointer (some ⟨m.eb,0,none⟩)] w fun e w'=>∃ v,e=.returned v/\Sb w' w.heap.size v (aS s.x.rows)/\Below w.heap.size w w':=by
 have c:=h.cell0;have HN:=aa (zBm w h.sa hr);clear h;go_enter func26,ntmps26;go_wp2_with fail;refine HN.out.mono ?_;rintro e w1 ⟨v,rfl,h1,h2⟩;go_wp2;go_ret;exact⟨v,rfl,h1,h2⟩
def EF (v i:Value):Sem Value:=Instr.index 85 v i
theorem zMW (v i:Value):Instr.index 85 v i=EF v i:=rfl
attribute [local go_sem ↓] zMW
theorem zL8 (a b c d:Value) (W:World):(EF (.agg #[a,b,c,d]) (.int .i64 0)).run p_ W=.ok a W:=by kernel_rfl
theorem zMe (a b c d:Value) (W:World):(EF (.agg #[a,b,c,d]) (.int .i64 1)).run p_ W=.ok b W:=by kernel_rfl
theorem zMx (a b c d:Value) (W:World):(EF (.agg #[a,b,c,d]) (.int .i64 2)).run p_ W=.ok c W:=by kernel_rfl
theorem zLR (a b c d:Value) (W:World):(EF (.agg #[a,b,c,d]) (.int .i64 3)).run p_ W=.ok d W:=by kernel_rfl
def Gc (s:Cc):Nat->Nat
 | 0=>s.now
 | k+1=>minS (Gc s k) (s.Da k)
theorem zIg (s:Cc):Gc s 4=cI s:=rfl
theorem zE6 (s:Cc):∀ k,Gc s k<=s.now
 | 0=>n_ _
 | k+1=>BZ (lB _ _) (zE6 s k)
theorem wN (w:World) (h:EK w B m s):Calls p_ 44 #[.pointer (some ⟨m.eb,0,none⟩)] w fun e w'=>e=.returned (.int .i64 (cI s:Int))/\w'=w:=by
 have c1:=h.Li;have c3:=h.cell (i:=0) (by decide);have c4:=h.cell (i:=1) (by decide);have c5:=h.cell (i:=2) (by decide);have c6:=h.cell (i:=3) (by decide);have HN:=aa (XS w h.vs);have HW:Hid (∀ i v,s.Da i=some v->Calls p_ 37 #[.pointer (some ⟨(m.W i).1,0,none⟩)] w fun e w'=>e=.returned (.int .i64 (v.n:Int))/\w'=w):=fun i v hv=>xR w (h.vw i v hv);have HO:=aa (zIg s);have fe:=zE6 s;have mq:=aa fe;clear h fe;generalize cI s=old at *;go_enter func44,ntmps44;go_wp2_with fail;refine HN.out.mono ?_;rintro e w1 ⟨rfl,rfl⟩;go_wp2
 go_loopw [3,5,15] (fun nv _ iv wr=>∃ k:Nat,k<=4/\iv=.int .i64 (k:Int)/\nv=.int .i64 (Gc s k:Int)/\wr=w1) (fun _ _ iv _=>4-(intOf iv).toNat)
 case atStart=>exact⟨0,by omega,rfl,rfl,rfl⟩
 case round=>
  obtain⟨k,hk,rfl,rfl,rfl⟩:=hrel;have AI:k=4∨k=0∨k=1∨k=2∨k=3:=by omega
  rcases AI with rfl|rfl|rfl|rfl|rfl
  ·rw[HO.out];go_wp2;go_ret;exact⟨rfl,rfl⟩
  ·have fm:=zL8
   cases hs:s.Da 0 with
   | none=>
    rw[kI hs];have ho:Gc s (0+1)=Gc s 0:=by show minS (Gc s 0) (s.Da 0)=_;rw[hs];rfl
    have Pd:=aa ho;clear ho;generalize Gc s 0=o0 at *;go_wp2_with fail;exact⟨⟨0+1,by omega,by go_num,by rw[Pd.out],by trivial⟩,by simp[intOf]⟩
   | some v=>
    rw[kE hs];have ho:Gc s (0+1)=min (Gc s 0) v.n:=by show minS (Gc s 0) (s.Da 0)=_;rw[hs];rfl
    have Pd:=aa ho;clear ho;have HS:=aa (HW.out 0 v hs);generalize Gc s 0=o0 at *;go_wp2_with fail;refine HS.out.mono ?_;rintro e w2 ⟨rfl,Lc⟩;rw[Lc];clear Lc;go_wp2_with fail;exact⟨⟨0+1,by omega,by go_num,by rw[Pd.out];congr 1;omega,by trivial⟩,by simp[intOf]⟩
  ·have fm:=zMe
   cases hs:s.Da 1 with
   | none=>
    rw[kI hs];have ho:Gc s (1+1)=Gc s 1:=by show minS (Gc s 1) (s.Da 1)=_;rw[hs];rfl
    have Pd:=aa ho;clear ho;generalize Gc s 1=o0 at *;go_wp2_with fail;exact⟨⟨1+1,by omega,by go_num,by rw[Pd.out],by trivial⟩,by simp[intOf]⟩
   | some v=>
    rw[kE hs];have ho:Gc s (1+1)=min (Gc s 1) v.n:=by show minS (Gc s 1) (s.Da 1)=_;rw[hs];rfl
    have Pd:=aa ho;clear ho;have HS:=aa (HW.out 1 v hs);generalize Gc s 1=o0 at *;go_wp2_with fail;refine HS.out.mono ?_;rintro e w2 ⟨rfl,Lc⟩;rw[Lc];clear Lc;go_wp2_with fail;exact⟨⟨1+1,by omega,by go_num,by rw[Pd.out];congr 1;omega,by trivial⟩,by simp[intOf]⟩
  ·have fm:=zMx
   cases hs:s.Da 2 with
   | none=>
    rw[kI hs];have ho:Gc s (2+1)=Gc s 2:=by show minS (Gc s 2) (s.Da 2)=_;rw[hs];rfl
    have Pd:=aa ho;clear ho;generalize Gc s 2=o0 at *;go_wp2_with fail;exact⟨⟨2+1,by omega,by go_num,by rw[Pd.out],by trivial⟩,by simp[intOf]⟩
   | some v=>
    rw[kE hs];have ho:Gc s (2+1)=min (Gc s 2) v.n:=by show minS (Gc s 2) (s.Da 2)=_;rw[hs];rfl
    have Pd:=aa ho;clear ho;have HS:=aa (HW.out 2 v hs);generalize Gc s 2=o0 at *;go_wp2_with fail;refine HS.out.mono ?_;rintro e w2 ⟨rfl,Lc⟩;rw[Lc];clear Lc;go_wp2_with fail;exact⟨⟨2+1,by omega,by go_num,by rw[Pd.out];congr 1;omega,by trivial⟩,by simp[intOf]⟩
  ·have fm:=zLR
   cases hs:s.Da 3 with
   | none=>
    rw[kI hs];have ho:Gc s (3+1)=Gc s 3:=by show minS (Gc s 3) (s.Da 3)=_;rw[hs];rfl
    have Pd:=aa ho;clear ho;generalize Gc s 3=o0 at *;go_wp2_with fail;exact⟨⟨3+1,by omega,by go_num,by rw[Pd.out],by trivial⟩,by simp[intOf]⟩
   | some v=>
    rw[kE hs];have ho:Gc s (3+1)=min (Gc s 3) v.n:=by show minS (Gc s 3) (s.Da 3)=_;rw[hs];rfl
    have Pd:=aa ho;clear ho;have HS:=aa (HW.out 3 v hs);generalize Gc s 3=o0 at *;go_wp2_with fail;refine HS.out.mono ?_;rintro e w2 ⟨rfl,Lc⟩;rw[Lc];clear Lc;go_wp2_with fail;exact⟨⟨3+1,by omega,by go_num,by rw[Pd.out];congr 1;omega,by trivial⟩,by simp[intOf]⟩
end
end
theorem zCK {x:bg} (h:fA x) (hl:x.d.left=-1) (l:List ma):(Ha x l).1=Uc x l/\(Ha x l).2.d.left=-1/\fA (Ha x l).2/\(Ha x l).2.d.now.length=x.d.now.length/\(Ha x l).2.rows=(if Uc x l=0 then aK x.rows l else x.rows):=by
 obtain⟨n1,n2⟩:=h.never hl l;obtain⟨c1,c2⟩:=h.Gh l;refine⟨n1,n2,?_,c1,?_⟩
 ·rcases c2 with⟨_,_,h3,_⟩|⟨_,_,h3⟩|⟨h1,h2,_⟩
  ·exact h3
  ·rw[h3];exact h
  ·rw[n1,h2] at h1;cases h1
 ·rcases c2 with⟨_,h2,_,h4,_⟩|⟨_,h2,h3⟩|⟨h1,h2,_⟩
  ·rw[h4,if_pos h2]
  ·rw[h3,if_neg h2]
  ·rw[n1,h2] at h1;cases h1
theorem zOn {x:bg} (h:fA x) (hl:x.d.left=-1):(zc x).1=0/\(zc x).2.d.left=-1/\fA (zc x).2/\(zc x).2.d.now.length=x.d.now.length/\(zc x).2.rows=x.rows:=by
 obtain⟨n1,n2⟩:=h.yg hl;obtain⟨c1,c2,c3⟩:=h.gr;refine⟨n1,n2,?_,c1,c2⟩;rcases c3 with⟨_,h3,_⟩|⟨h1,_⟩
 ·exact h3
 ·rw[n1] at h1;cases h1
theorem zNY {x:bg} (h:fA x) (hl:x.d.left=-1) (l:List ma):(Ha x l).2.used=if Uc x l=0 then (if x.d.now.length-50-x.used<l.length+1 then 0 else x.used)+l.length+1 else x.used:=by
 obtain⟨n1,n2⟩:=h.never hl l;rcases(h.Gh l).2 with⟨_,h2,_,_,h5⟩|⟨_,h2,h3⟩|⟨h1,h2,_⟩
 ·rw[h5,if_pos h2]
 ·rw[h3,if_neg h2]
 ·rw[n1,h2] at h1;cases h1
theorem zIn {x:bg} (h:fA x) (hl:x.d.left=-1):(zc x).2.used=0:=by
 obtain⟨n1,_⟩:=h.yg hl;rcases h.gr.2.2 with⟨_,_,h5⟩|⟨h1,_⟩
 ·exact h5
 ·rw[n1] at h1;cases h1
section
open Go.RowKit Go.Joins
theorem zN5 {x:bg} {TR:Nat->Prop} (l:List ma) (ao:Option Addr) (cap:Nat) (w:World) (hg:fA x) (hl:x.d.left=-1) (hn:x.d.now.length=n) (h:sq w B rb TR (aS x.rows) x.used (n-50)) (hB:B<=w.heap.size) (hd:bW w ao l) (hk:∀ c∈l,c.key.size<=1000) (Bt:l.length<=1000) (h2:n<=200):
  Calls p_ 42 #[.pointer (some ⟨rb,0,none⟩),.slice ao l.length cap] w fun e w'=>e=.returned (.int .i64 (Uc x l:Nat))/\Hz w w' B rb TR (aS (Ha x l).2.rows) (Ha x l).2.used (n-50)/\(Uc x l≠0->Below w.heap.size w w'):=by
 have ee:=cQ.Mi hg;have Ht:=cQ.us hg;have e1:jR (aS x.rows) (n-50) l=Uc x l:=by rw[<-hn];exact zOv (cQ.we hg) l
 have Yn:(aS x.rows).length=x.rows.length:=by unfold aS;rw[RZ]
 have:=zND l ao cap w h hB hd hk Bt (by omega) (by rw[<-hn];exact Ht) (by omega);rw[e1] at this;have e2:aS (Ha x l).2.rows=if Uc x l=0 then iB (aS x.rows) l else aS x.rows:=by
  rw[(zCK hg hl l).2.2.2.2];split
  ·exact CS (cQ.we hg) l
  ·rfl
 have e3:(Ha x l).2.used=if Uc x l=0 then xZ x.used (n-50) l.length else x.used:=by
  rw[zNY hg hl l,hn];rfl
 rw[e2,e3];exact this
structure Fit (s:Cc) (n:Nat):Prop where
 ok:Ed s
 s4:S4 s
 left:s.x.d.left=-1
 len:s.x.d.now.length=n
theorem Fit.ended {s:Cc} (h:Fit s n) (hi:i<4):Fit (Gd s i) n:=⟨h.ok.ended h.s4 i,h.s4.set hi none,h.left,h.len⟩
theorem Fit.begin {s:Cc} (h:Fit s n) (hi:i<4):Fit (dX s i) n:=⟨h.ok.begin i,h.s4.set hi _,h.left,h.len⟩
theorem Fit.TW {s:Cc} (h:Fit s n) (hi:i<4):Fit (Ac s i).2 n/\(Ac s i).2.c<=s.c+1:=by
 unfold Ac
 cases hv:s.Da i with
 | none=>exact⟨h,I4 _⟩
 | some v=>
  dsimp only;split
  ·exact⟨h.ended hi,I4 _⟩
  ·split
   ·exact⟨h.ended hi,I4 _⟩
   ·obtain⟨hlen,Ao⟩:=h.ok.g.Gh v.ba;obtain⟨n1,n2⟩:=h.ok.g.never h.left v.ba;split
    ·rename_i La;have hx:(Ha s.x v.ba).2=s.x:=by
      rcases Ao with⟨a,_⟩|⟨_,_,c⟩|⟨a,b,_⟩
      ·exact absurd a La
      ·exact c
      ·rw[n1,b] at a;cases a
     refine⟨⟨?_,h.s4,?_,?_⟩,I4 _⟩
     ·show Ed { s with x:=(Ha s.x v.ba).2 };rw[hx];exact h.ok.store h.ok.g rfl
     ·show(Ha s.x v.ba).2.d.left=-1;rw[hx];exact h.left
     ·show(Ha s.x v.ba).2.d.now.length=n;rw[hx];exact h.len
    ·rename_i hz;have hz':(Ha s.x v.ba).1=0:=by simpa using hz
     have hf:Fit (Le s v.ba) n:=⟨h.ok.add hz',h.s4,n2,hlen.trans h.len⟩;exact⟨hf.ended hi,n_ _⟩
theorem Fit.abort {s:Cc} (h:Fit s n) (hi:i<4):Fit (dS s i).2 n/\(dS s i).2.c=s.c:=by
 unfold dS
 cases s.Da i with
 | none=>exact⟨h,rfl⟩
 | some v=>exact⟨h.ended hi,rfl⟩
theorem Fit.ER {s:Cc} (h:Fit s n):Fit (Jj s) n:=⟨h.ok.ER h.s4,h.s4,h.left,h.len⟩
theorem Fit.gr {s:Cc} (h:Fit s n):Fit (ir s) n:=by
 obtain⟨a,b⟩:=h.ok.g.yg h.left;exact⟨h.ok.gr a,h.s4,b,h.ok.g.gr.1.trans h.len⟩
end
end Go.Proofs.YtcfjimdfegejaaaGreatDoor
