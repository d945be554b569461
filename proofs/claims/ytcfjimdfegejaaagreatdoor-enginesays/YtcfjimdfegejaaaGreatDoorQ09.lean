import Derived.Test.YtcfjimdfegejaaaGreatDoorQ04
import Derived.Test.YtcfjimdfegejaaaGreatDoorQ06
import Derived.Test.YtcfjimdfegejaaaGreatDoorQ07
set_option maxHeartbeats 8000000
set_option maxRecDepth 100000
namespace Go.Proofs.YtcfjimdfegejaaaGreatDoor
open Act renaming eval→Q9,put→Y3
open Addr renaming add_lit→F6
open _root_.Array renaming length_toList→DZ,toList_append→f_
open Bool renaming and_comm→O9,and_eq_true→E1,false_eq_true→J3
open Builtin renaming copy_→X4,zeroCells→KZ
open Go.WideShapes renaming add_plain→C1
open Int renaming natCast_nonneg→P1
open IntKind renaming i64→G0,wrap_i64→YZ
open Lib renaming maxS→T3,trimPrefix→Z3,wpList_append_run→U5
open List renaming append_assoc→M5,append_nil→T1,drop_eq_nil_of_le→M0,drop_succ_cons→A4,filter_append→J6,filter_congr→T4,filter_cons→WZ,filter_eq_nil_iff→C5,filter_eq_self→C6,filter_filter→B4,flatMap_cons→J5,getElem?_drop→C4,getElem?_eq_getElem→VY,getElem?_eq_none→A3,getElem?_eq_some_iff→Z0,getElem_mem→MZ,length_append→YY,length_cons→PZ,length_drop→UZ,length_eq_zero_iff→E0,length_filter_le→A7,length_nil→F3,length_pos_iff→K3,length_take→XY,length_take_le→D6,map_append→X1,map_cons→U2,mem_append→Q0,mem_cons→L2,mem_cons_of_mem→D1,mem_filter→A2,mem_map→Z2,mem_of_mem_drop→A1,mem_range→R9,mem_singleton→GZ,pairwise_cons→L3,pairwise_iff_getElem→J9,pairwise_map→M8,range→T0,sum_cons→Y7,take_append_drop→J2,take_append_of_le_length→E2,take_left'→X6,take_length→O1,take_of_length_le→LZ,take_succ_cons→A6,take_succ_eq_append_getElem→ZY
open Nat renaming eq_or_lt_of_le→I6,le_trans→BZ,lt_of_lt_of_le→UY,lt_or_ge→M3,min→Y6,min_def→M6,zero_add→TZ,zero_le→OZ
open Go.Proofs.Tryz renaming prog→XZ
open Value renaming agg→A0,bool→D5,ownBlock→VZ,pointer→IZ,slice→FZ
open World renaming block_lt_of_cell?→AZ,cell?_setCells_out→L9,frozen?_setCell→EZ,ownsRow→F2,ownsRow_nil→M1
open Go.Proofs.Tryz
open Obj renaming cells→o_
open World renaming cell?_of_block→b_,cell?_setCell_other→t_,cell?_setCell_same→u_,ownsRow.lt→l_
open Go.RowKit.Below renaming heap_setCell→h_,refl→r_
open Nat renaming le_refl→n_
open Go.Proofs.Tryz renaming prog→p_
open Value renaming string→v_,int→i_
open Go.Joins renaming below_alloc1→a_
variable {vs:List yb} {x:yb} {n d now since:Int} {F l P ga:List (BA×BA)} {key:BA} {k B vb mb wb B2 B0 i size m n0:Nat} {c:ma} {R:BA->List yb} {s r:BA×BA} {D:DataW Value} {g:BA->Value} {w w' w1 W w2 T2 w6:World} {cv rv Og mv v Rs:Value} {ba mk:List ma} {xs:List Value} {e:Ending} {S:Nat->Prop} {ks:List BA} {f:BA->Bool} {ss:List (List UInt8)}
section
open Go.RowKit Go.Joins
theorem zD8 (h:n<x.ed):bE (vs++[x]) n=bE vs n:=by
 have e:dZ (vs++[x]) n=dZ vs n:=by
  unfold dZ;rw[List.reverse_append,List.reverse_singleton,List.singleton_append,List.find?_cons,decide_eq_false (by omega)]
 unfold bE;rw[e]
theorem tQ {d n:Int} (h:n<d) (key:BA):∀ (l:List ma) (R:BA->List yb),bE (cW R d l key) n=bE (R key) n
 | [],R=>rfl
 | c::l,R=>by
  have e:cW R d (c::l)=cW (Ec R c.key (R c.key++[⟨d,c.val,c.gone⟩])) d l:=rfl;rw[e,tQ h key l];by_cases hk:key=c.key
  ·subst hk;rw[bH];exact zD8 h
  ·rw[aW _ _ hk]
theorem zEj (h:F.Pairwise fun a b=>jb b.1 a.1=false) (hn:(F.map (·.1)).Nodup):F.Pairwise fun a b=>jb a.1 b.1=true:=by
 have yl:F.Pairwise fun a b=>a.1≠b.1:=M8.1 hn;refine(h.and yl).imp fun {a b} h'=>?_;rcases jZ a.1 b.1 with k|k|k
 ·exact k
 ·exact absurd k h'.2
 ·rw[h'.1] at k;cases k
theorem zFo:∀ {F G:List (BA×BA)},F.Pairwise (fun a b=>jb a.1 b.1=true)->G.Pairwise (fun a b=>jb a.1 b.1=true)->(∀ r,r∈F↔r∈G)->F=G
 | [],[],_,_,_=>rfl
 | [],b::G,_,_,h=>by have:=(h b).2 (by simp);cases this
 | a::F,[],_,_,h=>by have:=(h a).1 (by simp);cases this
 | a::F,b::G,hF,hG,h=>by
  rw[L3] at hF hG;have e:a=b:=by
   rcases L2.1 ((h a).1 (by simp)) with e|h1
   ·exact e
   ·rcases L2.1 ((h b).2 (by simp)) with e|h2
    ·exact e.symm
    ·have:=kP (hG.1 a h1);rw[hF.1 b h2] at this;cases this
  subst e;refine congrArg (a::·) (zFo hF.2 hG.2 fun r=>?_);have:=h r;constructor
  ·intro hr;rcases L2.1 (this.1 (D1 _ hr)) with e|h'
   ·subst e;have:=hF.1 r hr;rw[bA] at this;cases this
   ·exact h'
  ·intro hr;rcases L2.1 (this.2 (D1 _ hr)) with e|h'
   ·subst e;have:=hG.1 r hr;rw[bA] at this;cases this
   ·exact h'
theorem zI8 (l:List (BA×BA)) (key:BA):(jS l key).length<=1:=by
 unfold jS;have:∀ (l:List (BA×BA)) (R:BA->List yb),(R key).length<=1->((l.foldl (fun R r=>Ec R r.1 [⟨0,r.2,false⟩]) R) key).length<=1:=by
  intro l
  induction l with
  | nil=>exact fun R h=>h
  | cons r l ih=>
   intro R h;refine ih _ ?_;by_cases e:key=r.1
   ·simp[Ec,e]
   ·simp[Ec,e];exact h
 exact this l _ (by simp)
def Ib (l:List (BA×BA)) (key:BA):BA×Bool:=match l.find? fun r=>bc r.1 key with
 | some r=>(r.2,true)
 | none=>(⟨#[]⟩,false)
theorem ES (h:∀ r∈l,bc r.1 key=false):Ib l key=(⟨#[]⟩,false):=by
 unfold Ib;rw[List.find?_eq_none.2 fun r hr=>by rw[h r hr];simp]
theorem zPa (hk:k<l.length) (h:∀ r∈l.take k,bc r.1 key=false) (he:bc l[k].1 key=true):Ib l key=(l[k].2,true):=by
 unfold Ib;have:l.find? (fun r=>bc r.1 key)=some l[k]:=by
  rw[List.find?_eq_some_iff_append];refine⟨he,l.take k,l.drop (k+1),?_,fun r hr=>by rw[h r hr];rfl⟩;rw[<-List.drop_eq_getElem_cons hk,J2]
 rw[this]
theorem zNF (l:List (BA×BA)) (b off cap:Nat) (key:BA) (w:World) (hl:iO w b off l) (hn:l.length<=1000000):
  Calls p_ 128 #[.slice (some ⟨b,off,none⟩) l.length cap,.string key] w fun e w'=>e=.returned (.tuple #[.string (Ib l key).1,.bool (Ib l key).2])/\Below w.heap.size w w':=by
 go_enter func128,ntmps128;go_wp2
 go_loopw [6] (fun i wr=>∃ k:Nat,k<=l.length/\i=.int .i64 k/\(∀ r∈l.take k,bc r.1 key=false)/\Below w.heap.size w wr) (fun i _=>l.length-(intOf i).toNat)
 case atStart=>exact⟨0,OZ _,rfl,by simp,r_ _ _⟩
 case round=>
  obtain⟨k,hk,rfl,xe,hB⟩:=hrel;have Rg:=aa xe;clear xe;by_cases Aa:k<l.length
  ·have Za:(k:Int)<(l.length:Int):=by omega
   obtain⟨c0,c1⟩:=gW hB hl k Aa
   cases hq:bc l[k].1 key with
   | true=>
    have q1:(l[k].1.toList==key.toList)=true:=hq;have HV:=aa (zPa Aa Rg.out hq);clear hq;go_wp2;go_ret2;rw[HV.out];exact⟨rfl,hB⟩
   | false=>
    have q1:(l[k].1.toList==key.toList)=false:=hq;have zv:Hid (∀ r∈l.take (k+1),bc r.1 key=false):=fun r hr=>by
     rw[ZY Aa] at hr;rcases Q0.1 hr with h|h
     ·exact Rg.out r h
     ·rw[GZ.1 h];exact hq
    clear hq;go_wp2;exact⟨⟨k+1,by omega,by go_num,zv.out,hB⟩,by simp[intOf];omega⟩
  ·have ek:k=l.length:=by omega
   subst ek;have Za:¬(l.length:Int)<(l.length:Int):=by omega
   have HV:Hid (Ib l key=(⟨#[]⟩,false)):=ES (by have:=Rg.out;rwa [O1] at this);go_wp2;go_ret2;rw[HV.out];exact⟨rfl,hB⟩
theorem zN6 (l:List (BA×BA)) (ao:Option Addr) (cap:Nat) (key:BA) (w:World) (hl:bY w ao l) (hn:l.length<=1000000):
  Calls p_ 128 #[.slice ao l.length cap,.string key] w fun e w'=>e=.returned (.tuple #[.string (Ib l key).1,.bool (Ib l key).2])/\Below w.heap.size w w':=by
 rcases hl with rfl|⟨b,off,rfl,h⟩
 ·go_enter func128,ntmps128;go_wp2
  go_loopw [6] (fun i wr=>i=.int .i64 0/\wr=w) (fun _ _=>0)
  case atStart=>exact⟨rfl,rfl⟩
  case round=>
   obtain⟨rfl,rfl⟩:=hrel;go_wp2;go_ret2;exact⟨rfl,r_ _ _⟩
 ·exact zNF l b off cap key w h hn
def Kg (l:List (BA×BA)) (s:BA×BA):List (BA×BA):=l.filter fun r=>Fb s.1 s.2 r.1
theorem zOO (hk:k<l.length) (s:BA×BA):Kg (l.take (k+1)) s=Kg (l.take k) s++if Fb s.1 s.2 l[k].1 then [l[k]] else []:=by
 unfold Kg;rw[ZY hk,J6];congr 1;simp only[WZ,List.filter_nil]
theorem zPe (l:List (BA×BA)) (s:BA×BA):(Kg l s).length<=l.length:=A7 _ _
theorem zO0 (l:List (BA×BA)) (b off cap:Nat) (s:BA×BA) (w:World) (hl:iO w b off l) (hn:l.length<=1000):
  Calls p_ 133 #[.slice (some ⟨b,off,none⟩) l.length cap,.agg #[.string s.1,.string s.2]] w fun e w'=>∃ v,e=.returned v/\Sb w' w.heap.size v (Kg l s)/\Below w.heap.size w w':=by
 obtain⟨i0,Qb,Xb,We,ze⟩:=info_parts FG;obtain⟨a0,a1,Nc,-⟩:=Fl w (GX s.1 s.2) rfl rfl;have gm:=gW Nc hl;have Yc:(w.alloc (GX s.1 s.2)).heap.size=w.heap.size+1:=by simp
 go_enter func133,ntmps133;go_wp2;generalize (w.alloc (GX s.1 s.2))=W0 at *
 go_loopw [5,6] (fun v i wr=>∃ k:Nat,k<=l.length/\i=.int .i64 k/\Sb wr W0.heap.size v (Kg (l.take k) s)/\Below W0.heap.size W0 wr) (fun _ i _=>l.length-(intOf i).toNat)
 case atStart=>exact⟨0,OZ _,rfl,M1 _ _ _ _,r_ _ _⟩
 case round=>
  obtain⟨k,hk,rfl,ya,hB⟩:=hrel;have b0:=aA hB a0;have b1:=aA hB a1;by_cases Aa:k<l.length
  ·obtain⟨c0,c1⟩:=gW hB gm k Aa;have lk:(k:Int)<(l.length:Int):=by omega
   have HF:=aa (zOO Aa s);have hlen:=zPe (l.take k) s;rw[XY] at hlen;generalize Kg (l.take k) s=out at *
   cases hq:Fb s.1 s.2 l[k].1 with
   | true=>
    have HQ:=aa hq;rw[hq] at HF;clear hq;have nS:=ad.some wr;have n0:∀ m:ad wr,m.w.cell? ⟨b,off+k*2,none⟩=some (.string l[k].1):=fun m=>m.cell c0;have n1:∀ m:ad wr,m.w.cell? ⟨w.heap.size,0,none⟩=some (.string s.1):=fun m=>m.cell b0;have n2:∀ m:ad wr,m.w.cell? ⟨w.heap.size,1,none⟩=some (.string s.2):=fun m=>m.cell b1;go_wp2;refine dE (by kernel_rfl) (by kernel_rfl) ?_
    repeat (go_big_quiet_step ((first
     | (go_at_call 91;exact fF (sD (GJ s.1 s.2 l[k].1 _) (congrArg D5 HQ.out))))))
    refine wpQuiet_nil ?_;intro w1 mg;replace mg:=jG mg;have Ba:=aB hB (n_ _) mg;have bd:=aa (aI ya fun k e=>mg.block k (l_ ya k e).2);replace ⟨c0,c1⟩:=Em mg c0 c1;clear nS n0 n1 n2 b0 b1 mg ya;go_wp2_with (at_builtin;refine oS rfl _ _ 32 rfl W0.heap.size 142 i0 _ 2 32 underlying32 Qb Xb We ze rfl (by omega) _ (aV l[k]) rfl (GG _) _ out.length (out.flatMap aV) bd.out rfl rfl (by omega) (by omega) Ba.size ?_;intro v1 w2 mc za;have Cb:Hid (Below W0.heap.size W0 w2):=(by first|exact za W0 Ba|exact za W0 (Ba.trans (below_draws _ _ _)));have Kc:Hid (Sb w2 W0.heap.size v1 (out++[l[k]])):=Cw mc;clear mc za)
    exact⟨⟨k+1,by omega,by go_num,by rw[HF.out];exact Kc.out,Cb.out⟩,by simp[intOf];omega⟩
   | false=>
    have HQ:=aa hq;rw[hq] at HF;clear hq;have nS:=ad.some wr;have n0:∀ m:ad wr,m.w.cell? ⟨b,off+k*2,none⟩=some (.string l[k].1):=fun m=>m.cell c0;have n1:∀ m:ad wr,m.w.cell? ⟨w.heap.size,0,none⟩=some (.string s.1):=fun m=>m.cell b0;have n2:∀ m:ad wr,m.w.cell? ⟨w.heap.size,1,none⟩=some (.string s.2):=fun m=>m.cell b1;go_wp2;refine dE (by kernel_rfl) (by kernel_rfl) ?_
    repeat (go_big_quiet_step ((first
     | (go_at_call 91;exact fF (sD (GJ s.1 s.2 l[k].1 _) (congrArg D5 HQ.out))))))
    refine wpQuiet_nil ?_;intro w1 mg;replace mg:=jG mg;have Ba:=aB hB (n_ _) mg;have bd:=aa (aI ya fun k e=>mg.block k (l_ ya k e).2);replace ⟨c0,c1⟩:=Em mg c0 c1;clear nS n0 n1 n2 b0 b1 mg ya;go_wp2;exact⟨⟨k+1,by omega,by go_num,by rw[HF.out];exact(T1 out).symm▸bd.out,Ba⟩,by simp[intOf];omega⟩
  ·have ek:k=l.length:=by omega
   subst ek;have Za:¬(l.length:Int)<(l.length:Int):=by omega
   rw[O1] at ya;go_wp2;go_ret;exact⟨_,rfl,ownsRow_le ya (by omega),Nc.trans (hB.mono Nc.size)⟩
theorem zPj (l:List (BA×BA)) (ao:Option Addr) (cap:Nat) (s:BA×BA) (w:World) (hl:bY w ao l) (hn:l.length<=1000):
  Calls p_ 133 #[.slice ao l.length cap,.agg #[.string s.1,.string s.2]] w fun e w'=>∃ v,e=.returned v/\Sb w' w.heap.size v (Kg l s)/\Below w.heap.size w w':=by
 rcases hl with rfl|⟨b,off,rfl,h⟩
 ·have Nc:=a_ w (GX s.1 s.2);go_enter func133,ntmps133;go_wp2;generalize (w.alloc (GX s.1 s.2))=W0 at *
  go_loopw [5,6] (fun v i wr=>v=.slice none 0 0/\i=.int .i64 0/\wr=W0) (fun _ _ _=>0)
  case atStart=>exact⟨rfl,rfl,rfl⟩
  case round=>
   obtain⟨rfl,rfl,rfl⟩:=hrel;go_wp2;go_ret;exact⟨_,rfl,M1 _ _ _ _,Nc⟩
 ·exact zO0 l b off cap s w h hn
theorem zBR (r:BA×BA) (l:List (BA×BA)) (key:BA):Ib (r::l) key=if bc r.1 key then (r.2,true) else Ib l key:=by
 unfold Ib;rw[List.find?_cons];cases bc r.1 key<;>rfl
theorem kU (hl:bV l) (key v:BA):Ib l key=(v,true)↔(key,v)∈l:=by
 induction l with
 | nil=>simp[Ib]
 | cons r l ih=>
  replace hl:=L3.1 hl;rw[zBR]
  cases h:bc r.1 key with
  | true=>
   have e:=(eV _ _).1 h;subst e;constructor
   ·intro h';have:r.2=v:=by simpa using h'
    subst this;simp
   ·intro h';rcases L2.1 h' with e|e
    ·rw[if_pos rfl,show r.2=v from (congrArg Prod.snd e).symm]
    ·have:=hl.1 _ e;rw[bA] at this;cases this
  | false=>
   rw[if_neg (by simp),ih hl.2,L2];constructor
   ·exact .inr
   ·rintro(e|e)
    ·rw[<-e,pG] at h;cases h
    ·exact e
theorem xN (h:(Ib l key).2=false):Ib l key=(⟨#[]⟩,false):=by
 unfold Ib at h ⊢;split at h<;>simp_all
theorem zJO {m:List (BA×BA)} (hl:bV l) (hm:bV m) (h:∀ v,(key,v)∈l↔(key,v)∈m):Ib l key=Ib m key:=by
 cases e:(Ib l key).2 with
 | true=>
  have e1:Ib l key=((Ib l key).1,true):=by rw[<-e]
  have:=(kU hm key _).2 ((h _).1 ((kU hl key _).1 e1));rw[e1,this]
 | false=>
  cases e':(Ib m key).2 with
  | false=>rw[xN e,xN e']
  | true=>
   have e1:Ib m key=((Ib m key).1,true):=by rw[<-e']
   have:=(kU hl key _).2 ((h _).2 ((kU hm key _).1 e1));rw[this] at e;cases e
theorem uJ (hl:bV l) (hk:key≠c.key):Ib (Nb l c) key=Ib l key:=by
 refine zJO (jO hl c) hl fun v=>?_
 cases h:c.gone with
 | true=>
  rw[iF h,A2,rH hk];simp
 | false=>
  rw[iX hl h,Q0,L2,A2,A2];constructor
  ·rintro(h'|h'|h')
   ·exact h'.1
   ·exact absurd (congrArg Prod.fst h') hk
   ·exact h'.1
  ·intro h'
   cases e:jb key c.key with
   | true=>exact .inl ⟨h',rfl⟩
   | false=>
    refine .inr (.inr ⟨h',?_⟩);have h2:ng c.key key=true:=by rw[mA,e];rfl
    rcases(jM _ _).1 h2 with h3|h3
    ·exact h3
    ·exact absurd h3.symm hk
theorem zEA (hl:bV l) (c:ma):Ib (Nb l c) c.key=if c.gone then (⟨#[]⟩,false) else (c.val,true):=by
 cases h:c.gone with
 | true=>
  refine ES fun r hr=>?_;rw[iF h,A2] at hr;simpa using hr.2
 | false=>
  refine(kU (jO hl c) _ _).2 ?_;rw[iX hl h];simp
def Mg (R:BA->List yb) (n:Int) (P:List (BA×BA)):Prop:=∀ key,bE (R key) n=Ib P key
theorem zA (h:x.ed<=n):bE (vs++[x]) n=if x.gone then (⟨#[]⟩,false) else (x.val,true):=by
 unfold bE;rw[zK h]
theorem zJs (hd:d<=n) (hP:bV P) (h:Mg R n P):∀ (cs:List ma),Mg (cW R d cs) n (iB P cs):=by
 intro cs
 induction cs generalizing R P with
 | nil=>exact h
 | cons c cs ih=>
  have:Mg (Ec R c.key (R c.key++[⟨d,c.val,c.gone⟩])) n (Nb P c):=fun key=>by
   by_cases e:key=c.key
   ·subst e;rw[bH,zA (by exact hd),zEA hP]
   ·rw[aW _ _ e,uJ hP e];exact h key
  exact ih (jO hP c) this
theorem zM4 (hP:bV P) (hk:∀ r∈P,r.1.size<=1000000) (h:Mg R n P) (h1:F.Pairwise fun a b=>jb b.1 a.1=false) (h2:(F.map (·.1)).Nodup) (hF:∀ r,r∈F↔po R n s r):F=Kg P s:=by
 refine zFo (zEj h1 h2) (hP.filter _) fun r=>?_;unfold Kg;rw[hF,A2];unfold po;rw[h r.1,kU hP];constructor
 ·rintro⟨_,h3,h4⟩;exact⟨h4,h3⟩
 ·rintro⟨h3,h4⟩;exact⟨by have:=hk r h3;unfold maxLen;omega,h4,h3⟩
def nC (R:BA->List yb) (n:Int):Prop:=∀ key,∀ x∈R key,x.ed<=n
theorem zHQ (h:∀ x∈vs,x.ed<=n):(dN vs n).length=if (bE vs n).2 then 1 else 0:=by
 by_cases e:vs=[]
 ·subst e;rw[uN];rfl
 ·have hl:vs.length-1<vs.length:=by have:=K3.2 e;omega
  have hp:fO vs n=((vs.length-1:Nat):Int):=zKh hl (h _ (MZ hl)) fun j hj Aa=>by omega
  have hv:vs=vs.dropLast++[vs[vs.length-1]]:=by
   rw[<-List.getLast_eq_getElem e];exact(List.dropLast_concat_getLast e).symm
  have hb:bE vs n=if vs[vs.length-1].gone then (⟨#[]⟩,false) else (vs[vs.length-1].val,true):=by
   have:=zA (vs:=vs.dropLast) (h _ (MZ hl));rwa [<-hv] at this
  rw[sW hl hp,hb]
  cases vs[vs.length-1].gone with
  | true=>simp;omega
  | false=>simp;omega
theorem wX (hP:bV P) (key:BA):(Ib P key).2=true↔key∈P.map (·.1):=by
 rw[Z2];constructor
 ·intro h;have e:Ib P key=((Ib P key).1,true):=by rw[<-h]
  exact⟨_,(kU hP _ _).1 e,rfl⟩
 ·rintro⟨r,hr,rfl⟩;rw[(kU hP r.1 r.2).2 hr]
theorem zFA (hP:bV P):(P.map (·.1)).Nodup:=by
 unfold List.Nodup;rw[M8];exact List.Pairwise.imp (fun {a b} h e=>by rw[e,bA] at h;cases h) hP
theorem RF:∀ (P:List (BA×BA)),(P.map fun _=>1).sum=P.length
 | []=>rfl
 | _::P=>by rw[U2,Y7,RF P,PZ,Nat.add_comm]
theorem zH2 (l:List (BA×BA)):nC (jS l) 0:=by
 have RA:∀ (l:List (BA×BA)) (R:BA->List yb),nC R 0->nC (l.foldl (fun R r=>Ec R r.1 [⟨0,r.2,false⟩]) R) 0:=by
  intro l
  induction l with
  | nil=>exact fun R h=>h
  | cons r l ih=>
   intro R h;refine ih _ fun key x hx=>?_;dsimp only at hx;by_cases e:key=r.1
   ·subst e;rw[bH] at hx;rw[GZ.1 hx];exact Int.le_refl _
   ·rw[aW _ _ e] at hx;exact h key x hx
 exact RA l _ fun key x hx=>by cases hx
theorem zG4 (h:nC R d):∀ (cs:List ma),nC (cW R d cs) d:=by
 intro cs
 induction cs generalizing R with
 | nil=>exact h
 | cons c cs ih=>
  refine ih fun key x hx=>?_;dsimp only at hx;by_cases e:key=c.key
  ·subst e;rw[bH] at hx;rcases Q0.1 hx with hx|hx
   ·exact h _ x hx
   ·rw[GZ.1 hx];exact Int.le_refl _
  ·rw[aW _ _ e] at hx;exact h key x hx
theorem zHH {a b:Int} (h:nC R a) (gh:a<=b):nC R b:=fun key x hx=>Int.le_trans (h key x hx) gh
theorem zJr (h:x∈dN vs n):x∈vs:=by
 unfold dN at h;split at h
 ·exact h
 ·split at h<;>exact A1 h
theorem zLo (hp:bV l):Mg (jS l) 0 l:=by
 have RA:∀ (l:List (BA×BA)),bV l->∀ (R:BA->List yb) (key:BA),bE ((l.foldl (fun R r=>Ec R r.1 [⟨0,r.2,false⟩]) R) key) 0=if (Ib l key).2 then Ib l key else bE (R key) 0:=by
  intro l
  induction l with
  | nil=>intro _ R key;rfl
  | cons r l ih=>
   intro hp R key;replace hp:=L3.1 hp;rw[List.foldl_cons,ih hp.2,zBR]
   cases he:bc r.1 key with
   | true=>
    have e:=(eV _ _).1 he;subst e;have hm:Ib l r.1=(⟨#[]⟩,false):=ES fun x hx=>rH fun e=>by
     have:=hp.1 x hx;rw[e,bA] at this;cases this
    rw[hm,bH];rfl
   | false=>
    have e:key≠r.1:=fun e=>by rw[e,pG] at he;cases he
    rw[aW _ _ e];simp
 intro key;have:=RA l hp (fun _=>[]) key
 cases e:(Ib l key).2 with
 | true=>rw[e] at this;exact this
 | false=>rw[e] at this;rw[xN e];exact this
end
section
open Go.RowKit Go.Joins Go.Shelf Go.Lib Go.WideShapes
theorem zLl (l:List (BA×BA)) (v:Value) (B:Nat) (w:World) (h:lL w B v l) (hl:l.length<=1000000):
  Calls p_ 87 #[v] w fun e w'=>∃ v',e=.returned v'/\lL w' w.heap.size v' l/\Below w.heap.size w w':=by
 obtain⟨i0,Qb,Xb,Yc,te⟩:=info_parts AS;rcases aX h with⟨rfl,h0⟩|⟨g,cap,rfl,_⟩
 ·refine(AnyE.slices_Clone_nil Tryz.cloneS 0 0 w).mono ?_;rintro e w' ⟨rfl,rfl⟩;have e:l=[]:=E0.1 h0;subst e;exact⟨_,rfl,M1 _ _ _ _,r_ _ _⟩
 ·refine(AnyE.slices_Clone Tryz.cloneS i0 _ 2 32 Qb Xb Yc te rfl (by omega) sizeOf128 g 0 l.length cap (l.flatMap nN) w (pN nN 2 lW l) (by unfold maxLen;omega) (by omega) (fun j u hj=>?_) (zHp l)).mono ?_
  ·have:=F2.cells h (g:=g) rfl j u hj;rw[C1] at this;simpa using this
  ·rintro e w' ⟨v',rfl,ho,_,hb⟩;exact⟨v',rfl,ho,hb⟩
def Jp (x y:BA×BA):Bool:=bc x.1 y.1&&bc x.2 y.2
theorem zNb (x y:BA×BA):Jp x y=true↔x=y:=by
 unfold Jp;rw[E1,eV,eV];exact⟨fun ⟨a,b⟩=>Prod.ext a b,fun e=>by rw[e];exact⟨rfl,rfl⟩⟩
theorem zK5:EqlAt p_ 128 (fun x=>.agg (nN x).toArray) Jp:=by
 refine⟨fun x y w=>?_,GuardAt.agg _ (by kernel_rfl)⟩;have u3:=underlying9;have a3:=isAgg9;have z3:=sizeOf9;have hS:XZ.underlying 128=some (.struct (XZ.fieldsOf 128)):=by kernel_rfl
 have hp:XZ.stoodInHeld 128=false:=by kernel_rfl
 simp only[nN];rw[run_eql_struct,show(10000:Nat)=9999+1 from rfl,run_equalIn_agg w 9999 128 _ _ hS hp];simp only[Program.fieldsOf,underlying128]
 go_simp
 by_cases h1:x.1.toList=y.1.toList<;>by_cases h2:x.2.toList=y.2.toList<;>simp[Jp,bc,h1,h2]
def Wu (l:List (BA×BA)) (s:BA×BA):Bool:=l.any fun y=>Jp s y
theorem zGP (ao:Option Addr) (cap:Nat) (s:BA×BA) (w:World):
  Calls p_ 204 #[.slice ao 0 cap,.agg #[.string s.1,.string s.2]] w fun e w'=>e=.returned (.int .i64 (-1))/\Below w.heap.size w w':=by
 go_enter func204,ntmps204;go_wp2;refine wp_loop_rounds 1 ?_;rw[rounds_succ];go_wp2;go_ret;exact⟨rfl,a_ _ _⟩
theorem zB3 (ao:Option Addr) (cap:Nat) (s:BA×BA) (w:World):
  Calls p_ 143 #[.slice ao 0 cap,.agg #[.string s.1,.string s.2]] w fun e w'=>e=.returned (.bool false)/\Below w.heap.size w w':=by
 have hB:=a_ w (GX s.1 s.2);go_enter func143,ntmps143;go_wp2_with (go_at_call 204;refine(zGP _ _ s _).mono ?_;rintro e w1 ⟨rfl,hb⟩;replace hB:=aB hB (n_ _) hb)
 go_ret;exact⟨rfl,hB⟩
theorem zD7 (l:List (BA×BA)) (v:Value) (B:Nat) (s:BA×BA) (w:World) (h:lL w B v l):
  Calls p_ 143 #[v,.agg #[.string s.1,.string s.2]] w fun e w'=>e=.returned (.bool (Wu l s))/\Below w.heap.size w w':=by
 rcases aX h with⟨rfl,h0⟩|⟨g,cap,rfl,_,_,hc,hm⟩
 ·have e:l=[]:=E0.1 h0;subst e;exact zB3 _ _ s w
 ·have:=AnyQ.slices_Contains Tryz.containsS 2 isAgg128 sizeOf128 nN lW Jp zK5 g 0 l.length cap l s w (n_ _) (by unfold maxLen at hm;omega) (fun j hj i u hu=>?_)
  ·rw[O1] at this;exact this
  ·have e:l[j]! = l[j]:=by simp[hj]
   rw[e] at hu;have hi:i<2:=by
    rcases M3 i 2 with h'|h'
    ·exact h'
    ·rw[A3 (by rw[lW];exact h')] at hu;cases hu
   unfold lL at h;have:=(dU lW h j i hj hi).1;rw[TZ,this];exact hu
def qB (l:List ma) (key:BA):Option ma:=if fB l key then l[cU l key]? else none
theorem zJX (l:List ma) (v:Value) (B:Nat) (key:BA) (w:World) (h:bO w B v l) (hn:l.length<=1000):
  Calls p_ 74 #[v,.string key] w fun e w'=>(match qB l key with
   | some c=>e=.returned (.tuple #[.agg #[.string c.key,.string c.val,.bool c.gone],.bool true])
   | none=>e=.returned (.tuple #[.agg #[.string ⟨#[]⟩,.string ⟨#[]⟩,.bool false],.bool false]))/\Below w.heap.size w w':=by
 rcases aX h with⟨rfl,h0⟩|⟨g,cap,rfl,_,_,hc,hm⟩
 ·have e:l=[]:=E0.1 h0;subst e;exact zIY none 0 key w
 ·have Bf:dG w g 0 l:=eW l 0 fun j u hj=>by
   have:=F2.cells h (g:=g) rfl j u hj;rwa [C1] at this
  unfold qB
  cases hf:fB l key with
  | false=>exact zHt l g 0 cap key w Bf hn hf
  | true=>
   have Aa:cU l key<l.length:=by
    rcases M3 (cU l key) l.length with k|k
    ·exact k
    ·rw[fB,A3 k] at hf;cases hf
   rw[if_pos rfl,VY Aa];exact zIA l g 0 cap key w Bf hn _ rfl hf Aa
end
section
open Go.RowKit Go.Joins Go.Shelf
attribute [local go_sem ↓] Go.wp_at_zero Go.wp_at_succ
theorem zLr {n:Nat} (w:World) (h:VS w B vb mb now n D g R):
  Calls p_ 34 #[.pointer (some ⟨vb,0,none⟩)] w fun e w'=>∃ wb,e=.returned (.pointer (some ⟨wb,0,none⟩))/\VW w' w.heap.size wb vb now (.slice none 0 0) (.slice none 0 0) [] []/\Below w.heap.size w w':=by
 have HV:=aa h;clear h;go_enter func34,ntmps34;go_wp2_with (go_at_call 72;refine(XS _ HV.out).mono ?_;rintro e w1 ⟨rfl,rfl⟩)
 go_ret;refine⟨_,rfl,⟨aC _ _ _ 0,aC _ _ _ 1,aC _ _ _ 2,aC _ _ _ 3,fun j=>aQ _ _ _ j,M1 _ _ _ _,M1 _ _ _ _,n_ _,by simp[VZ],by simp[VZ],fun k e=>by simp[VZ] at e⟩,a_ _ _⟩
def cH (l:List ma) (c:ma):Nat:=if aD c=0 then if 12<(Db l c).length then 2 else 0 else aD c
def bG (l:List ma) (c:ma):List ma:=if cH l c=0 then Db l c else l
def pK (w w':World) (B wb vb:Nat) (since:Int) (cv rv:Value) (ba:List ma) (ga:List (BA×BA)):Prop:=∃ Og,VW w' B wb vb since Og rv ba ga/\Below B w w'/\Nd w w' wb cv rv Og rv
theorem yS (h:VW w B wb vb since cv rv ba ga) (hB:B<=w.heap.size) (hb:Below w.heap.size w w'):pK w w' B wb vb since cv rv ba ga:=⟨cv,h.on hb,hb.mono hB,Nd.on hb⟩
theorem zBF {Sa:List ma} (h:VW w B wb vb since cv rv ba ga) (hB:B<=w.heap.size) (hb:Below w.heap.size w w1) (ho:bO w1 w.heap.size Og Sa):pK w (w1.setCell ⟨wb,2,none⟩ Og) B wb vb since cv rv Sa ga:=by
 have hf:∀ k,Og.ownBlock=some k->w.heap.size<=k:=fun k e=>(l_ ho k e).1;refine⟨Og,(h.on hb).Iy (dJ ho hB) (fun k e Ig=>by have:=hf k e;have:=h.lt Ig;omega),(hb.mono hB).setCell (p:=⟨wb,2,none⟩) h.lo _,fun j hj hn=>?_⟩;obtain⟨a,b⟩:=Nd.Iy (w:=w1) (wb:=wb) (cv:=cv) (rv:=rv) (Og:=Og) hf (u:=Og) j hj hn;exact⟨a.trans (hb.block j hj),b⟩
theorem zBg (c:ma) (w:World) (h:VW w B wb vb since cv rv ba ga) (hB:B<=w.heap.size) (hn:ba.length<=100) (hk:c.key.size<=maxLen):
  Calls p_ 78 #[.pointer (some ⟨wb,0,none⟩),.agg #[.string c.key,.string c.val,.bool c.gone]] w fun e w'=>e=.returned (pa (cH ba c))/\pK w w' B wb vb since cv rv (bG ba c) ga:=by
 have HV:=aa h;obtain⟨a0,a1,a2,Nc,-⟩:=Nf w (FX c.key c.val c.gone) rfl rfl;have c2:=aA Nc h.c2;have f2:=aE Nc (h.lt (.inl rfl)) (h.soft 2);have iw:=h.lt (k:=wb) (.inl rfl);have ie:=aa Nc;clear h Nc;unfold bG;by_cases hf:aD c=0
 ·have HF:=aa hf;have hlen:=yP ba c;have gl:cH ba c=if 12<(Db ba c).length then 2 else 0:=if_pos hf;rw[gl];clear hf gl;by_cases sr:12<(Db ba c).length
  ·have Jn:(12:Int)<((Db ba c).length:Int):=by omega
   rw[if_pos sr,if_neg (by decide)];have HP:=fun w1 (hb:Below w.heap.size w w1)=>aa (GR ba c cv B w1 ((HV.out.on hb).ba) (by omega));generalize (Db ba c).length=m at *;go_enter func78,ntmps78;go_wp2_with (first
    | (go_at_call 145;refine(gB c _ hk).mono ?_;rintro e w1 ⟨rfl,Ba⟩;rw[HF.out];simp only[pa];have zb:=aa (aB ie.out (n_ _) Ba);replace ⟨a0,a1,a2,c2⟩:=Ij Ba a0 a1 a2 c2;clear Ba))
   go_region_held3 (fun w'=>w'.cell? ⟨w.heap.size,0,none⟩=some (.string c.key)/\w'.cell? ⟨w.heap.size,1,none⟩=some (.string c.val)/\w'.cell? ⟨w.heap.size,2,none⟩=some (.bool c.gone)/\w'.cell? ⟨wb,2,none⟩=some cv)
    (first|go_keep|exact⟨aA za a0,aA za a1,aA za a2,aA za c2⟩) (first|(go_at_call 146;refine(HP _ zb.out.drew).out.mono ?_;rintro e w2 ⟨g,cap,rfl,ho,Vc⟩;have za:=aB (r_ _ w1).drew (n_ _) Vc;clear Vc;dsimp only))
   all_goals
    go_wp2;go_ret;exact⟨rfl,yS HV.out hB (aB zb.out (n_ _) za)⟩
  ·have Jn:¬(12:Int)<((Db ba c).length:Int):=by omega
   rw[if_neg sr,if_pos rfl];have HP:=fun w1 (hb:Below w.heap.size w w1)=>aa (GR ba c cv B w1 ((HV.out.on hb).ba) (by omega));generalize hl:Db ba c=l2 at *;clear hl;go_enter func78,ntmps78;go_wp2_with (first
    | (go_at_call 145;refine(gB c _ hk).mono ?_;rintro e w1 ⟨rfl,Ba⟩;rw[HF.out];simp only[pa];have zb:=aa (aB ie.out (n_ _) Ba);replace ⟨a0,a1,a2,c2⟩:=Ij Ba a0 a1 a2 c2;replace f2:=aE zb.out iw (HV.out.soft 2);clear Ba))
   go_region_held3 (fun w'=>w'.cell? ⟨w.heap.size,0,none⟩=some (.string c.key)/\w'.cell? ⟨w.heap.size,1,none⟩=some (.string c.val)/\w'.cell? ⟨w.heap.size,2,none⟩=some (.bool c.gone)/\w'.cell? ⟨wb,2,none⟩=some cv)
    (first|go_keep|exact⟨aA za a0,aA za a1,aA za a2,aA za c2⟩) (first|(go_at_call 146;refine(HP _ zb.out.drew).out.mono ?_;rintro e w2 ⟨g,cap,rfl,ho,Vc⟩;have za:=aB (r_ _ w1).drew (n_ _) Vc;clear Vc;dsimp only))
   all_goals
    have PW:=aA za c2;have f2':=aE (aB zb.out (n_ _) za) iw (HV.out.soft 2);go_wp2;go_ret;exact⟨rfl,zBF HV.out hB (aB zb.out (n_ _) za) (dJ ho zb.out.size)⟩
 ·have gl:cH ba c=aD c:=if_neg hf;rw[gl,if_neg hf];generalize WH:aD c=f at *;have NU:=aa WH;have he:pa f=.iface 77 (.int .i64 f):=by unfold pa;rw[if_neg hf]
  have HE:=aa he;clear gl hf WH he;go_enter func78,ntmps78;go_wp2_with (first
   | (go_at_call 145;refine(gB c _ hk).mono ?_;rintro e w1 ⟨rfl,Ba⟩;rw[NU.out,HE.out];have zb:=aa (aB ie.out (n_ _) Ba);clear Ba))
  go_ret;exact⟨by rw[HE.out];rfl,yS HV.out hB zb.out⟩
theorem zKP (key val:BA) (w:World) (h:VW w B wb vb since cv rv ba ga) (hB:B<=w.heap.size) (hn:ba.length<=100) (hk:key.size<=maxLen):
  Calls p_ 28 #[.pointer (some ⟨wb,0,none⟩),.string key,.string val] w fun e w'=>e=.returned (pa (cH ba ⟨key,val,false⟩))/\pK w w' B wb vb since cv rv (bG ba ⟨key,val,false⟩) ga:=by
 have HV:=aa h;clear h;go_enter func28,ntmps28;go_wp2_with (go_at_call 78;refine(zBg ⟨key,val,false⟩ _ HV.out hB hn hk).mono ?_;rintro e w1 ⟨rfl,ha⟩;have HA:=aa ha;clear ha)
 go_ret;exact⟨rfl,HA.out⟩
theorem zEO (key:BA) (w:World) (h:VW w B wb vb since cv rv ba ga) (hB:B<=w.heap.size) (hn:ba.length<=100) (hk:key.size<=maxLen):
  Calls p_ 63 #[.pointer (some ⟨wb,0,none⟩),.string key] w fun e w'=>e=.returned (pa (cH ba ⟨key,⟨#[]⟩,true⟩))/\pK w w' B wb vb since cv rv (bG ba ⟨key,⟨#[]⟩,true⟩) ga:=by
 have HV:=aa h;clear h;go_enter func63,ntmps63;go_wp2_with (go_at_call 78;refine(zBg ⟨key,⟨#[]⟩,true⟩ _ HV.out hB hn hk).mono ?_;rintro e w1 ⟨rfl,ha⟩;have HA:=aa ha;clear ha)
 go_ret;exact⟨rfl,HA.out⟩
theorem rF (w:World) (h:VW w B wb vb since cv rv ba ga) (hn:ba.length<=100):
  Calls p_ 35 #[.pointer (some ⟨wb,0,none⟩)] w fun e w'=>∃ v,e=.returned v/\bO w' w.heap.size v ba/\Below w.heap.size w w':=by
 have HC:=aa h.ba;have c2:=h.c2;clear h;go_enter func35,ntmps35;go_wp2_with (go_at_call 81;refine(uO ba cv B _ HC.out (by omega)).mono ?_;rintro e w1 ⟨v,rfl,ho,hb⟩;have HO:=aa ho;clear ho)
 go_ret;exact⟨v,rfl,HO.out,hb⟩
theorem zJQ (w:World) (h:VW w B wb vb since cv rv ba ga) (hn:ba.length<=100):
  Calls p_ 181 #[.pointer (some ⟨wb,0,none⟩)] w fun e w'=>∃ v,e=.returned v/\bO w' w.heap.size v ba/\Below w.heap.size w w':=by
 have HV:=aa h;clear h;go_enter func181,ntmps181;go_wp2_with (go_at_call 35;refine(rF _ HV.out hn).mono ?_;rintro e w1 ⟨v,rfl,ho,hb⟩;have HO:=aa ho;clear ho)
 go_ret;exact⟨v,rfl,HO.out,hb⟩
theorem zIP (w:World) (h:VW w B wb vb since cv rv ba ga) (hn:ga.length<=100):
  Calls p_ 39 #[.pointer (some ⟨wb,0,none⟩)] w fun e w'=>∃ v,e=.returned v/\lL w' w.heap.size v ga/\Below w.heap.size w w':=by
 have HC:=aa h.ga;have c3:=h.c3;clear h;go_enter func39,ntmps39;go_wp2_with (go_at_call 87;refine(zLl ga rv B _ HC.out (by omega)).mono ?_;rintro e w1 ⟨v,rfl,ho,hb⟩;have HO:=aa ho;clear ho)
 go_ret;exact⟨v,rfl,HO.out,hb⟩
theorem zKy (w:World) (h:VW w B wb vb since cv rv ba ga) (hB:B<=w.heap.size) (hm:bO w B2 mv mk) (hn:mk.length<=100):
  Calls p_ 182 #[.pointer (some ⟨wb,0,none⟩),mv] w fun e w'=>e=.returned (.tuple #[])/\pK w w' B wb vb since cv rv mk ga:=by
 have HV:=aa h;have HM:=aa hm;have c2:=h.c2;have f2:=h.soft 2;have iw:=h.lt (k:=wb) (.inl rfl);clear h hm;go_enter func182,ntmps182;go_wp2_with (go_at_call 81;refine(uO mk mv B2 _ HM.out (by omega)).mono ?_;rintro e w1 ⟨v,rfl,ho,hb⟩;have HO:=aa ho;obtain⟨va,vc,rfl⟩:=iQ ho;replace c2:=aA hb c2;replace f2:=aE hb iw f2;clear ho)
 go_end0;exact⟨rfl,zBF HV.out hB hb HO.out⟩
def cZ (l:List (BA×BA)) (s:BA×BA):Nat:=if Wu l s then 0 else if 40<=l.length then 2 else 0
def gX (l:List (BA×BA)) (s:BA×BA):List (BA×BA):=if Wu l s then l else if 40<=l.length then l else l++[s]
def vH (w w':World) (B wb vb:Nat) (since:Int) (cv rv:Value) (ba:List ma) (ga:List (BA×BA)):Prop:=∃ eh,VW w' B wb vb since cv eh ba ga/\Below B w w'/\Nd w w' wb cv rv cv eh
theorem qT (h:VW w B wb vb since cv rv ba ga) (hB:B<=w.heap.size) (hb:Below w.heap.size w w'):vH w w' B wb vb since cv rv ba ga:=⟨rv,h.on hb,hb.mono hB,Nd.on hb⟩
theorem zJc {w3:World} {gk ck:Nat} (h:VW w B wb vb since cv rv ba ga) (hB:B<=w.heap.size) (hb:Below w.heap.size w W) (hg:W.grownBy w3 rv.ownBlock)
  (ho:w3.ownsRow B 128 2 (.slice (some ⟨gk,0,none⟩) (ga.length+1) ck) (ga.length+1) (ga.flatMap nN++[.string s.1,.string s.2])) (Sc:rv.ownBlock=some gk∨gk=W.heap.size):
  vH w (w3.setCell ⟨wb,3,none⟩ (.slice (some ⟨gk,0,none⟩) (ga.length+1) ck)) B wb vb since cv rv ba (ga++[s]):=by
 have Pj:lL w3 B (.slice (some ⟨gk,0,none⟩) (ga.length+1) ck) (ga++[s]):=by
  unfold lL;rw[YY,List.flatMap_append];exact ho
 have hs:=hb.size;refine⟨_,(h.on hb).Uu hg Pj (fun k e=>?_),(((hb.mono hB).grown hg (BZ hB hs) (fun k e=>(l_ h.ga k e).1)).setCell (p:=⟨wb,3,none⟩) h.lo _),fun j hj hn=>⟨?_,?_⟩⟩
 ·simp[VZ] at e;subst e;exact Sc.imp id (fun e=>by omega)
 ·exact(h_ _ _ _ _ (fun e=>hn (.inl e))).trans ((hg.block j (by omega) (fun e=>hn (.inr (.inr e.symm)))).trans (hb.block j hj))
 ·rintro(e|e|e)
  ·exact hn (.inl e)
  ·exact hn (.inr (.inl e))
  ·simp[VZ] at e;subst e;rcases Sc with e|e
   ·exact hn (.inr (.inr e))
   ·omega
theorem mB (s:BA×BA) (w:World) (h:VW w B wb vb since cv rv ba ga) (hB:B<=w.heap.size) (hn:ga.length<=100):
  Calls p_ 75 #[.pointer (some ⟨wb,0,none⟩),.agg #[.string s.1,.string s.2]] w fun e w'=>e=.returned (pa (cZ ga s))/\vH w w' B wb vb since cv rv ba (gX ga s):=by
 have HV:=aa h;obtain⟨a0,a1,Nc,-⟩:=Fl w (GX s.1 s.2) rfl rfl;have c3:=aA Nc h.c3;have iw:=h.lt (k:=wb) (.inl rfl);have ie:=aa Nc;obtain⟨ra,rc,rfl⟩:=iQ h.ga;clear h Nc;have UK:=fun w1 (hb:Below w.heap.size w w1)=>aa (zD7 ga _ B s w1 ((HV.out.on hb).ga));unfold cZ gX;generalize Wu ga s=hs at *;cases hs
 ·by_cases Xy:40<=ga.length
  ·have ur:(40:Int)<=(ga.length:Int):=by omega
   go_enter func75,ntmps75;go_wp2
   go_region_held3 (fun w'=>w'.cell? ⟨w.heap.size,0,none⟩=some (.string s.1)/\w'.cell? ⟨w.heap.size,1,none⟩=some (.string s.2)/\w'.cell? ⟨wb,3,none⟩=some (.slice ra ga.length rc))
    (first|go_keep|exact⟨aA za a0,aA za a1,aA za c3⟩) (first|(go_at_call 143;refine(UK _ ie.out.drew).out.mono ?_;rintro e w2 ⟨rfl,Vc⟩;have za:=aB (r_ _ (w.alloc (GX s.1 s.2))).drew (n_ _) Vc;clear Vc;dsimp only))
   all_goals
    replace c3:=aA za c3;go_wp2;go_ret;exact⟨rfl,qT HV.out hB (aB ie.out (n_ _) za)⟩
  ·have ur:¬(40:Int)<=(ga.length:Int):=by omega
   go_enter func75,ntmps75;go_wp2
   go_region_held3 (fun w'=>w'.cell? ⟨w.heap.size,0,none⟩=some (.string s.1)/\w'.cell? ⟨w.heap.size,1,none⟩=some (.string s.2)/\w'.cell? ⟨wb,3,none⟩=some (.slice ra ga.length rc))
    (first|go_keep|exact⟨aA za a0,aA za a1,aA za c3⟩) (first|(go_at_call 143;refine(UK _ ie.out.drew).out.mono ?_;rintro e w2 ⟨rfl,Vc⟩;have za:=aB (r_ _ (w.alloc (GX s.1 s.2))).drew (n_ _) Vc;clear Vc;dsimp only))
   all_goals
    replace ⟨a0,a1,c3⟩:=Fe za a0 a1 c3;have Vl:=aB ie.out (n_ _) za;have f3:=aE Vl iw (HV.out.soft 3);have Kc:=aa (HV.out.on Vl).ga;have BK:=aa Vl;have Ub:=Vl.size;have a0Q:wb<w2.heap.size:=by omega
    have wz:w.heap.size<w2.heap.size:=AZ _ _ a0;have av:some wb≠(FZ ra ga.length rc).ownBlock:=Ne.symm HV.out.nr;have asx:some w.heap.size≠(FZ ra ga.length rc).ownBlock:=fun e=>by have:=HV.out.lt (.inr (.inr e.symm));omega
    obtain⟨i0,Qb,Xb,Yc,te⟩:=info_parts AS;have Od:Hid (∀ j u,[v_ s.1,v_ s.2][j]?=some u->(w2.alloc (GX s.1 s.2)).drew.cell? ((⟨w2.heap.size,0,none⟩:Addr).add j)=some u):=
     World.news_of_block (cs:=#[.string s.1,.string s.2]) (t:=128) (fr:=(0,0)) (heap_alloc_new w2 _)
    have Ci:∀ o,(w2.alloc o).frozen? ⟨wb,3,none⟩=false:=fun o=>aE (a_ _ _) (by show wb<_;omega) f3;clear za Vl;go_wp2
    go_region_law ((refine step_append_lies _ (by rfl) _ _ _ (by rfl) B 128 i0 _ 2 32 underlying37 Qb Xb Yc te rfl (by omega) (.slice ra ga.length rc) _ _ (by rfl) ((Kc.out.alloc _).drew) ⟨w2.heap.size,0,none⟩ 1 1 [.string s.1,.string s.2] (by rfl) (by rfl) Od.out (by simp[Value.oneCell']) (by omega) (by unfold maxLen;omega) (by omega) (by simp;omega) (w2.heap.size+1) (by simp) ?_;intro gk ck w3 Ae Oa Gg mh;have k3:w3.cell? ⟨wb,3,none⟩=some (.slice ra ga.length rc):=Oa.cell (aA (a_ _ _).drew c3) av;have k2:w3.frozen? ⟨wb,3,none⟩=false:=(Oa.frozen_far _ (by simp;omega) av).trans (Ci _)))
    all_goals
     have Ap:=aa (zJc HV.out hB (aB BK.out (n_ _) (a_ w2 (GX s.1 s.2)).drew) Oa Ae (Gg.imp id fun e=>by rw[e];simp));clear k3 k2 Ae Oa Gg mh a0 a1 c3 f3 Ci;go_wp2;go_ret;exact⟨rfl,Ap.out⟩
 ·go_enter func75,ntmps75;go_wp2
  go_region_held3 (fun w'=>w'.cell? ⟨w.heap.size,0,none⟩=some (.string s.1)/\w'.cell? ⟨w.heap.size,1,none⟩=some (.string s.2)/\w'.cell? ⟨wb,3,none⟩=some (.slice ra ga.length rc))
   (first|go_keep|exact⟨aA za a0,aA za a1,aA za c3⟩) (first|(go_at_call 143;refine(UK _ ie.out.drew).out.mono ?_;rintro e w2 ⟨rfl,Vc⟩;have za:=aB (r_ _ (w.alloc (GX s.1 s.2))).drew (n_ _) Vc;clear Vc;dsimp only))
  all_goals
   go_wp2;go_ret;exact⟨rfl,qT HV.out hB (aB ie.out (n_ _) za)⟩
theorem zDI (k head:List UInt8):k.length<=(Z3 k head).length+head.length:=by
 unfold Z3;split
 ·rw[UZ];omega
 ·omega
theorem zJ {k head:List UInt8} (h:jE k head=true):k.length<=head.length+6:=by
 unfold jE bK at h;simp only[E1,decide_eq_true_eq] at h;have:=zDI k head;omega
theorem zDf {k:List UInt8} (h:Fc k=true):k.length<=15:=by
 unfold Fc at h;simp only[Bool.or_eq_true] at h;rcases h with h|h|h
 ·have:=zJ h;simp at this;omega
 ·have:=zJ h;simp at this;omega
 ·unfold kW nY bK ui at h;simp only[E1,decide_eq_true_eq] at h;have h1:=zDI k [109,47];obtain⟨_,_,⟨⟨h2,h3⟩,_⟩,h4,_⟩:=h;rw[XY] at h2 h3;rw[UZ] at h4;simp only[PZ,F3] at h1;omega
def Lp (ba:List ma) (ga:List (BA×BA)) (R:BA->List yb) (since:Int) (key:BA):BA×Bool×Nat:=
 if Fc key.data.toList then match qB ba key with
  | some c=>(c.val,!c.gone,0)
  | none=>if cZ ga (key,cX key)=0 then ((bE (R key) since).1,(bE (R key) since).2,0) else (⟨#[]⟩,false,cZ ga (key,cX key))
 else (⟨#[]⟩,false,3)
def Oe (ba:List ma) (ga:List (BA×BA)) (key:BA):List (BA×BA):=
 if Fc key.data.toList then match qB ba key with
  | some _=>ga
  | none=>gX ga (key,cX key)
 else ga
theorem zLX (key:BA) {n:Nat} (w:World) (hv:VS w B0 vb mb now n D g R) (h:VW w B wb vb since cv rv ba ga) (ha:∀ k,Gb vb mb g k->¬sd wb cv rv k)
  (hB:B<=w.heap.size) (hn:ga.length<=100) (hc:ba.length<=100) (hk:key.size<=maxLen) (hR:(R key).length<=1000000):
  Calls p_ 27 #[.pointer (some ⟨wb,0,none⟩),.string key] w fun e w'=>e=.returned (.tuple #[.string (Lp ba ga R since key).1,.bool (Lp ba ga R since key).2.1,pa (Lp ba ga R since key).2.2])/\vH w w' B wb vb since cv rv ba (Oe ba ga key):=by
 have HV:=aa hv;have HW:=aa h;have HA:=aa ha;have c0:=h.c0;have c1:=h.c1;have c2:=h.c2;clear h hv ha;unfold Lp Oe
 cases Ej:Fc key.data.toList with
 | false=>
  have HE:Hid (pa (if Fc key.data.toList then 0 else 3)=.iface 77 (.int .i64 3)):=by unfold Hid;rw[Ej];rfl
  clear Ej;go_enter func27,ntmps27;go_wp2_with (go_at_call 73;refine(oD key _ hk).mono ?_;rintro e w1 ⟨rfl,Ba⟩;rw[HE.out];have zb:=aa Ba;clear Ba)
  go_ret3;exact⟨rfl,qT HW.out hB zb.out⟩
 | true=>
  have HE:Hid (pa (if Fc key.data.toList then 0 else 3)=.nilIface):=by unfold Hid;rw[Ej];rfl
  have Wh:key.size<=1000:=by have:=zDf Ej;rw[DZ] at this;have e:key.size=key.data.size:=rfl;omega
  clear Ej;simp only[if_true];have HF:=fun w1 (hb:Below w.heap.size w w1)=>aa (zJX ba cv B key w1 ((HW.out.on hb).ba) (by omega))
  cases hf:qB ba key with
  | some c=>
   rw[hf] at HF;simp only at HF;clear hf;go_enter func27,ntmps27;go_wp2_with (first
    | (go_at_call 73;refine(oD key _ hk).mono ?_;rintro e w1 ⟨rfl,Ba⟩;rw[HE.out];have zb:=aa Ba;replace ⟨c0,c1,c2⟩:=Fe Ba c0 c1 c2;clear Ba)
    | (go_at_call 74;refine(HF _ zb.out).out.mono ?_;rintro e w2 ⟨rfl,za⟩;have Cb:=aa (aB zb.out (n_ _) za);clear za))
   obtain⟨-,e1,e2,Nx,-⟩:=Nf w2 (FX c.key c.val c.gone) rfl rfl;go_quiet (fail);go_wp2;go_ret3;exact⟨rfl,qT HW.out hB ((aB Cb.out (n_ _) Nx).trans (below_draws _ _ _))⟩
  | none=>
   rw[hf] at HF;simp only at HF;clear hf;by_cases nf:cZ ga (key,cX key)=0
   ·have Rh:=aa nf;rw[if_pos nf];clear nf;go_enter func27,ntmps27;go_wp2_with (first
     | (go_at_call 73;refine(oD key _ hk).mono ?_;rintro e w1 ⟨rfl,Ba⟩;rw[HE.out];have zb:=aa Ba;replace ⟨c0,c1,c2⟩:=Fe Ba c0 c1 c2;clear Ba)
     | (go_at_call 74;refine(HF _ zb.out).out.mono ?_;rintro e w2 ⟨rfl,za⟩;have Cb:=aa (aB zb.out (n_ _) za);clear za)
     | (go_at_call 76;have Nx:=a_ w2 OX;refine(uT key _ Wh).mono ?_;rintro e w3 ⟨rfl,Ra⟩;have Zc:=aa (aB (aB Cb.out (n_ _) Nx) (n_ _) Ra);clear Ra Nx)
     | (go_at_call 75;refine(mB (key,cX key) _ (HW.out.on Zc.out) (BZ hB Zc.out.size) hn).mono ?_;rintro e w4 ⟨rfl,eh,ti,Eb,SC⟩;rw[Rh.out];simp only[pa];have XL:=aa ti;have jj:=aa ((Zc.out.mono hB).trans Eb);have Hw:=aa (Nd.trans (Nd.on Zc.out) Zc.out.size SC);replace c0:=ti.c0;replace c1:=ti.c1;clear ti Eb SC))
    have HV4:=aa (zFg HV.out Hw.out HA.out).1;have OH:B<=w4.heap.size:=BZ hB jj.out.size;have nS:=ad.some w4;have n0:∀ m:ad w4,m.w.cell? ⟨wb,0,none⟩=some (.pointer (some ⟨vb,0,none⟩)):=fun m=>m.cell c0;have n1:∀ m:ad w4,m.w.cell? ⟨wb,1,none⟩=some (.int .i64 since):=fun m=>m.cell c1;refine dE (by kernel_rfl) (by kernel_rfl) ?_
    repeat (go_big_quiet_step ((first
     | (go_at_call 77;exact fF (zK4 key since _ (HV4.out.on (ad.on _)) hk hR)))))
    refine wpQuiet_nil ?_;intro w5 Lk;replace Lk:=jG Lk;have Wf:=aa Lk;clear Lk;go_wp2;go_ret3;exact⟨rfl,eh,XL.out.on Wf.out,jj.out.trans (Wf.out.mono OH),Nd.trans Hw.out jj.out.size (Nd.on Wf.out)⟩
   ·have he:pa (cZ ga (key,cX key))=.iface 77 (.int .i64 (cZ ga (key,cX key))):=by unfold pa;rw[if_neg nf]
    have Wd:=aa he;rw[if_neg nf];clear nf he;go_enter func27,ntmps27;go_wp2_with (first
     | (go_at_call 73;refine(oD key _ hk).mono ?_;rintro e w1 ⟨rfl,Ba⟩;rw[HE.out];have zb:=aa Ba;replace ⟨c0,c1,c2⟩:=Fe Ba c0 c1 c2;clear Ba)
     | (go_at_call 74;refine(HF _ zb.out).out.mono ?_;rintro e w2 ⟨rfl,za⟩;have Cb:=aa (aB zb.out (n_ _) za);clear za)
     | (go_at_call 76;have Nx:=a_ w2 OX;refine(uT key _ Wh).mono ?_;rintro e w3 ⟨rfl,Ra⟩;have Zc:=aa (aB (aB Cb.out (n_ _) Nx) (n_ _) Ra);clear Ra Nx)
     | (go_at_call 75;refine(mB (key,cX key) _ (HW.out.on Zc.out) (BZ hB Zc.out.size) hn).mono ?_;rintro e w4 ⟨rfl,eh,ti,Eb,SC⟩;rw[Wd.out];have XL:=aa ti;have jj:=aa ((Zc.out.mono hB).trans Eb);have Hw:=aa (Nd.trans (Nd.on Zc.out) Zc.out.size SC);clear ti Eb SC))
    go_ret3;exact⟨by rw[Wd.out];rfl,eh,XL.out,jj.out,Hw.out⟩
end
section
open Go.RowKit Go.Joins
theorem zMv (f:Value) (W:World):Calls p_ 288 #[.slice none 0 0,.int .i64 0,.int .i64 0,f] W fun e W'=>e=.returned (.tuple #[])/\Below W.heap.size W W':=by
 go_enter func288,ntmps288;go_wp2
 go_loopw [8] (fun i wr=>i=.int .i64 1/\wr=W) (fun _ _=>0)
 case atStart=>exact⟨rfl,rfl⟩
 case round=>
  obtain⟨rfl,rfl⟩:=hrel;go_wp2;go_end0;exact⟨rfl,r_ _ _⟩
theorem zMq (f:Value) (l:Int) (W:World):Calls p_ 264 #[.slice none 0 0,.int .i64 0,.int .i64 0,.int .i64 l,f] W fun e W'=>e=.returned (.tuple #[])/\Below W.heap.size W W':=by
 go_enter func264,ntmps264;go_wp2
 go_loopw [1,2] (fun a b wr=>a=.int .i64 0/\b=.int .i64 0/\wr=W) (fun _ _ _=>0)
 case atStart=>exact⟨rfl,rfl,rfl⟩
 case round=>
  obtain⟨rfl,rfl,rfl⟩:=hrel;go_wp2_with (go_at_call 288;refine(zMv f _).mono ?_;rintro e w1 ⟨rfl,hb⟩)
  (try simp only[Exit.inBlock,Exit.then])
  refine bodyPost_ret (results_none rfl _ _ _) rfl ?_;exact⟨rfl,hb⟩
theorem zJ3:zFh:=by
 intro W;go_enter func232,ntmps232;go_wp2_with (first
  | (go_at_call 265;refine(Tryz.bits_Len 0 W (by omega) (by omega)).mono ?_;rintro e w1 ⟨rfl,rfl⟩)
  | (go_at_call 264;refine(zMq _ _ _).mono ?_;rintro e w2 ⟨rfl,hb⟩))
 go_end0;exact⟨rfl,hb⟩
end
section
open Go.RowKit Go.Joins Go.Shelf
attribute [local go_sem ↓] Go.wp_at_zero Go.wp_at_succ
theorem zJ7 (a b:ByteArray) (w:World):(Instr.field 128 (.agg #[.string a,.string b]) 1).run p_ w=.ok (.string b) w:=by
 have h1:=isAgg9;have h2:=sizeOf9;simp[Instr.field,run_underlying underlying128,asAgg,part,h1,go_sem]
theorem zJJ (key:ByteArray) (w:World) (hk:key.size<=1000):
  Calls p_ 132 #[.string key] w fun e w'=>e=.returned (.agg #[.string ⟨#[]⟩,.string (cX key)])/\Below w.heap.size w w':=by
 have HP:=fun w=>aa (uT key w hk);have Dq:=zJ7;obtain⟨r0,r1,hB,h0,fz,-⟩:=Fl w (o_ #[.string ⟨#[]⟩,v_ ⟨#[]⟩] 128) rfl rfl;generalize cX key=z at *;go_enter func132,ntmps132;go_wp2_with (go_at_call 76;refine(HP _).out.mono ?_;rintro e w1 ⟨rfl,hb⟩;replace hB:=aB hB (n_ _) hb;replace fz:=fun j=>aE hb h0 (fz j);replace ⟨r0,r1⟩:=Em hb r0 r1;clear hb h0)
 exact bodyPost_ret (v:=.agg #[.string ⟨#[]⟩,.string z]) (by simp[results,results132,go_sem,r0,r1]) rfl ⟨rfl,(hB.setCell (p:=⟨w.heap.size,0,none⟩) (n_ _) _).setCell (p:=⟨w.heap.size,1,none⟩) (n_ _) _⟩
theorem zJP (a:Addr) (n cap:Nat) (w:World) (hn:n<=cap) (hc:cap<=9223372036854775807):
  Calls p_ 130 #[.slice (some a) n cap] w fun e w'=>e=.returned (.slice (some a) n n)/\Below w.heap.size w w':=by
 have h1:(n:Int)<=(cap:Int):=by omega
 have h2:n<=9223372036854775807:=by omega
 go_enter func130,ntmps130;go_wp2;go_ret;exact⟨rfl,r_ _ _⟩
end
section
open Go.RowKit Go.Joins
def cN (l:List (BA×BA)) (key:BA):Nat:=l.findIdx fun r=>!jb r.1 key
def fK (l:List (BA×BA)) (key:BA):Bool:=match l[cN l key]? with
 | some r=>bc r.1 key
 | none=>false
def mQ (l:List (BA×BA)) (key:BA):Nat:=if fK l key then cN l key+1 else cN l key
def gg (l:List (BA×BA)) (c:ma):List (BA×BA):=l.take (cN l c.key)++(if c.gone then [] else [(c.key,c.val)])++l.drop (mQ l c.key)
theorem oG (l:List (BA×BA)) (key:BA):cN l key<=l.length:=List.findIdx_le_length
theorem lJ (r:BA×BA) (l:List (BA×BA)) (key:BA):cN (r::l) key=if jb r.1 key then cN l key+1 else 0:=by
 unfold cN;rw[List.findIdx_cons];cases jb r.1 key<;>rfl
theorem zBG (h:fK l key=true):cN l key<l.length:=by
 rcases M3 (cN l key) l.length with k|k
 ·exact k
 ·rw[fK,A3 k] at h;cases h
theorem zJ1 (l:List (BA×BA)) (key:BA):mQ l key<=l.length:=by
 unfold mQ;split
 ·rename_i h;exact zBG h
 ·exact oG l key
theorem zAN (h:jb r.1 key=true):fK (r::l) key=fK l key:=by
 unfold fK;rw[lJ,if_pos h,List.getElem?_cons_succ]
theorem zAS (h:jb r.1 key=false):fK (r::l) key=bc r.1 key:=by
 unfold fK;rw[lJ,if_neg (by simp[h]),List.getElem?_cons_zero]
theorem zBZ (h:jb r.1 key=true):mQ (r::l) key=mQ l key+1:=by
 unfold mQ;rw[zAN h,lJ,if_pos h];split<;>rfl
theorem zB5 (h:jb r.1 key=false):mQ (r::l) key=if bc r.1 key then 1 else 0:=by
 unfold mQ;rw[zAS h,lJ,h];cases bc r.1 key<;>rfl
theorem zFL (hl:bV l) (key:BA):l.take (cN l key)=l.filter fun r=>jb r.1 key:=by
 induction l with
 | nil=>rfl
 | cons r l ih=>
  replace hl:=L3.1 hl;rw[lJ]
  cases h:jb r.1 key with
  | true=>simp[h,ih hl.2]
  | false=>
   have:(l.filter fun x=>jb x.1 key)=[]:=C5.2 fun x hx e=>by
    have:=cL (hl.1 x hx) e;rw[h] at this;cases this
   simp[h,this]
theorem zJA (hl:bV l) (key:BA):l.drop (mQ l key)=l.filter fun r=>jb key r.1:=by
 induction l with
 | nil=>rfl
 | cons r l ih=>
  replace hl:=L3.1 hl
  cases h:jb r.1 key with
  | true=>
   have h2:jb key r.1=false:=by
    cases e:jb key r.1 with
    | false=>rfl
    | true=>have:=cL e h;rw[bA] at this;cases this
   rw[zBZ h,A4,ih hl.2];simp[h2]
  | false=>
   rw[zB5 h];have Rp:ng key r.1=true:=by rw[mA,h];rfl
   have Jk:∀ x∈l,jb key x.1=true:=fun x hx=>by
    have h1:=hl.1 x hx;rcases(jM _ _).1 Rp with h2|h2
    ·exact cL h2 h1
    ·rw[h2];exact h1
   have f2:(l.filter fun x=>jb key x.1)=l:=C6.2 Jk
   cases e:bc r.1 key with
   | true=>
    have e2:=(eV _ _).1 e;have Sp:jb key r.1=false:=by rw[e2,bA]
    simp[Sp,f2]
   | false=>
    have Sp:jb key r.1=true:=by
     rcases(jM _ _).1 Rp with h2|h2
     ·exact h2
     ·rw[h2,pG] at e;cases e
    simp[Sp,f2]
theorem zA3 (hl:bV l) (key:BA):(l.filter fun r=>!bc r.1 key)=(l.filter fun r=>jb r.1 key)++l.filter fun r=>jb key r.1:=by
 induction l with
 | nil=>rfl
 | cons r l ih=>
  replace hl:=L3.1 hl;have ih:=ih hl.2
  cases h:jb r.1 key with
  | true=>
   have La:bc r.1 key=false:=rH fun e=>by rw[e,bA] at h;cases h
   have h2:jb key r.1=false:=by
    cases e:jb key r.1 with
    | false=>rfl
    | true=>have:=cL e h;rw[bA] at this;cases this
   simp[h,La,h2,ih]
  | false=>
   have Rp:ng key r.1=true:=by rw[mA,h];rfl
   have Jk:∀ x∈l,jb key x.1=true:=fun x hx=>by
    have h1:=hl.1 x hx;rcases(jM _ _).1 Rp with h2|h2
    ·exact cL h2 h1
    ·rw[h2];exact h1
   have f1:(l.filter fun x=>jb x.1 key)=[]:=C5.2 fun x hx e=>by
    have:=cL (Jk x hx) e;rw[bA] at this;cases this
   have f2:(l.filter fun x=>jb key x.1)=l:=C6.2 Jk;rw[f1,f2] at ih
   cases e:bc r.1 key with
   | true=>
    have e2:=(eV _ _).1 e;have Sp:jb key r.1=false:=by rw[e2,bA]
    simp[h,e,Sp,f1,f2,ih]
   | false=>
    have Sp:jb key r.1=true:=by
     rcases(jM _ _).1 Rp with h2|h2
     ·exact h2
     ·rw[h2,pG] at e;cases e
    simp[h,e,Sp,f1,f2,ih]
theorem zAU (hl:bV l) (c:ma):gg l c=Nb l c:=by
 unfold gg;rw[zFL hl,zJA hl]
 cases h:c.gone with
 | true=>rw[iF h,zA3 hl];simp
 | false=>rw[iX hl h];simp
theorem zHU (hl:bV l) (c:ma) (s:BA×BA):Kg (Nb l c) s=if Fb s.1 s.2 c.key then Nb (Kg l s) c else Kg l s:=by
 unfold Kg
 cases h:c.gone with
 | true=>
  rw[iF h,iF h,B4]
  cases hs:Fb s.1 s.2 c.key with
  | true=>
   rw[if_pos rfl,B4];refine T4 fun r _=>?_;rw[O9]
  | false=>
   rw[if_neg (by simp)];refine T4 fun r _=>?_
   cases he:bc r.1 c.key with
   | false=>simp
   | true=>rw[(eV _ _).1 he,hs];rfl
 | false=>
  rw[iX hl h,J6,WZ]
  cases hs:Fb s.1 s.2 c.key with
  | true=>
   rw[if_pos rfl,if_pos rfl,iX (hl.filter _) h];simp only[B4];congr 1
   ·exact T4 fun r _=>O9 _ _
   ·rw[List.cons.injEq];exact⟨rfl,T4 fun r _=>O9 _ _⟩
  | false=>
   rw[if_neg (by simp),if_neg (by simp),<-J6,<-zA3 hl,B4];refine T4 fun r _=>?_
   cases he:bc r.1 c.key with
   | false=>simp
   | true=>rw[(eV _ _).1 he,hs];rfl
def gP (l:List (BA×BA)) (s:BA×BA) (cs:List ma):List (BA×BA):=cs.foldl (fun l c=>if Fb s.1 s.2 c.key then gg l c else l) l
theorem zGp (l:List (BA×BA)) (s:BA×BA) (cs:List ma) (k:Nat) (hk:k<cs.length):gP l s (cs.take (k+1))=if Fb s.1 s.2 cs[k].key then gg (gP l s (cs.take k)) cs[k] else gP l s (cs.take k):=by
 unfold gP;rw[ZY hk,List.foldl_append];rfl
theorem AT:∀ (cs:List ma) {l:List (BA×BA)},bV l->∀ (s:BA×BA),gP (Kg l s) s cs=Kg (iB l cs) s
 | [],_,_,_=>rfl
 | c::cs,l,hl,s=>by
  have:=AT cs (jO hl c) s;show gP (if Fb s.1 s.2 c.key then gg (Kg l s) c else Kg l s) s cs=Kg (iB (Nb l c) cs) s;rw[<-this,zHU hl,zAU (show bV (Kg l s) from hl.filter _)]
theorem zLk (l:List (BA×BA)) (c:ma):(gg l c).length<=l.length+1:=by
 unfold gg;have h1:=oG l c.key;have h2:=zJ1 l c.key;have h3:cN l c.key<=mQ l c.key:=by unfold mQ;split<;>omega
 simp only[YY,XY,UZ];split<;>simp<;>omega
theorem zBL (l:List (BA×BA)) (s:BA×BA):∀ (cs:List ma),(gP l s cs).length<=l.length+cs.length:=by
 intro cs
 induction cs generalizing l with
 | nil=>exact n_ _
 | cons c cs ih=>
  have h1:=ih (if Fb s.1 s.2 c.key then gg l c else l);have h2:=zLk l c;show(gP (if Fb s.1 s.2 c.key then gg l c else l) s cs).length<=l.length+(cs.length+1);split at h1<;>rename_i hh
  ·rw[if_pos hh];omega
  ·rw[if_neg hh];omega
theorem zME (h:r∈gg l c):r∈l∨r.1=c.key:=by
 unfold gg at h;rcases Q0.1 h with h|h
 ·rcases Q0.1 h with h|h
  ·exact .inl (List.mem_of_mem_take h)
  ·cases hg:c.gone<;>rw[hg] at h
   ·exact .inr (by rw[GZ.1 h])
   ·cases h
 ·exact .inl (A1 h)
theorem zBh {m:Nat} {s:BA×BA}:∀ (cs:List ma) {l:List (BA×BA)},(∀ r∈l,r.1.size<=m)->(∀ c∈cs,c.key.size<=m)->∀ r∈gP l s cs,r.1.size<=m
 | [],_,hl,_=>hl
 | c::cs,l,hl,hc=>by
  have ih:=zBh (s:=s) cs (l:=if Fb s.1 s.2 c.key then gg l c else l) (fun r hr=>by
   split at hr
   ·rcases zME hr with h|h
    ·exact hl r h
    ·rw[h];exact hc c (by simp)
   ·exact hl r hr) (fun x hx=>hc x (by simp[hx]))
  exact ih
end
section
open Go.RowKit Go.Joins Go.Shelf
attribute [local go_sem ↓] Go.wp_at_zero Go.wp_at_succ
theorem zKi {l : List (BA × BA)} (h : i < cN l key) (hl : i < l.length) : jb l[i].1 key = true := by
  have := List.not_of_lt_findIdx (p := fun r : BA × BA => !jb r.1 key) h;simpa using this
theorem zJI {l : List (BA × BA)} (hr : bV l) (h : cN l key ≤ i) (hl : i < l.length) : jb l[i].1 key = false := by
  have hp : cN l key < l.length := by omega
  have h0 : jb l[cN l key].1 key = false := by
    have h2 : (!jb l[cN l key].1 key) = true := List.findIdx_getElem (p := fun r : BA × BA => !jb r.1 key) (xs := l) (w := hp);simpa using h2
  rcases I6 h with e | e
  · subst e; exact h0
  · cases hc : jb l[i].1 key with
    | false => rfl
    | true =>
      have := (J9.1 hr) (cN l key) i hp hl e;have := cL this hc;rw [h0] at this; cases this
def zk (l : List (BA × BA)) (key : BA) (i : Nat) : Bool := match l[i]? with
  | some r => !jb r.1 key
  | none => true
theorem xI {l : List (BA × BA)} (hr : bV l) (hi : i < l.length) : zk l key i = decide (cN l key ≤ i) := by
  unfold zk;rw [VY hi];rcases M3 i (cN l key) with h | h
  · simp only [zKi h hi]; simp; omega
  · simp only [zJI hr h hi]; simp; omega
theorem zEJ (n p : Nat) (hp : p ≤ n) : (T0 n).countP (fun i => !decide (p ≤ i)) = p := by
  induction n with
  | zero => have : p = 0 := by omega
            subst this; rfl
  | succ n ih =>
    rw [List.range_succ, List.countP_append];rcases M3 n p with h | h
    · have e : p = n + 1 := by omega
      subst e;have : (T0 n).countP (fun i => !decide (n + 1 ≤ i)) = n := by
        rw [List.countP_eq_length.2]
        · exact List.length_range
        · intro a ha; have := R9.1 ha; simp; omega
      rw [this]; simp
    · rw [ih h]; simp; omega
theorem zEp {l : List (BA × BA)} (hr : bV l) (key : BA) : (T0 l.length).countP (fun i => !zk l key i) = cN l key := by
  rw [← zEJ l.length (cN l key) (oG l key)];exact List.countP_congr fun i hi => by rw [xI hr (R9.1 hi)]
theorem mZ (w : World) (k : Nat) (os : Array Obj) : Below w.heap.size w (Go.Sort.grow (w.drewN k) os) := by
  refine ⟨rfl, rfl, rfl, ?_, fun i hi => ?_⟩
  · show w.heap.size ≤ (w.heap ++ os).size;simp
  · show (w.heap ++ os)[i]? = w.heap[i]?;rw [Array.getElem?_append_left hi]
theorem zE2 (l : List (BA × BA)) (b off cap ab kb i : Nat) (key : BA) (w : World) (hl : iO w b off l) (ha : w.cell? ⟨ab, 0, none⟩ = some (.slice (some ⟨b, off, none⟩) l.length cap)) (hk : w.cell? ⟨kb, 0, none⟩ = some (.string key)) (hi : i < l.length) :
    Calls p_ 268 (#[.int .i64 i] ++ #[.pointer (some ⟨ab, 0, none⟩), .pointer (some ⟨kb, 0, none⟩)]) w fun e w' => e = .returned (.bool (zk l key i)) ∧ ∃ q AR, w' = Go.Sort.grow (w.drewN q) AR := by
  obtain ⟨c0, _⟩ := hl i hi;have Aa : (i : Int) < (l.length : Int) := by omega
  have h0 : (0 : Int) ≤ (i : Int) := P1 _;have HG : Hid (zk l key i = !jb l[i].1 key) := by unfold Hid zk; rw [VY hi]
  obtain ⟨c, hc⟩ : ∃ c, Op.bytesLess l[i].1.toList key.toList = c := ⟨_, rfl⟩;have HC : Hid (jb l[i].1 key = c) := hc;rw [show (#[i_ .i64 (i : Int)] ++ #[IZ (some ⟨ab, 0, none⟩), IZ (some ⟨kb, 0, none⟩)]) = #[i_ .i64 (i : Int), IZ (some ⟨ab, 0, none⟩), IZ (some ⟨kb, 0, none⟩)] from rfl];clear hl;go_enter func268, ntmps268;go_wp2;go_quiet (fail);go_wp2;go_ret;exact ⟨bB (by rw [HG.out, HC.out]), nq, #[], (by unfold Go.Sort.grow; rw [Array.append_empty])⟩
theorem zGE {l : List (BA × BA)} (hr : bV l) (key : BA) : ∀ a b, a ≤ b → b < l.length → zk l key a = true → zk l key b = true := fun a b gh hb h => by
  rw [xI hr (by omega)] at h;rw [xI hr hb];simp at h ⊢;omega
theorem tX : ∀ args w, (callFunc 268 args).run p_ w = .ok (.enter 268 args) w := enters_of func268 (by kernel_rfl) rfl
theorem zGB (l : List (BA × BA)) (b off cap ab kb : Nat) (key : BA) (w : World) (hl : iO w b off l) (hr : bV l) (ha : w.cell? ⟨ab, 0, none⟩ = some (.slice (some ⟨b, off, none⟩) l.length cap)) (hk : w.cell? ⟨kb, 0, none⟩ = some (.string key)) (hn : l.length ≤ 1000000) :
    Calls p_ 267 #[.int .i64 l.length, .func (.func 268) #[] #[.pointer (some ⟨ab, 0, none⟩), .pointer (some ⟨kb, 0, none⟩)]] w fun e w' => e = .returned (.int .i64 (cN l key)) ∧ Below w.heap.size w w' := by
  refine (Any.sort_Search Tryz.search 268 #[.pointer (some ⟨ab, 0, none⟩), .pointer (some ⟨kb, 0, none⟩)] l.length (zk l key) w tX (by omega) (fun m os i hi => ?_) (zGE hr key)).mono ?_
  · have hb := mZ w m os;exact zE2 l b off cap ab kb i key _ (gW hb hl) (aA hb ha) (aA hb hk) hi
  · rintro e w' ⟨rfl, q, os, rfl⟩;rw [zEp hr];exact ⟨rfl, mZ w q os⟩
theorem zGD (ab kb : Nat) (w : World) :
    Calls p_ 267 #[.int .i64 0, .func (.func 268) #[] #[.pointer (some ⟨ab, 0, none⟩), .pointer (some ⟨kb, 0, none⟩)]] w fun e w' => e = .returned (.int .i64 0) ∧ Below w.heap.size w w' := by
  refine (Any.sort_Search Tryz.search 268 #[.pointer (some ⟨ab, 0, none⟩), .pointer (some ⟨kb, 0, none⟩)] 0 (fun _ => true) w tX (by omega) (fun m os i hi => absurd hi (Nat.not_lt_zero _)) (fun _ _ _ _ h => h)).mono ?_;rintro e w' ⟨rfl, q, os, rfl⟩;exact ⟨rfl, mZ w q os⟩
theorem zEb (l : List (BA × BA)) (b off cap : Nat) (key : BA) (w : World) (hl : iO w b off l) (hr : bV l) (hn : l.length ≤ 1000000) :
    Calls p_ 235 #[.slice (some ⟨b, off, none⟩) l.length cap, .string key] w fun e w' => e = .returned (.tuple #[.int .i64 (cN l key), .bool (fK l key)]) ∧ Below w.heap.size w w' := by
  have Th := a_ w (QY (some ⟨b, off, none⟩) l.length cap);have Qi := a_ (w.alloc (QY (some ⟨b, off, none⟩) l.length cap)) (PX key);have a0 := aA Qi (aC w #[FZ (some ⟨b, off, none⟩) l.length cap] 32 0);have a1 : ((w.alloc (QY (some ⟨b, off, none⟩) l.length cap)).alloc (PX key)).cell? ⟨w.heap.size + 1, 0, none⟩ = some (.string key) := by
    simp
  have HB := aa (aB Th (n_ _) Qi);have Ur := oG l key;have HS := aa (zGB l b off cap w.heap.size (w.heap.size + 1) key _ (gW HB.out hl) hr a0 a1 hn);have HL := aa (gW HB.out hl);have HR := aa hr;obtain ⟨p, hp⟩ : ∃ p, cN l key = p := ⟨_, rfl⟩;have HP := aa hp;rw [hp] at HS Ur ⊢;clear Th Qi hl hr hp;by_cases Aa : p < l.length
  · have Za : (p : Int) < (l.length : Int) := by omega
    have hp0 : (0 : Int) ≤ (p : Int) := P1 _;have HF : Hid (fK l key = (l[p].1.toList == key.toList)) := by unfold Hid fK; rw [HP.out, VY Aa]; rfl
    go_enter func235, ntmps235;go_wp2_with (go_at_call 267; refine HS.out.mono ?_; rintro e w1 ⟨rfl, Ba⟩; replace ⟨a0, a1⟩ := Em Ba a0 a1; have c0 := (gW Ba HL.out p Aa).1; have zb := aa (aB HB.out (n_ _) Ba); clear Ba)
    go_quiet (fail);go_wp2;go_ret2;exact ⟨by rw [HF.out]; rfl, below_drewN zb.out _⟩
  · have Za : ¬ (p : Int) < (l.length : Int) := by omega
    have hd : decide ((p : Int) < (l.length : Int)) = false := by simpa using Za
    have HF : Hid (fK l key = false) := by unfold Hid fK; rw [HP.out, A3 (by omega)]
    go_enter func235, ntmps235;go_wp2_with (go_at_call 267; refine HS.out.mono ?_; rintro e w1 ⟨rfl, Ba⟩; replace ⟨a0, a1⟩ := Em Ba a0 a1; have zb := aa (aB HB.out (n_ _) Ba); clear Ba)
    go_quiet (fail);go_wp2;go_ret2;exact ⟨by rw [HF.out]; rfl, below_drewN zb.out _⟩
theorem zFt (ao : Option Addr) (cap : Nat) (key : BA) (w : World) :
    Calls p_ 235 #[.slice ao 0 cap, .string key] w fun e w' => e = .returned (.tuple #[.int .i64 0, .bool false]) ∧ Below w.heap.size w w' := by
  have Th := a_ w (o_ #[.slice ao 0 cap] 32);have Qi := a_ (w.alloc (o_ #[.slice ao 0 cap] 32)) (PX key);have a0 := aA Qi (aC w #[FZ ao 0 cap] 32 0);have HB := aa (aB Th (n_ _) Qi);clear Th Qi;go_enter func235, ntmps235;go_wp2_with (go_at_call 267; refine (zGD _ _ _).mono ?_; rintro e w1 ⟨rfl, Ba⟩; replace a0 := aA Ba a0; have zb := aa (aB HB.out (n_ _) Ba); clear Ba)
  go_quiet (fail);go_wp2;go_ret2;exact ⟨rfl, below_drewN zb.out _⟩
theorem zFS (l : List (BA × BA)) (v : Value) (B : Nat) (key : BA) (w : World) (ho : Sb w B v l) (hr : bV l) (hn : l.length ≤ 1000000) :
    Calls p_ 235 #[v, .string key] w fun e w' => e = .returned (.tuple #[.int .i64 (cN l key), .bool (fK l key)]) ∧ Below w.heap.size w w' := by
  obtain ⟨ao, cap, rfl, hh⟩ := lV ho;rcases hh with rfl | ⟨b, off, rfl, h⟩
  · exact zFt _ _ _ _
  · exact zEb l b off cap key w h hr hn
end
section
open Go.RowKit Go.Joins
attribute [local go_sem ↓] Go.wp_at_zero Go.wp_at_succ
theorem zEh (xs ys vs:List Value) (i n:Nat) (hx:xs.length=n*2) (hy:ys.length=2) (hv:vs.length=2) (hi:i<n):td (td (xs++ys) ((i+1)*2) (xs.drop (i*2))) (i*2) vs=xs.take (i*2)++(vs++xs.drop (i*2)):=by
 have e1:td (xs++ys) ((i+1)*2) (xs.drop (i*2))=(xs++ys).take ((i+1)*2)++xs.drop (i*2):=by
  have e:(xs++ys).drop ((i+1)*2+(xs.drop (i*2)).length)=[]:=M0 (by rw[YY,UZ];omega);rw[nH _ _ _ (by rw[UZ,YY];omega),e,T1]
 have e0:(xs++ys).take ((i+1)*2)=xs.take ((i+1)*2):=E2 (by omega);rw[e1,e0,nH _ _ _ (by rw[YY,XY,UZ];omega),hv,E2 (by rw[XY];omega),List.take_take,Nat.min_eq_left (by omega),show i*2+2=(i+1)*2 by omega,List.drop_left' (by rw[XY];omega),M5]
theorem zFY (xs zs vs:List Value) (i n:Nat) (hx:xs.length=n*2) (hz:zs.length=(n+1-i)*2) (hv:vs.length=2) (hi:i<n):td (td (xs.take (i*2)++zs) (i*2) vs) ((i+1)*2) (xs.drop (i*2))=xs.take (i*2)++(vs++xs.drop (i*2)):=by
 have hT:(xs.take (i*2)).length=i*2:=by rw[XY];omega
 have e1:td (xs.take (i*2)++zs) (i*2) vs=xs.take (i*2)++vs++zs.drop 2:=by
  rw[nH _ _ _ (by rw[YY];omega),X6 hT,List.drop_append,hT,hv,M0 (by omega),List.nil_append,show i*2+2-i*2=2 by omega]
 have e2:(xs.take (i*2)++vs++zs.drop 2).drop ((i+1)*2+(xs.drop (i*2)).length)=[]:=M0 (by simp only[YY,UZ,hT,hv];omega);rw[e1,nH _ _ _ (by simp only[YY,UZ,hT,hv];omega),X6 (by rw[YY,hT,hv];omega),e2,T1,M5]
theorem yE (B g cap i n vb vc:Nat) (k u:ByteArray) (xs:List Value) (w:World) (ho:w.ownsRow B 142 2 (.slice (some ⟨g,0,none⟩) n cap) n xs) (Sf:∀ x∈xs,x.oneCell'=true) (h0:w.cell? ⟨vb,0,none⟩=some (.string k)) (h1:w.cell? ⟨vb,1,none⟩=some (.string u))
  (ew:vb≠g) (tA:TypeId) (kA:Nat) (si:w.shape? vb=some (tA,kA)) (Ar:∀ j,w.frozen? ⟨vb,j,none⟩=false) (hi:i<n) (hn:n<=1000000) (Oc:n+1<=cap) (bm:cap<=9223372036854775807):
  Calls p_ 269 #[.slice (some ⟨g,0,none⟩) n cap,.int .i64 i,.slice (some ⟨vb,0,none⟩) 1 vc] w fun e w'=>lN w w' e B (.slice (some ⟨g,0,none⟩) n cap) (n+1) (xs.take (i*2)++([.string k,.string u]++xs.drop (i*2))):=by
 have Mf:xs.length=n*2:=ho.1;obtain⟨ys,JQ,hw⟩:=zIG ho (m:=n+1) (by omega) Oc;rw[show n+1-n=1 by omega,Nat.one_mul] at JQ;obtain⟨J,hJ⟩:∃ J,J=i+1:=⟨_,rfl⟩;have Mb:(XZ.info? 142).map (·.size)=some 2:=by
  obtain⟨i0,Qb,_,Yc,_⟩:=info_parts oE;rw[Qb];simp[Yc]
 obtain⟨cur,Bj,Yf⟩:∃ cur,w.heap[g]?=some (.cells cur 142 (0,0))/\cur.size=cap*2:=by
  rcases ho.2 with⟨e,_⟩|⟨g',Pb,cur,e,_,hh,_,_,hs,_⟩
  ·cases e
  ·cases e;exact⟨cur,hh,hs⟩
 have wz:w.shape? g=some (142,cap*2):=by simp[World.shape?,Bj,Yf]
 have vm:∀ lb cb,(callFunc 270 #[.slice (some ⟨vb,0,none⟩) 1 vc,.slice (some ⟨g,J*2,none⟩) lb cb]).run p_ w=.ok (.value (.bool false)) w:=fun lb cb=>by
  rw[run_callFunc_extern func270 (by kernel_rfl) (by kernel_rfl) (by kernel_rfl) (e:=Extern.SlicesOverlaps.overlaps #[32,32] #[4]) (by kernel_rfl),
   Lib.run_overlaps_apart w 32 4 142 underlying32 2 sizeOf142 ⟨vb,0,none⟩ ⟨g,J*2,none⟩ 1 vc lb cb ew tA 142 kA (cap*2) si wz (by omega) (Ar 0) (Ar kA)]
  rfl
 have zg:(xs.drop (i*2)).length=(n-i)*2:=by rw[UZ,Mf];omega
 have Hj:w.drew.ownsRow B 142 2 (.slice (some ⟨g,0,none⟩) (n+1) cap) (n+1) (xs++ys):=hw;obtain⟨mv,Xh⟩:∃ mv,mv=xs.drop (i*2):=⟨_,rfl⟩;rw[<-Xh] at zg;have KC:∀ ty dc sc,(X4 #[32,32] ty #[.slice (some ⟨g,J*2,none⟩) (n+1-J) dc,.slice (some ⟨g,i*2,none⟩) (n+1-i) sc]).run p_ w.drew=.ok (goInt (Y6 (n+1-i) (n+1-J))) (w.drew.setCells g (J*2) mv):=fun ty dc sc=>
  kY w.drew _ _ ty 142 2 g (J*2) (n+1-J) dc ⟨g,i*2,none⟩ (n+1-i) sc mv underlying32 Mb (by rw[zg];congr 1;simp only[M6];split<;>omega)
   (fun j x hj=>by
    have ki:j<mv.length:=(Z0.1 hj).1;rw[F6,Hj.cellAt (i*2+j) (by omega),List.getElem?_append_left (by omega)];rw[Xh,C4] at hj;exact hj)
   (fun j hj=>(cS Hj (J*2+j) (by omega)).1) (fun j hj=>(cS Hj (J*2+j) (by omega)).2) (fun x hx=>Sf x (by rw[Xh] at hx;exact A1 hx))
 obtain⟨W1,Ln⟩:∃ W1,W1=w.drew.setCells g (J*2) mv:=⟨_,rfl⟩;have r1:=cT mv (J*2) w.drew _ Hj;rw[<-Ln] at r1 KC;obtain⟨W2,vq⟩:∃ W2,W2=W1.setCells g (i*2) [.string k,.string u]:=⟨_,rfl⟩;have r2:=cT [.string k,.string u] (i*2) W1 _ r1.1;rw[<-vq] at r2;have XN:∀ ty dc,(X4 #[32,32] ty #[.slice (some ⟨g,i*2,none⟩) (n+1-i) dc,.slice (some ⟨vb,0,none⟩) 1 vc]).run p_ W1=.ok (goInt (Y6 1 (n+1-i))) W2:=fun ty dc=>by
  rw[vq];exact kY W1 _ _ ty 142 2 g (i*2) (n+1-i) dc ⟨vb,0,none⟩ 1 vc _ underlying32 Mb (by rw[show Y6 1 (n+1-i)=1 by simp only[M6];split<;>omega];rfl)
   (fun j x hj=>by
    have:=vP h0 h1 j x hj;rw[F6] at this ⊢;rw[Ln,L9 g _ _ _ _ (fun h _=>absurd h ew)];exact this)
   (fun j hj=>(cS r1.1 (i*2+j) (by simp at hj;omega)).1) (fun j hj=>(cS r1.1 (i*2+j) (by simp at hj;omega)).2) (sB k u)
 have R:Hid (W2.ownsRow B 142 2 (.slice (some ⟨g,0,none⟩) (n+1) cap) (n+1) (xs.take (i*2)++([.string k,.string u]++xs.drop (i*2)))):=by
  have:=r2.1;rw[Xh,hJ,zEh xs ys _ i n Mf JQ rfl hi] at this;exact this
 have RG:Hid (w.grownBy W2 (some g)):=(show w.grownBy W1 (some g) from ⟨r1.2.os,r1.2.tape,r1.2.output,r1.2.size,r1.2.block⟩).trans r2.2;have z2:¬((i:Int)=(n:Int)):=by omega
 have k0:(i:Int)+1=(J:Int):=by omega
 have k1:G0.wrap ((i:Int)+1)=(J:Int):=by rw[k0,YZ];omega
 have k1':G0.wrap (J:Int)=(J:Int):=by rw[YZ];omega
 have k2:(0:Int)<=(J:Int):=P1 _;have k3:(J:Int)<=(n:Int)+1:=by omega
 have k4:(i:Int)<=(n:Int):=by omega
 have k5:(i:Int)<=(n:Int)+1:=by omega
 have k6:¬cap=i:=by omega
 have k7:¬cap=J:=by omega
 have k8:¬(cap:Int)<(n:Int)+1:=by omega
 have k9:(n:Int)+1<=(cap:Int):=by omega
 have NQ:i<=n:=by omega
 have OQ:J<=n+1:=by omega
 have PQ:n+1<=cap:=Oc;have Mw:=aa Ln;clear ho Sf h0 h1 hw Hj r1 r2 Ln vq Xh zg Mf JQ hJ si wz Ar Bj Yf;go_enter func269,ntmps269;go_wp2_with (simp only[vm])
 go_region_law (refine step_copy_runI rfl _ _ 32 32 rfl _ _ (by simp[Q9,Y3]) (by simp[Q9,Y3]) (KC _ _ _) ?_)
 go_wp2_with (at_builtin;refine wpList_copy_runI _ rfl _ _ 32 32 rfl _ _ rfl rfl (XN _ _) ?_)
 go_ret;exact⟨_,rfl,R.out,RG.out⟩
theorem zAQ (B g cap i n vb vc:Nat) (k u:ByteArray) (xs:List Value) (w:World) (ho:w.ownsRow B 142 2 (.slice (some ⟨g,0,none⟩) n cap) n xs) (hB:B<=w.heap.size) (Sf:∀ x∈xs,x.oneCell'=true) (h0:w.cell? ⟨vb,0,none⟩=some (.string k)) (h1:w.cell? ⟨vb,1,none⟩=some (.string u))
  (hi:i<n) (hn:n<=1000000) (Mu:n<=cap) (Oc:cap<n+1):
  Calls p_ 269 #[.slice (some ⟨g,0,none⟩) n cap,.int .i64 i,.slice (some ⟨vb,0,none⟩) 1 vc] w fun e w'=>lN w w' e B (.slice (some ⟨g,0,none⟩) n cap) (n+1) (xs.take (i*2)++([.string k,.string u]++xs.drop (i*2))):=by
 obtain⟨i0,Qb,Xb,Yc,te⟩:=info_parts oE;have Mf:xs.length=n*2:=ho.1;have hgw:g<w.heap.size:=(l_ ho g rfl).2;have bn:vb<w.heap.size:=AZ _ _ h0;obtain⟨J,hJ⟩:∃ J,J=i+1:=⟨_,rfl⟩;have Mb:(XZ.info? 142).map (·.size)=some 2:=by rw[Qb];simp[Yc]
 have hold:(Builtin.firstCells i0.size i (.slice (some ⟨g,0,none⟩) i cap)).run p_ w.drew=.ok (xs.take (i*2)).toArray w.drew:=by
  rw[Yc];exact run_firstCells_some w.drew 2 i ⟨g,0,none⟩ i cap (xs.take (i*2)) (by rw[XY];omega) (fun j x hj=>by
   have ki:j<(xs.take (i*2)).length:=(Z0.1 hj).1;rw[XY] at ki;rw[F6,TZ];rw[List.getElem?_take,if_pos (by omega)] at hj;show w.cell? _=_;rw[ho.cellAt j (by omega)];exact hj)
 have aw:∀ ty,(Builtin.append_ #[32,3] ty #[.slice (some ⟨g,0,none⟩) i cap,.int .i64 ((n:Int)+1-(i:Int))]).run p_ w =
   .ok (.slice (some ⟨w.heap.size,0,none⟩) (n+1) (grownCap w (n+1) cap 142)) (w.drew.alloc (.cells ((xs.take (i*2)).toArray++KZ jg.cells (n+1-i)++KZ jg.cells (grownCap w (n+1) cap 142-(n+1))) 142)):=fun ty=>by
  have h:=Lib.run_append_grow_zeros (P:=p_) w 32 3 ty 142 i0 _ .i64 .i64 underlying32 underlying3 Qb Xb (some ⟨g,0,none⟩) i cap (xs.take (i*2)) hold (n+1-i) (by omega) (by omega) (by omega) (by omega) (by rw[te];omega) (by rw[te,show i+(n+1-i)=n+1 by omega];exact growslice_fits Oc (by omega));rw[show i+(n+1-i)=n+1 by omega] at h;rw[show(n:Int)+1-(i:Int)=((n+1-i:Nat):Int) by omega];exact h
 have hG:=grownCap_ge w (n+1) cap 142;have hM:=grownCap_le_maxLen w (n+1) cap 142 (by unfold maxLen;omega);generalize grownCap w (n+1) cap 142=G at aw hG hM;have Az:∀ q,(KZ jg.cells q).toList.length=q*2:=fun q=>by rw[DZ,size_zeroCells];rfl
 have um:(w.drew.alloc (.cells ((xs.take (i*2)).toArray++KZ jg.cells (n+1-i)++KZ jg.cells (G-(n+1))) 142)).ownsRow B 142 2 (.slice (some ⟨w.heap.size,0,none⟩) (n+1) G) (n+1) (xs.take (i*2)++(KZ jg.cells (n+1-i)).toList):=by
  refine⟨by rw[YY,Az,XY];omega,.inr ⟨w.heap.size,G,_,rfl,hB,heap_alloc_new w.drew _,hG,hM,?_,?_⟩⟩
  ·simp only[Array.size_append,size_zeroCells,List.size_toArray,XY];have:jg.cells.size=2:=rfl;rw[this];omega
  ·rw[f_,f_,X6 (by rw[YY,Az];simp only[XY];omega)]
 generalize Ln:w.drew.alloc (.cells ((xs.take (i*2)).toArray++KZ jg.cells (n+1-i)++KZ jg.cells (G-(n+1))) 142)=W1 at aw um;have Ba:w.grownBy W1 none:=by
  rw[<-Ln];exact⟨rfl,rfl,rfl,by simp,fun q hq _=>Below.heap_alloc w.drew _ q hq⟩
 have c1:∀ a v,w.cell? a=some v->W1.cell? a=some v:=fun a v h=>Ba.cell h (by simp);obtain⟨W2,vq⟩:∃ W2,W2=W1.setCells w.heap.size (i*2) [.string k,.string u]:=⟨_,rfl⟩;have r2:=cT [.string k,.string u] (i*2) W1 _ um;rw[<-vq] at r2;have Cu:∀ ty dc,(X4 #[32,32] ty #[.slice (some ⟨w.heap.size,i*2,none⟩) (n+1-i) dc,.slice (some ⟨vb,0,none⟩) 1 vc]).run p_ W1=.ok (goInt (Y6 1 (n+1-i))) W2:=fun ty dc=>by
  rw[vq];exact kY W1 _ _ ty 142 2 w.heap.size (i*2) (n+1-i) dc ⟨vb,0,none⟩ 1 vc _ underlying32 Mb (by rw[show Y6 1 (n+1-i)=1 by simp only[M6];split<;>omega];rfl)
   (fun j x hj=>c1 _ _ (vP h0 h1 j x hj))
   (fun j hj=>(cS um (i*2+j) (by simp at hj;omega)).1) (fun j hj=>(cS um (i*2+j) (by simp at hj;omega)).2) (sB k u)
 have zg:(xs.drop (i*2)).length=(n-i)*2:=by rw[UZ,Mf];omega
 obtain⟨mv,Xh⟩:∃ mv,mv=xs.drop (i*2):=⟨_,rfl⟩;rw[<-Xh] at zg;obtain⟨W3,FN⟩:∃ W3,W3=W2.drew.setCells w.heap.size (J*2) mv:=⟨_,rfl⟩;have VI:W2.drew.ownsRow B 142 2 (.slice (some ⟨w.heap.size,0,none⟩) (n+1) G) (n+1) (td (xs.take (i*2)++(KZ jg.cells (n+1-i)).toList) (i*2) [.string k,.string u]):=r2.1;have r3:=cT mv (J*2) W2.drew _ VI;rw[<-FN] at r3;have Du:∀ ty dc sc,(X4 #[32,32] ty #[.slice (some ⟨w.heap.size,J*2,none⟩) (n+1-J) dc,.slice (some ⟨g,i*2,none⟩) (n-i) sc]).run p_ W2.drew=.ok (goInt (Y6 (n-i) (n+1-J))) W3:=fun ty dc sc=>by
  rw[FN];exact kY W2.drew _ _ ty 142 2 w.heap.size (J*2) (n+1-J) dc ⟨g,i*2,none⟩ (n-i) sc mv underlying32 Mb (by rw[zg];congr 1;simp only[M6];split<;>omega)
   (fun j x hj=>by
    have ki:j<mv.length:=(Z0.1 hj).1;rw[Xh,C4] at hj;rw[F6];show W2.cell? _=_;rw[vq,L9 _ _ _ _ _ (fun h _=>by have:g=w.heap.size:=h;omega)];refine c1 _ _ ?_;rw[ho.cellAt (i*2+j) (by omega)];exact hj)
   (fun j hj=>(cS VI (J*2+j) (by omega)).1) (fun j hj=>(cS VI (J*2+j) (by omega)).2) (fun x hx=>Sf x (by rw[Xh] at hx;exact A1 hx))
 have R:Hid (W3.ownsRow B 142 2 (.slice (some ⟨w.heap.size,0,none⟩) (n+1) G) (n+1) (xs.take (i*2)++([.string k,.string u]++xs.drop (i*2)))):=by
  have:=r3.1;rw[Xh,hJ,zFY xs _ _ i n Mf (Az _) rfl hi] at this;exact this
 have RG:Hid (w.grownBy W3 (some g)):=by
  have e2:W1.grownBy W2 (some w.heap.size):=r2.2;have e3:W2.grownBy W3 (some w.heap.size):=⟨r3.2.os,r3.2.tape,r3.2.output,r3.2.size,r3.2.block⟩;refine⟨(e3.os.trans e2.os).trans Ba.os,(e3.tape.trans e2.tape).trans Ba.tape,(e3.output.trans e2.output).trans Ba.output,BZ Ba.size (BZ e2.size e3.size),fun q hq _=>?_⟩;have hqn:some q≠some w.heap.size:=fun e=>by cases e;omega
  exact(e3.block q (UY hq (BZ Ba.size e2.size)) hqn).trans ((e2.block q (UY hq Ba.size) hqn).trans (Ba.block q hq (by simp)))
 have z2:¬((i:Int)=(n:Int)):=by omega
 have z3:(cap:Int)<(n:Int)+1:=by omega
 have k0:(i:Int)+1=(J:Int):=by omega
 have k1:G0.wrap ((i:Int)+1)=(J:Int):=by rw[k0,YZ];omega
 have k1':G0.wrap (J:Int)=(J:Int):=by rw[YZ];omega
 have k2:(0:Int)<=(J:Int):=P1 _;have k3:(J:Int)<=(n:Int)+1:=by omega
 have k4:(i:Int)<=(n:Int):=by omega
 have k5:(i:Int)<=(n:Int)+1:=by omega
 have k6:¬cap=i:=by omega
 have k7:¬G=J:=by omega
 have k8:¬G=i:=by omega
 have VM:G<=9223372036854775807:=by unfold maxLen at hM;omega
 have k9:(n:Int)+1<=(G:Int):=by omega
 have NQ:i<=n:=by omega
 have OQ:J<=n+1:=by omega
 have PQ:(i:Int)<=(cap:Int):=by omega
 clear ho Sf h0 h1 hold um Ba c1 r2 VI r3 Ln vq FN Xh zg Mf hJ Az hM Qb Xb Yc te;go_enter func269,ntmps269;go_wp2_with (first
  | (at_builtin;refine U5 _ rfl _ _ _ _ rfl _ _ rfl rfl _ _ (aw _) ?_)
  | (at_builtin;refine wpList_copy_runI _ rfl _ _ 32 32 rfl _ _ rfl rfl (Cu _ _) ?_))
 go_region_law (refine step_copy_runI rfl _ _ 32 32 rfl _ _ (by simp[Q9,Y3]) (by simp[Q9,Y3]) (Du _ _ _) ?_)
 go_wp2;go_ret;exact⟨_,rfl,R.out,RG.out⟩
theorem zI9 (B i n vb vc:Nat) (v:Value) (k u:ByteArray) (xs:List Value) (w:World) (ho:w.ownsRow B 142 2 v n xs) (hB:B<=w.heap.size) (Sf:∀ x∈xs,x.oneCell'=true) (h0:w.cell? ⟨vb,0,none⟩=some (.string k)) (h1:w.cell? ⟨vb,1,none⟩=some (.string u))
  (ew:v.ownBlock≠some vb) (tA:TypeId) (kA:Nat) (si:w.shape? vb=some (tA,kA)) (Ar:∀ j,w.frozen? ⟨vb,j,none⟩=false) (hi:i<=n) (hn:n<=1000000):
  Calls p_ 269 #[v,.int .i64 i,.slice (some ⟨vb,0,none⟩) 1 vc] w fun e w'=>lN w w' e B v (n+1) (xs.take (i*2)++([.string k,.string u]++xs.drop (i*2))):=by
 have Mf:xs.length=n*2:=ho.1;rcases I6 hi with rfl|Aa
 ·rw[LZ (by omega),M0 (by omega),T1];exact zB0 B v i vb vc k u xs w ho hB h0 h1 hn
 ·rcases aX ho with⟨rfl,rfl⟩|⟨g,cap,rfl,_,_,hc,hm⟩
  ·omega
  ·rcases M3 cap (n+1) with hr|hr
   ·exact zAQ B g cap i n vb vc k u xs w ho hB Sf h0 h1 Aa hn hc hr
   ·exact yE B g cap i n vb vc k u xs w ho Sf h0 h1 (fun e=>ew (by rw[e];rfl)) tA kA si Ar Aa hn hr (by unfold maxLen at hm;omega)
theorem sS {e:TypeId} {n:Nat} (h:W.heap=w.heap) (ho:w.ownsRow B e size v n xs):W.ownsRow B e size v n xs:=aI ho fun k _=>by rw[h]
theorem zI6 (xs vs:List Value) (i n:Nat) (hx:xs.length=n*2) (hv:vs.length=2) (hi:i<n):td (td xs (i*2) vs) ((i+1)*2) (xs.drop ((i+1)*2))=xs.take (i*2)++(vs++xs.drop ((i+1)*2)):=by
  have e0:i*2+vs.length=(i+1)*2:=by omega
  have e1:td xs (i*2) vs=xs.take (i*2)++vs++xs.drop ((i+1)*2):=by rw[nH _ _ _ (by omega),e0]
  have hl:(xs.take (i*2)++vs).length=(i+1)*2:=by rw[YY,XY,hv];omega
  have e2:(xs.take (i*2)++vs++xs.drop ((i+1)*2)).drop ((i+1)*2+(xs.drop ((i+1)*2)).length)=[]:=M0 (by rw[YY,hl];omega);rw[e1,nH _ _ _ (by rw[YY,hl];omega),X6 hl,e2,T1,M5]
theorem yW (B g cap i n vb vc:Nat) (k u:ByteArray) (xs:List Value) (w:World) (ho:w.ownsRow B 142 2 (.slice (some ⟨g,0,none⟩) n cap) n xs) (hB:B<=w.heap.size) (h0:w.cell? ⟨vb,0,none⟩=some (.string k)) (h1:w.cell? ⟨vb,1,none⟩=some (.string u))
    (hi:i+1=n) (hn:n<=1000000) (Mu:n<=cap):
    Calls p_ 237 #[.slice (some ⟨g,0,none⟩) n cap,.int .i64 i,.int .i64 n,.slice (some ⟨vb,0,none⟩) 1 vc] w fun e w'=>lN w w' e B (.slice (some ⟨g,0,none⟩) n cap) n (xs.take (i*2)++([.string k,.string u]++xs.drop ((i+1)*2))):=by
  have Mf:xs.length=n*2:=ho.1;obtain⟨v',w',hr,Pj,hg⟩:=yY B (.slice (some ⟨g,0,none⟩) i cap) i (xs.take (i*2)) w (rT ho (m:=i) (by omega)) hB vb vc k u h0 h1 (by omega);have e:xs.drop ((i+1)*2)=[]:=M0 (by omega);rw[e,T1];obtain⟨va,ij,rfl⟩:∃ ao c,v'=.slice ao (i+1) c:=by
    rcases aX Pj with⟨hv,h0⟩|⟨g',c',hv,_⟩
    · omega
    · exact⟨_,_,hv⟩
  rw[hi] at Pj hr;have HO:=aa Pj;have HG:Hid (w.grownBy w' (some g)):=hg;have k1:¬(i:Int)=(n:Int):=by omega
  have k2:(i:Int)<=(n:Int):=by omega
  have k3:(n:Int)<=(cap:Int):=by omega
  have k4:(i:Int)<=(cap:Int):=by omega
  have k5:¬(n:Int)<(n:Int):=by omega
  clear ho Pj hg h0 h1 Mf e hi;go_enter func237,ntmps237;go_wp2_with (at_builtin;refine U5 _ rfl _ _ _ _ rfl _ _ rfl rfl _ _ (hr _) ?_)
  all_goals
    go_ret;exact⟨_,rfl,HO.out,HG.out⟩
theorem zAs (B g cap i n vb vc:Nat) (k u:ByteArray) (xs:List Value) (w:World) (ho:w.ownsRow B 142 2 (.slice (some ⟨g,0,none⟩) n cap) n xs) (Sf:∀ x∈xs,x.oneCell'=true) (h0:w.cell? ⟨vb,0,none⟩=some (.string k)) (h1:w.cell? ⟨vb,1,none⟩=some (.string u))
    (hi:i+1<n) (hn:n<=1000000) (Mu:n<=cap) (bm:cap<=9223372036854775807):
    Calls p_ 237 #[.slice (some ⟨g,0,none⟩) n cap,.int .i64 i,.int .i64 ((i+1:Nat):Int),.slice (some ⟨vb,0,none⟩) 1 vc] w fun e w'=>lN w w' e B (.slice (some ⟨g,0,none⟩) n cap) n (xs.take (i*2)++([.string k,.string u]++xs.drop ((i+1)*2))):=by
  have Mf:xs.length=n*2:=ho.1;obtain⟨J,hJ⟩:∃ J,J=i+1:=⟨_,rfl⟩;rw[<-hJ];have Mb:(XZ.info? 142).map (·.size)=some 2:=by
    obtain⟨i0,Qb,_,Yc,_⟩:=info_parts oE;rw[Qb];simp[Yc]
  have Cu:∀ W:World,W.heap=w.heap->∀ ty dc,(X4 #[32,32] ty #[.slice (some ⟨g,i*2,none⟩) (n-i) dc,.slice (some ⟨vb,0,none⟩) 1 vc]).run p_ W=.ok (goInt (Y6 1 (n-i))) (W.setCells g (i*2) [.string k,.string u]):=fun W hW ty dc=>
    kY W _ _ ty 142 2 g (i*2) (n-i) dc ⟨vb,0,none⟩ 1 vc _ underlying32 Mb (by rw[show Y6 1 (n-i)=1 by simp only[M6];split<;>omega];rfl)
      (fun j x hj=>by rw[b_ (w:=w) (by rw[hW])];exact vP h0 h1 j x hj)
      (fun j hj=>(cS (sS hW ho) (i*2+j) (by simp at hj;omega)).1) (fun j hj=>(cS (sS hW ho) (i*2+j) (by simp at hj;omega)).2) (sB k u)
  have zg:(xs.drop (J*2)).length=(n-J)*2:=by rw[UZ,Mf];omega
  obtain⟨mv,Xh⟩:∃ mv,mv=xs.drop (J*2):=⟨_,rfl⟩;rw[<-Xh] at zg;have Du:∀ W2:World,W2.ownsRow B 142 2 (.slice (some ⟨g,0,none⟩) n cap) n (td xs (i*2) [.string k,.string u])->∀ ty dc sc,(X4 #[32,32] ty #[.slice (some ⟨g,J*2,none⟩) (n-J) dc,.slice (some ⟨g,J*2,none⟩) (n-J) sc]).run p_ W2=.ok (goInt (Y6 (n-J) (n-J))) (W2.setCells g (J*2) mv):=fun W2 h2 ty dc sc=>
    kY W2 _ _ ty 142 2 g (J*2) (n-J) dc ⟨g,J*2,none⟩ (n-J) sc mv underlying32 Mb (by rw[zg];congr 1;simp only[M6];split<;>omega)
      (fun j x hj=>by
        have ki:j<mv.length:=(Z0.1 hj).1;rw[Xh,C4] at hj;rw[F6,h2.cellAt (J*2+j) (by omega),LR _ _ _ _ (by simp only[PZ,F3];omega)];exact hj)
      (fun j hj=>(cS h2 (J*2+j) (by omega)).1) (fun j hj=>(cS h2 (J*2+j) (by omega)).2) (fun x hx=>Sf x (by rw[Xh] at hx;exact A1 hx))
  have Ee:∀ (W:World) ty p c,(Builtin.clear_ #[32] ty #[.slice p 0 c]).run p_ W=.ok (.tuple #[]) W:=fun W ty p c=>by
    cases p<;>simp[Builtin.clear_,run_underlying underlying32]
  have HE:Hid (∀ W:World,W.heap=w.heap->W.os=w.os->W.tape=w.tape->W.output=w.output->((W.setCells g (i*2) [.string k,.string u]).drew.setCells g (J*2) mv).ownsRow B 142 2 (.slice (some ⟨g,0,none⟩) n cap) n (xs.take (i*2)++([.string k,.string u]++xs.drop (J*2)))/\w.grownBy ((W.setCells g (i*2) [.string k,.string u]).drew.setCells g (J*2) mv) (some g)):=fun W hW h1 h2 h3=>by
    have r1:=cT [.string k,.string u] (i*2) W _ (sS hW ho);have r1d:(W.setCells g (i*2) [.string k,.string u]).drew.ownsRow B 142 2 (.slice (some ⟨g,0,none⟩) n cap) n (td xs (i*2) [.string k,.string u]):=r1.1;have r2:=cT mv (J*2) _ _ r1d;refine⟨?_,?_⟩
    · have:=r2.1;rw[Xh,hJ,zI6 xs _ i n Mf rfl (by omega)] at this;rw[Xh,hJ];exact this
    · have e1:=r1.2;have e2:(W.setCells g (i*2) [.string k,.string u]).grownBy ((W.setCells g (i*2) [.string k,.string u]).drew.setCells g (J*2) mv) (some g):=⟨r2.2.os,r2.2.tape,r2.2.output,r2.2.size,r2.2.block⟩;have e0:w.grownBy W (some g):=⟨h1,h2,h3,by rw[hW];exact n_ _,fun q _ _=>by rw[hW]⟩;exact(e0.trans e1).trans e2
  have Cb:Hid (∀ W:World,W.heap=w.heap->(W.setCells g (i*2) [.string k,.string u]).drew.ownsRow B 142 2 (.slice (some ⟨g,0,none⟩) n cap) n (td xs (i*2) [.string k,.string u])):=fun W hW=>(cT [.string k,.string u] (i*2) W _ (sS hW ho)).1;have k1:¬(i:Int)=(J:Int):=by omega
  have k2:(i:Int)<=(n:Int):=by omega
  have k3:(n:Int)<=(cap:Int):=by omega
  have k4:(i:Int)<=(cap:Int):=by omega
  have k5:¬(J:Int)=(n:Int):=by omega
  have k6:(i:Int)<=(J:Int):=by omega
  have k7:(J:Int)<=(n:Int):=by omega
  have k8:(J:Int)<=(cap:Int):=by omega
  have k0:(i:Int)+1=(J:Int):=by omega
  have k9:G0.wrap (J:Int)=(J:Int):=by rw[YZ];omega
  have NQ:(0:Int)<=(J:Int):=P1 _;have OQ:(J:Int)+((n-J:Nat):Int)=(n:Int):=by omega
  have PQ:G0.wrap (n:Int)=(n:Int):=by rw[YZ];omega
  have k13:¬(cap:Int)<(n:Int):=by omega
  have k14:¬cap=i:=by omega
  have k15:¬cap=J:=by omega
  have k16:(0:Int)<=(i:Int):=P1 _;have k17:(i:Int)+1+((n-J:Nat):Int)=(n:Int):=by omega
  have HCA:=aa Cu;have sv:=aa Du;clear ho Sf h0 h1 Xh zg Mf hJ Cu Du;go_enter func237,ntmps237;go_wp2;go_quiet (fail);have hA:=HCA.out (w.drewN nq) rfl;go_wp2;clear hA;have hB:=sv.out ((w.drewN nq).setCells g (i*2) [.string k,.string u]).drew (Cb.out (w.drewN nq) rfl)
  go_region_law (fail)
  go_wp2
  all_goals
    go_ret
    first
    | exact⟨_,rfl,(HE.out (w.drewN nq) rfl rfl rfl rfl).1,(HE.out (w.drewN nq) rfl rfl rfl rfl).2⟩
    | (have h1:=HE.out (w.drewN nq) rfl rfl rfl rfl
       have e:cap=n:=by assumption
       rw[e] at h1;exact⟨_,rfl,h1.1,h1.2⟩)
theorem zGQ (B g cap i n vb vc:Nat) (k u:ByteArray) (xs:List Value) (w:World) (ho:w.ownsRow B 142 2 (.slice (some ⟨g,0,none⟩) n cap) n xs) (hB:B<=w.heap.size) (Sf:∀ x∈xs,x.oneCell'=true) (h0:w.cell? ⟨vb,0,none⟩=some (.string k)) (h1:w.cell? ⟨vb,1,none⟩=some (.string u))
    (hi:i<n) (hn:n<=1000000) (Mu:n<=cap) (bm:cap<=9223372036854775807):
    Calls p_ 237 #[.slice (some ⟨g,0,none⟩) n cap,.int .i64 i,.int .i64 ((i+1:Nat):Int),.slice (some ⟨vb,0,none⟩) 1 vc] w fun e w'=>lN w w' e B (.slice (some ⟨g,0,none⟩) n cap) n (xs.take (i*2)++([.string k,.string u]++xs.drop ((i+1)*2))):=by
  rcases I6 (show i+1<=n from hi) with e|e
  · have:=yW B g cap i n vb vc k u xs w ho hB h0 h1 e hn Mu;rwa [<-e] at this ⊢
  · exact zAs B g cap i n vb vc k u xs w ho Sf h0 h1 e hn Mu bm
end
section
open Go.RowKit Go.Joins Go.Shelf
attribute [local go_sem ↓] Go.wp_at_zero Go.wp_at_succ
theorem sA (l:List (BA×BA)):∀ u∈l.flatMap aV,u.oneCell'=true:=by
 intro u hu;obtain⟨r,_,hu⟩:=List.mem_flatMap.1 hu;simp[aV] at hu;rcases hu with rfl|rfl<;>rfl
theorem sK (l:List (BA×BA)) (i:Nat):(l.flatMap aV).take (i*2)=(l.take i).flatMap aV:=by
 induction l generalizing i with
 | nil=>simp
 | cons r l ih=>
  match i with
  | 0=>simp
  | i+1=>
   rw[J5,A6,J5,<-ih i];show List.take ((i+1)*2) (v_ r.1::v_ r.2::l.flatMap aV)=_;rw[show(i+1)*2=i*2+1+1 by omega,A6,A6];rfl
theorem sO (l:List (BA×BA)) (i:Nat):(l.flatMap aV).drop (i*2)=(l.drop i).flatMap aV:=by
 induction l generalizing i with
 | nil=>simp
 | cons r l ih=>
  match i with
  | 0=>simp
  | i+1=>
   rw[J5,A4,<-ih i];show List.drop ((i+1)*2) (v_ r.1::v_ r.2::l.flatMap aV)=_;rw[show(i+1)*2=i*2+1+1 by omega,A4,A4]
theorem zAh (v:Value) (B i n:Nat) (xs:List Value) (w:World) (ho:w.ownsRow B 142 2 v n xs) (hi:i<=n) (hn:n<=1000000):
  Calls p_ 236 #[v,.int .i64 i,.int .i64 i] w fun e w'=>e=.returned v/\w'=w:=by
 rcases aX ho with⟨rfl,rfl⟩|⟨g,cap,rfl,_,_,hc,hm⟩
 ·have e:i=0:=by omega
  subst e;clear ho;go_enter func236,ntmps236;go_wp2;go_ret;exact⟨rfl,rfl⟩
 ·have h1:(i:Int)<=(n:Int):=by omega
  have h2:(n:Int)<=(cap:Int):=by omega
  unfold maxLen at hm;clear ho;go_enter func236,ntmps236;go_wp2
  all_goals
   go_ret;exact⟨rfl,rfl⟩
theorem zY (B i n vb vc:Nat) (v:Value) (k u:BA) (xs:List Value) (w:World) (ho:w.ownsRow B 142 2 v n xs) (hB:B<=w.heap.size) (Sf:∀ x∈xs,x.oneCell'=true) (h0:w.cell? ⟨vb,0,none⟩=some (.string k)) (h1:w.cell? ⟨vb,1,none⟩=some (.string u))
  (ew:v.ownBlock≠some vb) (tA:TypeId) (kA:Nat) (si:w.shape? vb=some (tA,kA)) (Ar:∀ j,w.frozen? ⟨vb,j,none⟩=false) (hi:i<=n) (hn:n<=1000000):
  Calls p_ 237 #[v,.int .i64 i,.int .i64 i,.slice (some ⟨vb,0,none⟩) 1 vc] w fun e w'=>lN w w' e B v (n+1) (xs.take (i*2)++([.string k,.string u]++xs.drop (i*2))):=by
 have HI:=aa (zI9 B i n vb vc v k u xs w ho hB Sf h0 h1 ew tA kA si Ar hi hn);rcases aX ho with⟨rfl,rfl⟩|⟨g,cap,rfl,_,_,hc,hm⟩
 ·have e:i=0:=by omega
  subst e;clear ho Sf h0 h1 si Ar;go_enter func237,ntmps237;go_wp2_with (go_at_call 269;refine HI.out.mono ?_;rintro e w1 ⟨v',rfl,mc,Co⟩;have HO:=aa mc;have HG:=aa Co;clear mc Co)
  go_ret;exact⟨_,rfl,HO.out,HG.out⟩
 ·have e1:(i:Int)<=(n:Int):=by omega
  have e2:(n:Int)<=(cap:Int):=by omega
  have e3:(i:Int)<=(cap:Int):=by omega
  unfold maxLen at hm;clear ho Sf h0 h1 si Ar;go_enter func237,ntmps237;go_wp2_with (go_at_call 269;refine HI.out.mono ?_;rintro e w1 ⟨v',rfl,mc,Co⟩;have HO:=aa mc;have HG:=aa Co;clear mc Co)
  all_goals
   go_ret;exact⟨_,rfl,HO.out,HG.out⟩
def US (w w':World) (e:Ending) (B:Nat) (l:List (BA×BA)):Prop:=∃ v',e=.returned v'/\Sb w' B v' l/\Below B w w'
theorem zHX (ho:Sb w B v l) (hB:B<=w.heap.size) (hb:Below w.heap.size w w') (he:e=.returned v):US w w' e B l:=⟨v,he,bQ ho hb,hb.mono hB⟩
theorem xL {n:Nat} {ys:List Value} (ho:w1.ownsRow B 142 2 v n xs) (hB:B<=w.heap.size) (hb:Below w.heap.size w w1) (hi:lN w1 w' e B v m ys) (hm:m=l.length) (hy:ys=l.flatMap aV):US w w' e B l:=by
 obtain⟨v',rfl,h1,h2⟩:=hi;subst hy hm;exact⟨v',rfl,h1,(hb.mono hB).grown h2 (BZ hB hb.size) fun k e=>(l_ ho k e).1⟩
theorem zJy (w:World) (C:Array Value) (t:TypeId):(w.alloc (.cells C t)).shape? w.heap.size=some (t,C.size):=by unfold World.shape?;rw[Go.heap_alloc_new]
theorem zMI (l:List (BA×BA)) (v:Value) (B:Nat) (c:ma) (w:World) (ho:Sb w B v l) (hB:B<=w.heap.size) (hr:bV l) (hn:l.length<=100000):
  Calls p_ 197 #[v,.agg #[.string c.key,.string c.val,.bool c.gone]] w fun e w'=>US w w' e B (gg l c):=by
 have HO:=aa ho;have HR:=aa hr;obtain⟨a0,a1,a2,Nc,-⟩:=Nf w (FX c.key c.val c.gone) rfl rfl;have ie:=aa Nc;have Ur:=oG l c.key;have Dq:fK l c.key=true->cN l c.key<l.length:=zBG;have Ii:Hid (gg l c=l.take (cN l c.key)++(if c.gone then [] else [(c.key,c.val)])++l.drop (if fK l c.key then cN l c.key+1 else cN l c.key)):=rfl;obtain⟨va,ij,rfl⟩:∃ ao cap,v=.slice ao l.length cap:=by
  obtain⟨ao,cap,e,_⟩:=lV ho;exact⟨ao,cap,e⟩
 have YG:=fun W (hb:Below w.heap.size w W)=>aa (zFS l _ B c.key W (bQ HO.out hb) hr (by omega));clear ho hr Nc;generalize cN l c.key=p at *;generalize fK l c.key=f at *;generalize a0c:c.gone=gn at *;rw[Ii.out];have Ku:=fun k (e:(FZ va l.length ij).ownBlock=some k)=>(l_ HO.out k e).2;cases f
 ·cases gn
  ·
   simp only[J3,if_false];go_enter func197,ntmps197;go_wp2_with (first
    | (go_at_call 235;refine(YG _ ie.out).out.mono ?_;rintro e w1 ⟨rfl,Ba⟩;replace ⟨a0,a1,a2⟩:=Fe Ba a0 a1 a2;have zb:=aa (aB ie.out (n_ _) Ba);have Na:=zb.out.size;have He:=aa (aB zb.out (n_ _) (a_ w1 (MX c.key c.val)));clear Ba))
   have Ap:=aa (zY B p l.length w1.heap.size 1 (FZ va l.length ij) c.key c.val (l.flatMap aV) _ (bQ HO.out He.out) (BZ hB He.out.size) (sA l) (aC _ _ _ 0) (aC _ _ _ 1) (fun e=>by have:=Ku _ e;omega) 142 2 (zJy _ _ _) (fun j=>aQ _ _ _ j) Ur (by omega));go_wp2_with (first
    | (go_at_call 237;refine Ap.out.mono ?_;rintro e w2 ⟨v',rfl,qc,Hg⟩;have HI:Hid (lN (w1.alloc (MX c.key c.val)) w2 (.returned v') B (FZ va l.length ij) (l.length+1) ((l.flatMap aV).take (p*2)++([.string c.key,.string c.val]++(l.flatMap aV).drop (p*2)))):=⟨v',rfl,qc,Hg⟩;clear qc Hg))
   go_ret;exact xL (bQ HO.out He.out) hB He.out HI.out (by simp;omega) (by rw[sK,sO];simp[aV])
  ·simp only[J3,if_false,if_true];go_enter func197,ntmps197;go_wp2_with (first
    | (go_at_call 235;refine(YG _ ie.out).out.mono ?_;rintro e w1 ⟨rfl,Ba⟩;replace ⟨a0,a1,a2⟩:=Fe Ba a0 a1 a2;have zb:=aa (aB ie.out (n_ _) Ba);clear Ba)
    | (go_at_call 236;refine(zAh _ B p l.length (l.flatMap aV) _ (bQ HO.out zb.out) Ur (by omega)).mono ?_;rintro e w2 ⟨rfl,rfl⟩))
   go_ret;exact zHX (by rw[T1,J2];exact HO.out) hB zb.out rfl
 ·have Mo:=Dq rfl;obtain⟨g,Iq,Ee,bm⟩:∃ g,va=some ⟨g,0,none⟩/\l.length<=ij/\ij<=9223372036854775807:=by
   rcases aX HO.out with⟨_,h0⟩|⟨g,cap,e,_,_,h1,h2⟩
   ·omega
   ·cases e;exact⟨g,rfl,h1,by unfold maxLen at h2;omega⟩
  subst Iq;have e1:((p+1:Nat):Int)=(p:Int)+1:=by omega
  cases gn
  ·simp only[J3,if_false,if_true];go_enter func197,ntmps197;go_wp2_with (first
    | (go_at_call 235;refine(YG _ ie.out).out.mono ?_;rintro e w1 ⟨rfl,Ba⟩;replace ⟨a0,a1,a2⟩:=Fe Ba a0 a1 a2;have zb:=aa (aB ie.out (n_ _) Ba);have Na:=zb.out.size;have He:=aa (aB zb.out (n_ _) (a_ w1 (MX c.key c.val)));clear Ba))
   have Ap:=aa (zGQ B g ij p l.length w1.heap.size 1 c.key c.val (l.flatMap aV) _ (bQ HO.out He.out) (BZ hB He.out.size) (sA l) (aC _ _ _ 0) (aC _ _ _ 1) Mo (by omega) Ee bm);rw[e1] at Ap;go_wp2_with (first
    | (go_at_call 237;refine Ap.out.mono ?_;rintro e w2 ⟨v',rfl,qc,Hg⟩;have HI:Hid (lN (w1.alloc (MX c.key c.val)) w2 (.returned v') B (FZ (some ⟨g,0,none⟩) l.length ij) l.length ((l.flatMap aV).take (p*2)++([.string c.key,.string c.val]++(l.flatMap aV).drop ((p+1)*2)))):=⟨v',rfl,qc,Hg⟩;clear qc Hg))
   go_ret;exact xL (bQ HO.out He.out) hB He.out HI.out (by simp;omega) (by rw[sK,sO];simp[aV])
  ·simp only[if_true];go_enter func197,ntmps197;go_wp2_with (first
    | (go_at_call 235;refine(YG _ ie.out).out.mono ?_;rintro e w1 ⟨rfl,Ba⟩;replace ⟨a0,a1,a2⟩:=Fe Ba a0 a1 a2;have zb:=aa (aB ie.out (n_ _) Ba);clear Ba))
   have Ap:=aa (zJd B g ij p l.length (l.flatMap aV) _ (bQ HO.out zb.out) (sA l) Mo (by omega) Ee bm);rw[e1] at Ap;go_wp2_with (first
    | (go_at_call 236;refine Ap.out.mono ?_;rintro e w2 ⟨rfl,qc,Hg⟩;have HI:Hid (lN w1 w2 (.returned (.slice (some ⟨g,0,none⟩) (l.length-1) ij)) B (FZ (some ⟨g,0,none⟩) l.length ij) (l.length-1) ((l.flatMap aV).take (p*2)++(l.flatMap aV).drop ((p+1)*2))):=⟨_,rfl,qc,Hg⟩;clear qc Hg))
   go_ret;exact xL (bQ HO.out zb.out) hB zb.out HI.out (by simp;omega) (by rw[sK,sO];simp)
end
section
open Go.RowKit Go.Joins Go.Shelf Go.WideShapes
attribute [local go_sem ↓] Go.wp_at_zero Go.wp_at_succ
theorem zAg {s:BA×BA}:∀ (cs:List ma) {l:List (BA×BA)},bV l->bV (gP l s cs)
 | [],_,h=>h
 | c::cs,l,h=>by
  refine zAg cs (l:=if Fb s.1 s.2 c.key then gg l c else l) ?_;split
  ·rw[zAU h];exact jO h c
  ·exact h
def zMP (w w':World) (e:Ending) (L:List (BA×BA)):Prop:=∃ v,e=.returned v/\Below w.heap.size w w'/\Sb w' w.heap.size v L
theorem zKo (s:BA×BA) {n:Nat} (w:World) (hv:VS w B0 vb mb now n D g R) (h:VW w B wb vb since cv rv ba ga)
  (hn:n<=1000000) (hR:∀ key,(R key).length<=1000000) (hP:bV P) (hPl:P.length<=50000) (hPk:∀ r∈P,r.1.size<=1000000) (hs:Mg R since P) (hc:ba.length<=100):
  Calls p_ 129 #[.pointer (some ⟨wb,0,none⟩),.agg #[.string s.1,.string s.2]] w fun e w'=>zMP w w' e (gP (Kg P s) s ba):=by
 have HV:=aa hv;have HR:=aa hR;have HP:=aa hP;have XG:=aa hPk;have HSY:=aa hs;obtain⟨a0,a1,Nc,-⟩:=Fl w (GX s.1 s.2) rfl rfl;have c0:=aA Nc h.c0;have c1:=aA Nc h.c1;have c2:=aA Nc h.c2;have gq:=aa (bQ h.ba Nc);obtain⟨ca,cc,rfl⟩:=iQ h.ba;have ie:=aa Nc;have Dg:=aa (HV.out.on ie.out);have hz:w.heap.size+1=(w.alloc (GX s.1 s.2)).heap.size:=by simp
 clear h hv hR Nc hP hPk hs;go_enter func129,ntmps129;go_wp2;generalize (w.alloc (GX s.1 s.2))=W0 at *
 go_region_held3 (fun w'=>w'.cell? ⟨w.heap.size,0,none⟩=some (.string s.1)/\w'.cell? ⟨w.heap.size,1,none⟩=some (.string s.2)/\w'.cell? ⟨wb,0,none⟩=some (.pointer (some ⟨vb,0,none⟩))/\w'.cell? ⟨wb,1,none⟩=some (.int .i64 since))
  (first|go_keep|exact⟨aA za a0,aA za a1,aA za c0,aA za c1⟩) (first|(go_at_call 196;refine(zJ8 zHl zJ3 s since _ (Dg.out.on (r_ _ _).drew) hn HR.out).mono ?_;rintro e w2 ⟨v,rfl,Vc,F,ho,hs,ly,hm⟩;have za:=aB (r_ _ W0).drew (n_ _) Vc;clear Vc;dsimp only))
 all_goals
  have eF:F=Kg P s:=zM4 HP.out XG.out HSY.out hs ly hm;subst eF;have HO:=aa ho;have Cb:=aa za;replace c2:=aA za c2;clear ho hs ly hm za c0 c1;obtain⟨fa,fc,hfv⟩:=iQ HO.out;subst hfv;go_wp2
  go_loopw [5,23] (fun v5 i wr=>∃ k:Nat,k<=ba.length/\i=.int .i64 k/\Sb wr W0.heap.size v5 (gP (Kg P s) s (ba.take k))/\Below W0.heap.size W0 wr) (fun _ i _=>ba.length-(intOf i).toNat)
  case atStart=>exact⟨0,OZ _,rfl,HO.out,Cb.out⟩
  case round=>
   obtain⟨k,hk,rfl,ya,hB⟩:=hrel;have HW:=aa ya;have Md:=aa hB;have Mb:=hB.size;clear ya hB HO Cb;by_cases Aa:k<ba.length
   ·have Za:(k:Int)<(ba.length:Int):=by omega
    rcases aX gq.out with⟨_,h0⟩|⟨cb,Pb,ecv,_⟩
    ·omega
    cases ecv;have Bf:dG W0 cb 0 ba:=eW ba 0 fun j u hj=>by
     have:=F2.cells gq.out (g:=cb) rfl j u hj;rwa [C1] at this
    obtain⟨d0,d1,d2⟩:=Bf k Aa;rw[TZ] at d0 d1 d2;replace ⟨d0,d1,d2⟩:=Fe Md.out d0 d1 d2;have Ce:=aa (zGp (Kg P s) s ba k Aa);have hlen:(gP (Kg P s) s (ba.take k)).length<=100000:=by
     have h1:=zBL (Kg P s) s (ba.take k);have h2:(Kg P s).length<=P.length:=A7 _ _;have h3:=D6 k ba;omega
    have zi:=aa (zAg (s:=s) (ba.take k) (show bV (Kg P s) from HP.out.filter _));clear Bf;generalize ba[k]=c at *;have b0:=aA Md.out a0;have b1:=aA Md.out a1;generalize gP (Kg P s) s (ba.take k)=L at *;obtain⟨e0,e1,e2,Yy,-⟩:=Nf wr (FX c.key c.val c.gone) rfl rfl;have b0':=aA Yy b0;have IH:=aA Yy b1;replace HW:=aa (bQ HW.out Yy);have VT:=aa (aB Md.out (n_ _) (Yy.mono (by omega)));have XE:W0.heap.size<=(wr.alloc (FX c.key c.val c.gone)).heap.size:=by have:=Yy.size;omega
    clear Yy
    cases hh:Fb s.1 s.2 c.key with
    | true=>
     rw[hh,if_pos rfl] at Ce;go_wp2_with (first
      | (go_at_call 158;refine(pH s.1 s.2 c.key _).mono ?_;rintro e w3 ⟨rfl,Ra⟩;rw[hh];replace HW:=aa (bQ HW.out Ra);replace ⟨e0,e1,e2⟩:=Fe Ra e0 e1 e2;have Zc:=aa (VT.out.trans (Ra.mono XE));have Tf:=Ra.size;clear Ra)
      | (go_at_call 197;refine(zMI L _ W0.heap.size c _ HW.out (Nat.le_trans XE Tf) zi.out hlen).mono ?_;rintro e w4 ⟨v4,rfl,Xm,Eb⟩;have yi:=aa Xm;have jj:=aa (Zc.out.trans Eb);clear Xm Eb))
     exact⟨⟨k+1,by omega,by go_num,by rw[Ce.out];exact yi.out,jj.out⟩,by simp[intOf];omega⟩
    | false=>
     rw[hh,if_neg (by simp)] at Ce;go_wp2_with (first
      | (go_at_call 158;refine(pH s.1 s.2 c.key _).mono ?_;rintro e w3 ⟨rfl,Ra⟩;rw[hh];replace HW:=aa (bQ HW.out Ra);have Zc:=aa (VT.out.trans (Ra.mono XE));clear Ra))
     exact⟨⟨k+1,by omega,by go_num,by rw[Ce.out];exact HW.out,Zc.out⟩,by simp[intOf];omega⟩
   ·have ek:k=ba.length:=by omega
    subst ek;have Za:¬(ba.length:Int)<(ba.length:Int):=by omega
    rw[O1] at HW;obtain⟨ua,uc,hu⟩:=iQ HW.out;subst hu;go_wp2;go_ret;exact⟨_,rfl,ie.out.trans (Md.out.mono (by omega)),vT HW.out (by omega)⟩
end
section
open Go.RowKit Go.Joins Go.Shelf
attribute [local go_sem ↓] Go.wp_at_zero Go.wp_at_succ
def zCE (w:World) (wb:Nat) (s:BA×BA) (P:List (BA×BA)->Prop):Prop:=∀ W,Below w.heap.size w W->Calls p_ 129 #[.pointer (some ⟨wb,0,none⟩),.agg #[.string s.1,.string s.2]] W fun e w'=>∃ v,e=.returned v/\Below W.heap.size W w'/\∃ F,Sb w' W.heap.size v F/\P F
def Ud (F:List (BA×BA)) (s:BA×BA) (m:Nat):BA×BA:=if m<=F.length then (T3 s.1 ⟨#[]⟩,pe s.2 (cX ((F[m-1]?.map (·.1)).getD ⟨#[]⟩))) else s
def xA (w w':World) (e:Ending) (B wb vb:Nat) (since:Int) (cv rv:Value) (ba:List ma) (ga:List (BA×BA)) (s:BA×BA) (m:Nat) (F:List (BA×BA)):Prop:=
 (cZ ga (Ud F s m)=0->∃ ao cap,e=.returned (.tuple #[.slice ao (F.take m).length cap,.nilIface])/\((F.take m).length<=cap/\cap<=9223372036854775807)/\bY w' ao (F.take m)/\∃ eh,VW w' B wb vb since cv eh ba (gX ga (Ud F s m))/\Below B w w'/\Nd w w' wb cv rv cv eh/\∀ b off,ao=some ⟨b,off,none⟩->w.heap.size<=b/\b<w'.heap.size/\¬sd wb cv eh b)/\
 (cZ ga (Ud F s m)≠0->e=.returned (.tuple #[.slice none 0 0,pa (cZ ga (Ud F s m))])/\vH w w' B wb vb since cv rv ba (gX ga (Ud F s m)))
structure RD (w T:World) (rb:Nat) (s:BA×BA) (v:Value) (F:List (BA×BA)):Prop where
 t0:T.cell? ⟨rb,0,none⟩=some (.string s.1)
 t1:T.cell? ⟨rb,1,none⟩=some (.string s.2)
 fz:∀ j,T.frozen? ⟨rb,j,none⟩=false
 d0:T.cell? ⟨w.heap.size,0,none⟩=some (.string s.1)
 d1:T.cell? ⟨w.heap.size,1,none⟩=some (.string s.2)
 Ia:Below w.heap.size w T
 own:Sb T (w.heap.size+1) v F
 lo:w.heap.size<rb
 off:∀ k,v.ownBlock=some k->k≠rb
theorem zMV (hb:Below w.heap.size w w2) (ho:Sb w2 B v F) (hB:w.heap.size+1<=B) (d0:w2.cell? ⟨w.heap.size,0,none⟩=some (.string s.1)) (d1:w2.cell? ⟨w.heap.size,1,none⟩=some (.string s.2)):
  RD w (w2.alloc (GX s.1 s.2)) w2.heap.size s v F:=by
 have Ra:=a_ w2 (GX s.1 s.2);have hl:w.heap.size<w2.heap.size:=AZ _ _ d0;exact⟨aC _ _ _ 0,aC _ _ _ 1,fun j=>aQ _ _ _ j,aA Ra d0,aA Ra d1,aB hb (n_ _) Ra,vT (bQ ho Ra) hB,hl,fun k e=>by have:=(l_ ho k e).2;omega⟩
theorem zM0 (hb:Below w.heap.size w w2) (ho:Sb w2 B v F) (hB:w.heap.size+2<=B) (d0:w2.cell? ⟨w.heap.size,0,none⟩=some (.string s.1)) (d1:w2.cell? ⟨w.heap.size,1,none⟩=some (.string s.2))
  (z0:w2.cell? ⟨w.heap.size+1,0,none⟩=some (.string ⟨#[]⟩)) (z1:w2.cell? ⟨w.heap.size+1,1,none⟩=some (.string ⟨#[]⟩)) (zf:∀ j,w2.frozen? ⟨w.heap.size+1,j,none⟩=false):
  RD w ((w2.setCell ⟨w.heap.size+1,0,none⟩ (.string s.1)).setCell ⟨w.heap.size+1,1,none⟩ (.string s.2)) (w.heap.size+1) s v F:=by
 have hk:∀ k,k≠w.heap.size+1->((w2.setCell ⟨w.heap.size+1,0,none⟩ (.string s.1)).setCell ⟨w.heap.size+1,1,none⟩ (.string s.2)).heap[k]?=w2.heap[k]?:=fun k h=>(h_ _ _ _ _ h).trans (h_ _ _ _ _ h);refine⟨(t_ _ _ _ _ (by simp)).trans (u_ _ _ _ z0),u_ _ _ _ ((t_ _ _ _ _ (by simp)).trans z1),fun j=>by rw[EZ,EZ];exact zf j,(b_ (hk w.heap.size (by omega))).trans d0,(b_ (hk w.heap.size (by omega))).trans d1,(hb.setCell (p:=⟨w.heap.size+1,0,none⟩) (by simp) _).setCell (p:=⟨w.heap.size+1,1,none⟩) (by simp) _,vT (aI ho fun k e=>hk k (by have:=(l_ ho k e).1;omega)) (by omega),by omega,fun k e=>by have:=(l_ ho k e).1;omega⟩
theorem zCD {cap:Nat} {ao:Option Addr} (h:VW w B wb vb since cv rv ba ga) (hB:B<=w.heap.size) (hb:Below w.heap.size w T2) (eo:VW w6 B wb vb since cv Rs ba (gX ga (Ud F s m))) (Pe:Below B T2 w6) (dm:Nd T2 w6 wb cv rv cv Rs)
  (hh:bY T2 ao (F.take m)) (hg:∀ b off,ao=some ⟨b,off,none⟩->w.heap.size<=b/\b<T2.heap.size) (h0:cZ ga (Ud F s m)=0) (he:e=.returned (.tuple #[.slice ao (F.take m).length cap,.nilIface])) (Ri:(F.take m).length<=cap/\cap<=9223372036854775807):xA w w6 e B wb vb since cv rv ba ga s m F:=by
 have hn:∀ b,w.heap.size<=b->¬sd wb cv rv b:=fun b Sd Ig=>by have:=h.lt Ig;omega
 refine⟨fun _=>⟨ao,cap,he,Ri,zC8 hh (fun b off e _=>(dm b (hg b off e).2 (hn b (hg b off e).1)).1),Rs,eo,(hb.mono hB).trans Pe,Nd.trans (Nd.on hb) hb.size dm,fun b off e=>⟨(hg b off e).1,UY (hg b off e).2 Pe.size,(dm b (hg b off e).2 (hn b (hg b off e).1)).2⟩⟩,fun h=>absurd h0 h⟩
theorem zBx (hB:B<=w.heap.size) (hb:Below w.heap.size w T2) (eo:VW w6 B wb vb since cv Rs ba (gX ga (Ud F s m))) (Pe:Below B T2 w6) (dm:Nd T2 w6 wb cv rv cv Rs)
  (h0:cZ ga (Ud F s m)≠0) (he:e=.returned (.tuple #[.slice none 0 0,pa (cZ ga (Ud F s m))])):xA w w6 e B wb vb since cv rv ba ga s m F:=
 ⟨fun h=>absurd h h0,fun _=>⟨he,Rs,eo,(hb.mono hB).trans Pe,Nd.trans (Nd.on hb) hb.size dm⟩⟩
theorem zMz (s:BA×BA) (m:Nat) {P:List (BA×BA)->Prop} (w:World) (h:VW w B wb vb since cv rv ba ga) (hs:zCE w wb s P) (hP:∀ F,P F->F.length<=1000000/\∀ r∈F,r.1.size<=1000)
  (hB:B<=w.heap.size) (hn:ga.length<=100) (hm:1<=m) (iy:m<=9223372036854775807):
  Calls p_ 65 #[.pointer (some ⟨wb,0,none⟩),.agg #[.string s.1,.string s.2],.int .i64 m] w fun e w'=>∃ F,P F/\xA w w' e B wb vb since cv rv ba ga s m F:=by
 have HW:=aa h;have HS:=aa hs;have HP:=aa hP;obtain⟨a0,a1,Nc,-⟩:=Fl w (GX s.1 s.2) rfl rfl;have ie:=aa Nc;have m1:¬((m:Int)<1):=by omega
 clear h hs hP Nc;go_enter func65,ntmps65;go_wp2;rename_i Q K hK;have wm:∀ (T:World) (rb:Nat) (ra:Option Addr) (Mh:Nat) (F:List (BA×BA)),RD w T rb s (.slice ra F.length Mh) F->P F->Exit.then K Q Exit.normal { tmps:=#[IZ (some ⟨wb,0,none⟩),A0 #[v_ s.1,v_ s.2],i_ .i64 (m:Int),undef,IZ (some ⟨w.heap.size,0,none⟩),undef,FZ none 0 0,Value.nilIface,FZ ra F.length Mh,IZ (some ⟨rb,0,none⟩),undef,i_ .i64 (m:Int),D5 false,undef,IZ (some ⟨wb,0,none⟩),A0 #[v_ s.1,v_ s.2],FZ ra F.length Mh,A0 #[v_ s.1,v_ s.2],undef,undef,undef,undef,undef,undef,undef,undef,undef,undef,undef,undef,undef,undef,undef,undef,undef,undef,undef,undef,undef,undef,undef,undef],defers:=[] } T:=by
  intro T rb ra Mh F Zi KI;have di:=aa Zi;have WG:=aa KI;have hl:=(HP.out F KI).1;have yv:=aa (HP.out F KI).2;have t0:=Zi.t0;have t1:=Zi.t1;have tf:=Zi.fz;have d0:=Zi.d0;have d1:=Zi.d1;clear Zi KI a0 a1;by_cases Jr:m<=F.length
  ·have hmI:(m:Int)<=(F.length:Int):=by omega
   rcases aX di.out.own with⟨_,h0⟩|⟨g,Pb,e,Co,Hg,il,Aj⟩
   ·omega
   cases e;have hcI:(m:Int)<=(Mh:Int):=by omega
   have Nv:Mh<=9223372036854775807:=by unfold maxLen at Aj;omega
   have hmc:m<=Mh:=by omega
   have vl:(0:Int)<=(m:Int):=by omega
   have k1:(m:Int)-1=((m-1:Nat):Int):=by omega
   have k2:((m-1:Nat):Int)<(m:Int):=by omega
   have Tn:m-1<F.length:=by omega
   have cK:T.cell? ⟨g,(m-1)*2,none⟩=some (.string F[m-1].1):=(dU gQ di.out.own (m-1) 0 Tn (by omega)).1;have Wh:=yv.out _ (MZ Tn);have zt:g≠rb:=di.out.off g rfl;go_wp2_with (first
    | (go_at_call 130;refine(zJP ⟨g,0,none⟩ m Mh _ hmc Nv).mono ?_;rintro e w3 ⟨rfl,Ra⟩;have Zc:=aa Ra;replace ⟨t0,t1,d0,d1⟩:=Ij Ra t0 t1 d0 d1;replace cK:=aA Ra cK))
   have zi:Hid (Ud F s m=(T3 s.1 ⟨#[]⟩,pe s.2 (cX F[m-1].1))):=by
    unfold Hid Ud;rw[if_pos Jr,VY Tn];rfl
   have Xk:Hid ((F.take m).length=m/\iO T g 0 (F.take m)):=by
    refine⟨by rw[XY];omega,fun i hi=>?_⟩;have Vm:i<F.length:=by rw[XY] at hi;omega
    have e1:=(dU gQ di.out.own i 0 Vm (by omega)).1;have e2:=(dU gQ di.out.own i 1 Vm (by omega)).1;rw[List.getElem_take,TZ];exact⟨e1,e2⟩
   have Yn:rb<w3.heap.size:=AZ _ _ t0;have XI:∀ j,w3.frozen? ⟨rb,j,none⟩=false:=fun j=>aE Ra (show rb<T.heap.size from AZ _ _ di.out.t0) (tf j);have k3:G0.wrap ((m:Int)-1)=((m-1:Nat):Int):=by rw[k1,YZ];omega
   have k4:(0:Int)<=((m-1:Nat):Int):=P1 _;have k5:G0.wrap ((m-1:Nat):Int)=((m-1:Nat):Int):=by rw[YZ];omega
   generalize F[m-1].1=k0 at *;generalize m-1=j0 at *;have HU:=fun w=>aa (zJJ k0 w Wh);clear tf Ra
   go_region_with (first
    | (go_at_call 132;refine(HU _).out.mono ?_;rintro e w4 ⟨rfl,DC⟩;have Eb:Below w3.heap.size w3 w4:=aB (r_ _ _).drew (n_ _) DC;replace ⟨d0,d1,t0,t1⟩:=Ij Eb d0 d1 t0 t1;replace XI:=fun j=>aE Eb Yn (XI j);replace cK:=aA Eb cK;clear DC)
    | (go_at_call 131;refine(zLA s.1 s.2 ⟨#[]⟩ _ _).mono ?_;rintro e w5 ⟨rfl,qe⟩;have XF:=aA qe t0;have t15:=aA qe t1;have SP:rb<w4.heap.size:=AZ _ _ t0;have DR:=fun j=>aE qe SP (XI j)))
   all_goals
    have zu:=aB (aB Zc.out (n_ _) Eb) (n_ _) qe;have ID:∀ k,k≠rb->((w5.setCell ⟨rb,0,none⟩ (.string (T3 s.1 ⟨#[]⟩))).setCell ⟨rb,1,none⟩ (.string (pe s.2 (cX k0)))).heap[k]?=w5.heap[k]?:=fun k h=>(h_ _ _ _ _ h).trans (h_ _ _ _ _ h);have u0:((w5.setCell ⟨rb,0,none⟩ (.string (T3 s.1 ⟨#[]⟩))).setCell ⟨rb,1,none⟩ (.string (pe s.2 (cX k0)))).cell? ⟨rb,0,none⟩=some (.string (Ud F s m).1):=by
     rw[zi.out];exact(t_ _ _ _ _ (by simp)).trans (u_ _ _ _ XF)
    have u1:((w5.setCell ⟨rb,0,none⟩ (.string (T3 s.1 ⟨#[]⟩))).setCell ⟨rb,1,none⟩ (.string (pe s.2 (cX k0)))).cell? ⟨rb,1,none⟩=some (.string (Ud F s m).2):=by
     rw[zi.out];exact u_ _ _ _ ((t_ _ _ _ _ (by simp)).trans t15)
    have Bh:=di.out.lo;have Cb:Hid (Below w.heap.size w ((w5.setCell ⟨rb,0,none⟩ (.string (T3 s.1 ⟨#[]⟩))).setCell ⟨rb,1,none⟩ (.string (pe s.2 (cX k0))))):=((aB di.out.Ia (n_ _) zu).setCell (p:=⟨rb,0,none⟩) (by simp;omega) _).setCell (p:=⟨rb,1,none⟩) (by simp;omega) _;have YC:g<((w5.setCell ⟨rb,0,none⟩ (.string (T3 s.1 ⟨#[]⟩))).setCell ⟨rb,1,none⟩ (.string (pe s.2 (cX k0)))).heap.size:=by have:=zu.size;simp only[World.size_setCell];omega
    have HH:Hid (bY ((w5.setCell ⟨rb,0,none⟩ (.string (T3 s.1 ⟨#[]⟩))).setCell ⟨rb,1,none⟩ (.string (pe s.2 (cX k0)))) (some ⟨g,0,none⟩) (F.take m)):=.inr ⟨g,0,rfl,fun i hi=>by
     obtain⟨e1,e2⟩:=Xk.out.2 i hi;have eb:=(ID g zt).trans (zu.block g Hg);exact⟨(b_ eb).trans e1,(b_ eb).trans e2⟩⟩
    generalize (w5.setCell ⟨rb,0,none⟩ (.string (T3 s.1 ⟨#[]⟩))).setCell ⟨rb,1,none⟩ (.string (pe s.2 (cX k0)))=T2 at u0 u1 Cb YC HH ⊢;clear zu ID XF t15 DR qe Eb t0 t1 d0 d1 cK XI;generalize Yv:Ud F s m=r at *;have Xf:=aa Yv;clear Yv;by_cases nf:cZ ga r=0
    ·have Rh:=aa nf;clear nf;go_wp2_with (first
      | (go_at_call 75;refine(mB r _ (HW.out.on Cb.out) (BZ hB Cb.out.size) hn).mono ?_;rintro e w6 ⟨rfl,Rs,eo,Pe,dm⟩;rw[Rh.out];simp only[pa];have mx:=aa eo;have so:=aa Pe;have Iw:=aa dm;clear eo Pe dm))
     go_ret2;exact⟨F,WG.out,zCD HW.out hB Cb.out (by rw[Xf.out];exact mx.out) so.out Iw.out HH.out (fun b off e=>by cases e;exact⟨by omega,YC⟩) (by rw[Xf.out];exact Rh.out) (by rw[Xk.out.1];rfl) ⟨by rw[Xk.out.1];exact n_ _,iy⟩⟩
    ·have Rh:=aa nf;have he:pa (cZ ga r)=.iface 77 (.int .i64 (cZ ga r)):=by unfold pa;rw[if_neg nf]
     have Wd:=aa he;clear nf he;go_wp2_with (first
      | (go_at_call 75;refine(mB r _ (HW.out.on Cb.out) (BZ hB Cb.out.size) hn).mono ?_;rintro e w6 ⟨rfl,Rs,eo,Pe,dm⟩;rw[Wd.out];have mx:=aa eo;have so:=aa Pe;have Iw:=aa dm;clear eo Pe dm))
     go_ret2;exact⟨F,WG.out,zBx hB Cb.out (by rw[Xf.out];exact mx.out) so.out Iw.out (by rw[Xf.out];exact Rh.out) (by rw[Xf.out,Wd.out];rfl)⟩
  ·have hmI:¬(m:Int)<=(F.length:Int):=by omega
   have lx:Hid (F.take m=F):=LZ (by omega);have Cb:=aa di.out.Ia;have HH:Hid (bY T ra (F.take m)/\∀ b off,ra=some ⟨b,off,none⟩->w.heap.size<=b/\b<T.heap.size):=by
    unfold Hid;rw[lx.out];refine⟨(zJU di.out.own).1,fun b off e=>?_⟩;rcases aX di.out.own with⟨e0,_⟩|⟨g,Pb,e0,h1,h2,_⟩
    ·rw[e] at e0;simp at e0
    ·rw[e] at e0;simp at e0;obtain⟨⟨rfl,_⟩,_⟩:=e0;exact⟨by omega,h2⟩
   have Om:Hid ((F.take m).length<=Mh/\Mh<=9223372036854775807):=by
    unfold Hid;rw[lx.out];rcases aX di.out.own with⟨e0,h0⟩|⟨g,Pb,e0,h1,h2,h3,h4⟩
    ·rw[h0] at e0;simp at e0;rw[h0,e0.2];exact⟨n_ _,by omega⟩
    ·simp at e0;rw[e0.2];unfold maxLen at h4;exact⟨h3,by omega⟩
   have zi:Hid (Ud F s m=s):=if_neg Jr;have u0:T.cell? ⟨rb,0,none⟩=some (.string (Ud F s m).1):=by rw[zi.out];exact t0
   have u1:T.cell? ⟨rb,1,none⟩=some (.string (Ud F s m).2):=by rw[zi.out];exact t1
   clear t0 t1 zi;generalize Yv:Ud F s m=r at *;have Xf:=aa Yv;clear Yv;by_cases nf:cZ ga r=0
   ·have Rh:=aa nf;clear nf;go_wp2_with (first
     | (go_at_call 75;refine(mB r _ (HW.out.on Cb.out) (BZ hB Cb.out.size) hn).mono ?_;rintro e w6 ⟨rfl,Rs,eo,Pe,dm⟩;rw[Rh.out];simp only[pa];have mx:=aa eo;have so:=aa Pe;have Iw:=aa dm;clear eo Pe dm))
    go_ret2;exact⟨F,WG.out,zCD HW.out hB Cb.out (by rw[Xf.out];exact mx.out) so.out Iw.out HH.out.1 HH.out.2 (by rw[Xf.out];exact Rh.out) (by rw[lx.out];rfl) Om.out⟩
   ·have Rh:=aa nf;have he:pa (cZ ga r)=.iface 77 (.int .i64 (cZ ga r)):=by unfold pa;rw[if_neg nf]
    have Wd:=aa he;clear nf he;go_wp2_with (first
     | (go_at_call 75;refine(mB r _ (HW.out.on Cb.out) (BZ hB Cb.out.size) hn).mono ?_;rintro e w6 ⟨rfl,Rs,eo,Pe,dm⟩;rw[Wd.out];have mx:=aa eo;have so:=aa Pe;have Iw:=aa dm;clear eo Pe dm))
    go_ret2;exact⟨F,WG.out,zBx hB Cb.out (by rw[Xf.out];exact mx.out) so.out Iw.out (by rw[Xf.out];exact Rh.out) (by rw[Xf.out,Wd.out];rfl)⟩
 have Ml:=aa wm;clear wm
 go_region_with (first|(go_at_call 129;refine(HS.out _ ?_).mono ?_;exact aB ie.out (n_ _) (by first|exact(r_ _ _).drew|exact(r_ _ _).drew.alloc (by simp) _|exact((r_ _ _).alloc (by simp) _).drew);rintro e w2 ⟨v,rfl,Vc,F,ho,hp⟩;have za:Below (w.alloc (GX s.1 s.2)).heap.size (w.alloc (GX s.1 s.2)) w2:=aB (by first|exact(r_ _ _).drew|exact(r_ _ _).drew.alloc (by simp) _|exact((r_ _ _).alloc (by simp) _).drew) (n_ _) Vc;have d0:=aA za a0;have d1:=aA za a1;have Rn:w.heap.size<w2.heap.size:=AZ _ _ d0;first|(have _:Below (w.alloc (GX s.1 s.2)).drew.heap.size (w.alloc (GX s.1 s.2)).drew w2:=Vc;skip)|(have z0:w2.cell? ⟨w.heap.size+1,0,none⟩=some (.string ⟨#[]⟩):=aA Vc (by simp);have z1:w2.cell? ⟨w.heap.size+1,1,none⟩=some (.string ⟨#[]⟩):=aA Vc (by simp);have zl:w.heap.size+1<w2.heap.size:=AZ _ _ z0;have zf:∀ j,w2.frozen? ⟨w.heap.size+1,j,none⟩=false:=fun j=>aE Vc (by simp) (by simp))))
 all_goals
  have Vl:=aB ie.out (n_ _) za;obtain⟨ra,Mh,rfl⟩:=iQ ho
  first
  | exact Ml.out _ _ ra Mh F (zMV Vl ho (by simp) d0 d1) hp
  | exact Ml.out _ _ ra Mh F (zM0 Vl ho (by simp) d0 d1 z0 z1 zf) hp
theorem zKR (s:BA×BA) (m:Int) (wb:Nat) (w:World) (hm:m<1):
  Calls p_ 65 #[.pointer (some ⟨wb,0,none⟩),.agg #[.string s.1,.string s.2],.int .i64 m] w fun e w'=>e=.returned (.tuple #[.slice none 0 0,pa 1])/\Below w.heap.size w w':=by
 have Nc:=a_ w (GX s.1 s.2);go_enter func65,ntmps65;go_wp2;go_ret2;exact⟨rfl,Nc⟩
abbrev ta:=List (BA×BA)
structure Zk (P:ta) (ba:List ma) (ga:ta):Prop where
 Gm:bV P
 len:P.length<=50
 keys:∀ r∈P,r.1.size<=60
 cn:ba.length<=12
 ck:∀ c∈ba,c.key.size<=60
 cr:Pc ba
 rn:ga.length<=40
structure Sn where
 n:Int
 B0:Nat
 vb:Nat
 mb:Nat
 many:Nat
 now:Int
 D:DataW Value
 g:BA->Value
 R:BA->List yb
 A:Nat->Prop
def PV (w:World) (B wb:Nat) (S:Nat->Prop) (P:ta) (since:Sn) (ba:List ma) (ga:ta):Prop:=
 ∃ (cv rv:Value),VS w since.B0 since.vb since.mb since.now since.many since.D since.g since.R/\VW w B wb since.vb since.n cv rv ba ga/\(S=fun k=>sd wb cv rv k∨Gb since.vb since.mb since.g k)/\(∀ k,Gb since.vb since.mb since.g k->¬sd wb cv rv k)/\Mg since.R since.n P/\since.many<=1000000/\(∀ key,(since.R key).length<=1000000)/\Zk P ba ga/\B<=w.heap.size
theorem PV.kept {P:ta} {since:Sn} {ga:ta} (h:PV w B wb S P since ba ga) (hs:w.heap.size<=w'.heap.size) (hk:∀ k,S k->w'.heap[k]?=w.heap[k]?):PV w' B wb S P since ba ga:=by
 obtain⟨cv,rv,h1,h2,rfl,h4,h5,h6,h7,h8,h9⟩:=h;exact⟨cv,rv,h1.kept fun k e=>hk k (.inr e),h2.kept fun k e=>hk k (.inl e),rfl,h4,h5,h6,h7,h8,BZ h9 hs⟩
theorem PV.lt {P:ta} {since:Sn} {ga:ta} (h:PV w B wb S P since ba ga) (hk:S k):k<w.heap.size:=by
 obtain⟨cv,rv,h1,h2,rfl,h4,h5,h6,h7,h8,h9⟩:=h;exact hk.elim (fun e=>h2.lt e) fun e=>h1.lt e
theorem PV.on {P:ta} {since:Sn} {ga:ta} (h:PV w B wb S P since ba ga) (hb:Below w.heap.size w w'):PV w' B wb S P since ba ga:=
 h.kept hb.size fun k hk=>hb.block k (h.lt hk)
theorem PV.ok {P:ta} {since:Sn} {ga:ta} (h:PV w B wb S P since ba ga):Zk P ba ga:=by
 obtain⟨cv,rv,h1,h2,rfl,h4,h5,h6,h7,h8,h9⟩:=h;exact h8
theorem PV.lo {P:ta} {since:Sn} {ga:ta} (h:PV w B wb S P since ba ga):B<=w.heap.size:=by
 obtain⟨cv,rv,h1,h2,rfl,h4,h5,h6,h7,h8,h9⟩:=h;exact h9
theorem nG {since:Sn} {eh:Value} {P:ta} {ga:ta} (h1:VS w since.B0 since.vb since.mb since.now since.many since.D since.g since.R) (h4:∀ k,Gb since.vb since.mb since.g k->¬sd wb cv rv k) (h5:Mg since.R since.n P) (h6:since.many<=1000000) (h7:∀ key,(since.R key).length<=1000000) (h9:B<=w.heap.size)
  (hw:VW w' B wb since.vb since.n Og eh ba ga) (hb:Below B w w') (hf:Nd w w' wb cv rv Og eh) (ok:Zk P ba ga):
  PV w' B wb (fun k=>sd wb Og eh k∨Gb since.vb since.mb since.g k) P since ba ga/\aG w w' B (fun k=>sd wb cv rv k∨Gb since.vb since.mb since.g k) (fun k=>sd wb Og eh k∨Gb since.vb since.mb since.g k):=by
 obtain⟨a,b⟩:=zFg h1 hf h4;refine⟨⟨Og,eh,a,hw,rfl,b,h5,h6,h7,ok,BZ h9 hb.size⟩,hb,fun j hj hn=>?_⟩;obtain⟨c,d⟩:=hf j hj fun e=>hn (.inl e);exact⟨c,fun e=>e.elim d fun e=>hn (.inr e)⟩
def Zo (w w':World) (B wb:Nat) (S:Nat->Prop) (P:ta) (since:Sn) (ba:List ma) (ga:ta):Prop:=∃ S',PV w' B wb S' P since ba ga/\aG w w' B S S'
theorem xQ {P:ta} {ga:ta} (h:Zk P ba ga) (hc:aD c=0->c.key.size<=60):Zk P (bG ba c) ga:=by
 unfold bG;split
 ·rename_i hf;have kf:aD c=0:=by
   unfold cH at hf;split at hf
   ·assumption
   ·rename_i h';exact absurd hf h'
  have hl:¬12<(Db ba c).length:=by
   intro hl;unfold cH at hf;rw[if_pos kf,if_pos hl] at hf;cases hf
  exact { h with cn:=by omega,cr:=zA8 c h.cr,ck:=fun x hx=>(vU hx).elim (fun e=>by rw[e];exact hc kf) (h.ck x) }
 ·exact h
theorem pZ {l:ta} (h:l.length<=40):(gX l s).length<=40:=by
 unfold gX;split
 ·exact h
 ·split
  ·exact h
  ·rw[YY,List.length_singleton];omega
theorem zIB (key val:BA) {P:ta} {since:Sn} {ga:ta} (w:World) (h:PV w B wb S P since ba ga) (hk:key.size<=maxLen) (hf:aD ⟨key,val,false⟩=0->key.size<=60):
  Calls p_ 28 #[.pointer (some ⟨wb,0,none⟩),.string key,.string val] w fun e w'=>e=.returned (pa (cH ba ⟨key,val,false⟩))/\Zo w w' B wb S P since (bG ba ⟨key,val,false⟩) ga:=by
 obtain⟨cv,rv,h1,h2,rfl,h4,h5,h6,h7,h8,h9⟩:=h;refine(zKP key val w h2 h9 (by have:=h8.cn;omega) hk).mono ?_;rintro e w' ⟨rfl,Og,hw,hb,ic⟩;exact⟨rfl,_,nG h1 h4 h5 h6 h7 h9 hw hb ic (xQ h8 hf)⟩
theorem zHv (key:BA) {P:ta} {since:Sn} {ga:ta} (w:World) (h:PV w B wb S P since ba ga) (hk:key.size<=maxLen) (hf:aD ⟨key,⟨#[]⟩,true⟩=0->key.size<=60):
  Calls p_ 63 #[.pointer (some ⟨wb,0,none⟩),.string key] w fun e w'=>e=.returned (pa (cH ba ⟨key,⟨#[]⟩,true⟩))/\Zo w w' B wb S P since (bG ba ⟨key,⟨#[]⟩,true⟩) ga:=by
 obtain⟨cv,rv,h1,h2,rfl,h4,h5,h6,h7,h8,h9⟩:=h;refine(zEO key w h2 h9 (by have:=h8.cn;omega) hk).mono ?_;rintro e w' ⟨rfl,Og,hw,hb,ic⟩;exact⟨rfl,_,nG h1 h4 h5 h6 h7 h9 hw hb ic (xQ h8 hf)⟩
theorem zLZ {P:ta} {since:Sn} {ga:ta} (w:World) (h:PV w B wb S P since ba ga) (hm:bO w B2 mv mk) (hn:mk.length<=12) (hk:∀ c∈mk,c.key.size<=60) (hr:Pc mk):
  Calls p_ 182 #[.pointer (some ⟨wb,0,none⟩),mv] w fun e w'=>e=.returned (.tuple #[])/\Zo w w' B wb S P since mk ga:=by
 obtain⟨cv,rv,h1,h2,rfl,h4,h5,h6,h7,h8,h9⟩:=h;refine(zKy w h2 h9 hm (by omega)).mono ?_;rintro e w' ⟨rfl,Og,hw,hb,ic⟩;exact⟨rfl,_,nG h1 h4 h5 h6 h7 h9 hw hb ic { h8 with cn:=hn,ck:=hk,cr:=hr }⟩
theorem zFs {P:ta} {since:Sn} {ga:ta} (w:World) (h:PV w B wb S P since ba ga):
  Calls p_ 181 #[.pointer (some ⟨wb,0,none⟩)] w fun e w'=>∃ v,e=.returned v/\bO w' w.heap.size v ba/\Below w.heap.size w w':=by
 obtain⟨cv,rv,h1,h2,rfl,h4,h5,h6,h7,h8,h9⟩:=h;exact zJQ w h2 (by have:=h8.cn;omega)
theorem zNZ {P:ta} {since:Sn} {ga:ta} (w:World) (h:PV w B wb S P since ba ga):
  Calls p_ 35 #[.pointer (some ⟨wb,0,none⟩)] w fun e w'=>∃ v,e=.returned v/\bO w' w.heap.size v ba/\Below w.heap.size w w':=by
 obtain⟨cv,rv,h1,h2,rfl,h4,h5,h6,h7,h8,h9⟩:=h;exact rF w h2 (by have:=h8.cn;omega)
theorem zOW {P:ta} {since:Sn} {ga:ta} (w:World) (h:PV w B wb S P since ba ga):
  Calls p_ 39 #[.pointer (some ⟨wb,0,none⟩)] w fun e w'=>∃ v,e=.returned v/\lL w' w.heap.size v ga/\Below w.heap.size w w':=by
 obtain⟨cv,rv,h1,h2,rfl,h4,h5,h6,h7,h8,h9⟩:=h;exact zIP w h2 (by have:=h8.rn;omega)
def Rb (ba:List ma) (ga P:ta) (key:BA):BA×Bool×Nat:=
 if Fc key.data.toList then match qB ba key with
  | some c=>(c.val,!c.gone,0)
  | none=>if cZ ga (key,cX key)=0 then ((Ib P key).1,(Ib P key).2,0) else (⟨#[]⟩,false,cZ ga (key,cX key))
 else (⟨#[]⟩,false,3)
theorem zDB {ga:ta} (h:ga.length<=40):(Oe ba ga key).length<=40:=by
 unfold Oe;split
 ·split
  ·exact h
  ·exact pZ h
 ·exact h
theorem zMh {ga P:ta} (h:Mg R since P) (key:BA):Lp ba ga R since key=Rb ba ga P key:=by
 unfold Lp Rb;rw[h key]<;>rfl
theorem zMZ (key:BA) {P:ta} {since:Sn} {ga:ta} (w:World) (h:PV w B wb S P since ba ga) (hk:key.size<=maxLen):
  Calls p_ 27 #[.pointer (some ⟨wb,0,none⟩),.string key] w fun e w'=>e=.returned (.tuple #[.string (Rb ba ga P key).1,.bool (Rb ba ga P key).2.1,pa (Rb ba ga P key).2.2])/\Zo w w' B wb S P since ba (Oe ba ga key):=by
 obtain⟨cv,rv,h1,h2,rfl,h4,h5,h6,h7,h8,h9⟩:=h;refine(zLX key w h1 h2 h4 h9 (by have:=h8.rn;omega) (by have:=h8.cn;omega) hk (h7 key)).mono ?_;rintro e w' ⟨rfl,eh,hw,hb,ic⟩;rw[zMh h5];exact⟨rfl,_,nG h1 h4 h5 h6 h7 h9 hw hb ic { h8 with rn:=zDB h8.rn }⟩
def aF (P:ta) (ba:List ma) (s:BA×BA):ta:=gP (Kg P s) s ba
def dL (L ga:ta) (s:BA×BA) (m:Int):Nat:=if m<1 then 1 else cZ ga (Ud L s m.toNat)
def eP (L ga:ta) (s:BA×BA) (m:Int):ta:=if m<1 then ga else gX ga (Ud L s m.toNat)
theorem zHk {L ga:ta} {m:Int} (h:ga.length<=40):(eP L ga s m).length<=40:=by
 unfold eP;split
 ·exact h
 ·exact pZ h
def CT (w w':World) (e:Ending) (B wb:Nat) (S:Nat->Prop) (P:ta) (since:Sn) (ba:List ma) (ga:ta) (s:BA×BA) (m:Int) (L:ta):Prop:=
 (dL L ga s m=0->∃ ao cap,e=.returned (.tuple #[.slice ao (L.take m.toNat).length cap,.nilIface])/\((L.take m.toNat).length<=cap/\cap<=9223372036854775807)/\bY w' ao (L.take m.toNat)/\∃ S',PV w' B wb S' P since ba (eP L ga s m)/\aG w w' B S S'/\∀ b off,ao=some ⟨b,off,none⟩->w.heap.size<=b/\b<w'.heap.size/\¬S' b)/\
 (dL L ga s m≠0->e=.returned (.tuple #[.slice none 0 0,pa (dL L ga s m)])/\Zo w w' B wb S P since ba (eP L ga s m))
theorem jN {P:ta} {ga:ta} (h:Zk P ba ga) (s:BA×BA):(aF P ba s).length<=62/\∀ r∈aF P ba s,r.1.size<=60:=by
 refine⟨?_,zBh ba (fun r hr=>h.keys r (A2.1 hr).1) h.ck⟩;have h1:=zBL (Kg P s) s ba;have h2:(Kg P s).length<=P.length:=A7 _ _;have h3:=h.len;have h4:=h.cn;unfold aF;omega
theorem vM (s:BA×BA) (m:Int) {P:ta} {since:Sn} {ga:ta} (w:World) (h:PV w B wb S P since ba ga) (hm:m<=9223372036854775807):
  Calls p_ 65 #[.pointer (some ⟨wb,0,none⟩),.agg #[.string s.1,.string s.2],.int .i64 m] w fun e w'=>CT w w' e B wb S P since ba ga s m (aF P ba s):=by
 by_cases h0:m<1
 ·refine(zKR s m wb w h0).mono ?_;rintro e w' ⟨rfl,hb⟩;have e1:dL (aF P ba s) ga s m=1:=if_pos h0;have e2:eP (aF P ba s) ga s m=ga:=if_pos h0;unfold CT;rw[e1,e2];exact⟨(fun e=>by cases e),fun _=>⟨rfl,S,h.on hb,.on h.lo hb⟩⟩
 ·have ok:=h.ok;obtain⟨cv,rv,h1,h2,rfl,h4,h5,h6,h7,h8,h9⟩:=h;have e0:(m.toNat:Int)=m:=by omega
  have e1:dL (aF P ba s) ga s m=cZ ga (Ud (aF P ba s) s m.toNat):=if_neg h0;have e2:eP (aF P ba s) ga s m=gX ga (Ud (aF P ba s) s m.toNat):=if_neg h0;have hs:zCE w wb s (fun F=>F=aF P ba s):=fun W hb=>(zKo s W (h1.on hb) (h2.on hb) h6 h7 ok.Gm (by have:=ok.len;omega) (fun r hr=>by have:=ok.keys r hr;omega) h5 (by have:=ok.cn;omega)).mono (by
   rintro e w' ⟨v,rfl,Sd,ho⟩;exact⟨v,rfl,Sd,_,ho,rfl⟩)
  have hc:=zMz s m.toNat w h2 hs (fun F hF=>by rw[hF];exact⟨by have:=(jN ok s).1;omega,fun r hr=>by have:=(jN ok s).2 r hr;omega⟩) h9 (by have:=ok.rn;omega) (by omega) (by omega);rw[e0] at hc;refine hc.mono ?_;rintro e w' ⟨F,rfl,Ek,cg⟩;unfold CT;rw[e1,e2];have Lt:Zk P ba (gX ga (Ud (aF P ba s) s m.toNat)):={ ok with rn:=pZ ok.rn };refine⟨fun hz=>?_,fun hz=>?_⟩
  ·obtain⟨ao,cap,he,Ri,hh,eh,hw,hb,ic,xd⟩:=Ek hz;obtain⟨q1,q2⟩:=nG h1 h4 h5 h6 h7 h9 hw hb ic Lt;refine⟨ao,cap,he,Ri,hh,_,q1,q2,fun b off e=>?_⟩;obtain⟨r1,r2,r3⟩:=xd b off e;exact⟨r1,r2,fun e=>e.elim r3 fun e=>by have:=h1.lt e;omega⟩
  ·obtain⟨he,eh,hw,hb,ic⟩:=cg hz;exact⟨he,_,nG h1 h4 h5 h6 h7 h9 hw hb ic Lt⟩
end
section
open Go.RowKit Go.Joins
theorem oO (h:aD c=0):Fc c.key.data.toList=true/\c.val.size<=40:=by
 unfold aD at h;split at h
 ·cases h
 ·split at h
  ·cases h
  ·split at h
   ·cases h
   ·rename_i h1 _ h3;exact⟨by simpa using h1,by omega⟩
theorem lD (h:aD c=0):c.key.size<=60:=by
 have:=zDf (oO h).1;have e:c.key.data.toList.length=c.key.size:=by rw[DZ];rfl
 omega
theorem wO (l:List (BA×BA)) (ao:Option Addr) (cap rb:Nat) (key:BA) (w:World) (hc:w.cell? ⟨rb,0,none⟩=some (.slice ao l.length cap)) (hl:bY w ao l) (hn:l.length<=maxLen):
  Calls p_ 85 #[.string key,.pointer (some ⟨rb,0,none⟩)] w fun e w'=>e=.returned (.bool (l.any fun s=>Fb s.1 s.2 key))/\Below w.heap.size w w':=by
 go_enter func85,ntmps85;go_wp2_with (go_at_call 86;refine(zKe l _ _ _ _ hl hn).mono ?_;rintro e w1 ⟨rfl,hb⟩)
 go_ret;exact⟨rfl,hb⟩
def MR (w:World) (g:Nat) (ks:List BA):Prop:=∀ i (hi:i<ks.length),w.cell? ⟨g,i,none⟩=some (.string ks[i])
theorem zG7 {g:Nat} (hb:Below w.heap.size w w') (h:MR w g ks):MR w' g ks:=fun i hi=>aA hb (h i hi)
theorem zJn (hk:k<ks.length) (h:(ks.take k).any f=false) (h2:f ks[k]=false):(ks.take (k+1)).any f=false:=by
 rw[ZY hk,List.any_append,h];simp[h2]
theorem zKz (hk:k<ks.length) (h:f ks[k]=true):ks.any f=true:=by
 rw[List.any_eq_true];exact⟨ks[k],MZ hk,h⟩
theorem zAr (ks:List BA) (g kc:Nat) (l:List (BA×BA)) (ao:Option Addr) (cap rb:Nat) (w:World) (hk:MR w g ks) (RO:ks.length<=1000000) (hc:w.cell? ⟨rb,0,none⟩=some (.slice ao l.length cap)) (hl:bY w ao l) (hn:l.length<=maxLen):
  Calls p_ 155 #[.slice (some ⟨g,0,none⟩) ks.length kc,.func (Fn.func 85) #[] #[.pointer (some ⟨rb,0,none⟩)]] w
   fun e w'=>(∃ i:Int,e=.returned (.int .i64 i)/\decide (0<=i)=ks.any fun k=>l.any fun s=>Fb s.1 s.2 k)/\Below w.heap.size w w':=by
 go_enter func155,ntmps155;go_wp2
 go_loopw [8] (fun i wr=>∃ k:Nat,k<=ks.length/\i=.int .i64 k/\(ks.take k).any (fun k=>l.any fun s=>Fb s.1 s.2 k)=false/\Below w.heap.size w wr) (fun i _=>ks.length-(intOf i).toNat)
 case atStart=>exact⟨0,OZ _,rfl,by simp,r_ _ _⟩
 case round=>
  obtain⟨k,ml,rfl,xe,hB⟩:=hrel;have HA:=aa xe;clear xe;by_cases Aa:k<ks.length
  ·have c0:=zG7 hB hk k Aa;have cr:=aA hB hc;have HL:=aa (lX hB hl)
   cases hh:l.any fun s=>Fb s.1 s.2 ks[k] with
   | true=>
    have HH:=aa hh;clear hh;go_wp2_with (go_at_call 85;refine(wO l ao cap rb _ _ cr HL.out hn).mono ?_;rintro e w1 ⟨rfl,hb⟩;rw[HH.out];replace hB:=aB hB (n_ _) hb;clear hb)
    go_ret;exact⟨⟨k,rfl,by rw[zKz Aa HH.out];simp⟩,hB⟩
   | false=>
    have HH:=aa hh;clear hh;go_wp2_with (go_at_call 85;refine(wO l ao cap rb _ _ cr HL.out hn).mono ?_;rintro e w1 ⟨rfl,hb⟩;rw[HH.out];replace hB:=aB hB (n_ _) hb;clear hb)
    go_roundw
    case rel=>exact⟨k+1,by omega,by go_num,zJn Aa HA.out HH.out,hB⟩
    case measure=>simp[intOf];omega
  ·go_wp2;go_ret;refine⟨⟨-1,rfl,?_⟩,hB⟩;have e:ks.take k=ks:=LZ (by omega);have:=HA.out;rw[e] at this;rw[this];rfl
theorem zCg (ao:Option Addr) (kc:Nat) (f:Value) (w:World):
  Calls p_ 155 #[.slice ao 0 kc,f] w fun e w'=>e=.returned (.int .i64 (-1))/\w'=w:=by
 go_enter func155,ntmps155;go_wp2;refine wp_loop_rounds 1 ?_;rw[rounds_succ];go_wp2;go_ret;exact⟨rfl,rfl⟩
theorem pR (B:Nat) (v:Value) (ks:List BA) (l:List (BA×BA)) (ao:Option Addr) (cap rb:Nat) (w:World) (hk:w.ownsRow B 9 1 v ks.length (ks.map v_)) (RO:ks.length<=1000000) (hc:w.cell? ⟨rb,0,none⟩=some (.slice ao l.length cap)) (hl:bY w ao l) (hn:l.length<=maxLen):
  Calls p_ 84 #[v,.func (Fn.func 85) #[] #[.pointer (some ⟨rb,0,none⟩)]] w
   fun e w'=>e=.returned (.bool (ks.any fun k=>l.any fun s=>Fb s.1 s.2 k))/\Below w.heap.size w w':=by
 rcases zHo hk with⟨rfl,rfl⟩|⟨g,kc,rfl,_,_,hk⟩
 ·go_enter func84,ntmps84;go_wp2_with (go_at_call 155;refine(zCg _ _ _ _).mono ?_;rintro e w1 ⟨rfl,rfl⟩)
  go_ret;exact⟨rfl,r_ _ _⟩
 ·go_enter func84,ntmps84;go_wp2_with (go_at_call 155;refine(zAr ks g kc l ao cap rb _ hk RO hc hl hn).mono ?_;rintro e w1 ⟨⟨i,rfl,hi⟩,hb⟩)
  go_ret;exact⟨rfl,hb⟩
def Bw (vg:List (BA×BA)) (p:aU×Value):Bool:=JT vg p.1
theorem zKd (dv:List (aU×Value)) (vg:List (BA×BA)) (n:Int):lC (xb dv) vg n=(dv.drop (cR (xb dv) n)).all fun p=>!Bw vg p:=by
 unfold lC Bw xb;rw[<-List.map_drop,List.all_map];rfl
theorem zIe {l:List (aU×Value)} {f:aU×Value->Bool} (hk:k<l.length) (h:(l.take k).all f=true) (h2:f l[k]=true):(l.take (k+1)).all f=true:=by
 rw[ZY hk,List.all_append,h];simp[h2]
theorem zJ0 {l:List (aU×Value)} {f:aU×Value->Bool} (hk:k<l.length) (h:f l[k]=false):l.all f=false:=by
 rw[List.all_eq_false];exact⟨l[k],MZ hk,by simp[h]⟩
theorem zIq (dv:List (aU×Value)) (B hb:Nat) {Xc:Nat->Option Value} (v:Value) (n:Int) (l:List (BA×BA)) (ao:Option Addr) (cap:Nat) (w:World) (h:bP w B hb Xc v dv) (hr:gS (xb dv)) (hn:dv.length<=1000) (Wh:∀ p∈dv,p.1.keys.length<=1000000)
  (hl:bY w ao l) (Tv:l.length<=maxLen):
  Calls p_ 38 #[.pointer (some ⟨hb,2,none⟩),.slice ao l.length cap,.int .i64 n] w fun e w'=>e=.returned (.bool (lC (xb dv) l n))/\Below w.heap.size w w':=by
 have HC:=aa (zKd dv l n);have hK:cR (xb dv) n<=dv.length:=by have:=zBi (xb dv) n;simpa[xb] using this
 obtain⟨K,Kv⟩:∃ K,cR (xb dv) n=K:=⟨_,rfl⟩;rw[Kv] at HC hK;have HK:=aa Kv;clear Kv;have Ba:=a_ w (OY ao l.length cap);have HH:=aa (h.on Ba);have HL:=aa (lX Ba hl);have HR:=aa hr;have cr:(w.alloc (OY ao l.length cap)).cell? ⟨w.heap.size,0,none⟩=some (.slice ao l.length cap):=aC _ _ _ 0;have ch:=HH.out.cell;have HB:=aa Ba;clear h hl hr Ba;rcases HH.out.form with⟨rfl,rfl⟩|⟨g,Oi,rfl,_,_,il,Aj,_⟩
 ·have JB:K=0:=by simpa using hK
  subst JB;go_enter func38,ntmps38;go_wp2;generalize hX:w.alloc (OY ao l.length cap)=X at HH HL HB cr ch ⊢;have nS:=ad.some X;have n0:∀ m:ad X,m.w.cell? ⟨hb,2,none⟩=some (.slice none 0 0):=fun m=>m.cell ch;refine dE (by kernel_rfl) (by kernel_rfl) ?_
  repeat (go_big_quiet_step ((first
   | (go_at_call 83;rename_i m;exact fF (sD (lY [] B hb _ n _ (HH.out.on m.on) HR.out (by simp)) (show _=i_ .i64 0 by rw[HK.out];rfl))))))
  refine wpQuiet_nil ?_;intro w3 uf;replace uf:=jG uf;go_wp2;refine wp_loop_rounds 1 ?_;rw[rounds_succ];go_wp2;go_ret;exact⟨bB (by rw[HC.out];rfl),aB HB.out (n_ _) uf⟩
 ·have hcK:K<=Oi:=by omega
  have k0:(0:Int)<=(K:Int):=P1 _;have k1:(K:Int)<=(Oi:Int):=by omega
  rcases I6 hcK with Ao|Ao
  ·subst Ao;have KB:dv.length=K:=by omega
   go_enter func38,ntmps38;go_wp2;generalize hX:w.alloc (OY ao l.length cap)=X at HH HL HB cr ch ⊢;have nS:=ad.some X;have n0:∀ m:ad X,m.w.cell? ⟨hb,2,none⟩=some (.slice (some ⟨g,0,none⟩) dv.length K):=fun m=>m.cell ch;refine dE (by kernel_rfl) (by kernel_rfl) ?_
   repeat (go_big_quiet_step ((first
    | (go_at_call 83;rename_i m;exact fF (sD (lY dv B hb _ n _ (HH.out.on m.on) HR.out (by omega)) (show _=i_ .i64 K by rw[HK.out]))))))
   refine wpQuiet_nil ?_;intro w3 uf;replace uf:=jG uf;go_wp2;refine wp_loop_rounds 1 ?_;rw[rounds_succ];go_wp2;go_ret;exact⟨bB (by rw[HC.out,M0 (by omega)];rfl),aB HB.out (n_ _) uf⟩
  ·go_enter func38,ntmps38;go_wp2;generalize hX:w.alloc (OY ao l.length cap)=X at HH HL HB cr ch ⊢;have nS:=ad.some X;have n0:∀ m:ad X,m.w.cell? ⟨hb,2,none⟩=some (.slice (some ⟨g,0,none⟩) dv.length Oi):=fun m=>m.cell ch;refine dE (by kernel_rfl) (by kernel_rfl) ?_
   repeat (go_big_quiet_step ((first
    | (go_at_call 83;rename_i m;exact fF (sD (lY dv B hb _ n _ (HH.out.on m.on) HR.out (by omega)) (show _=i_ .i64 K by rw[HK.out]))))))
   refine wpQuiet_nil ?_;intro w3 uf;replace uf:=jG uf;clear n0 nS hX;go_wp2
   go_loopw [18] (fun i wr=>∃ k:Nat,k<=dv.length-K/\i=.int .i64 k/\((dv.drop K).take k).all (fun p=>!Bw l p)=true/\Below X.heap.size X wr) (fun i _=>dv.length-K-(intOf i).toNat)
   case atStart=>exact⟨0,OZ _,rfl,by simp,uf⟩
   case round=>
    obtain⟨k,hk,rfl,pg,hB⟩:=hrel;have HA:=aa pg;clear pg uf;by_cases Aa:k<dv.length-K
    ·have Za:(k:Int)<((dv.length-K:Nat):Int):=by omega
     have Hr:k<(dv.drop K).length:=by rw[UZ];exact Aa
     have WM:=HH.out.on hB;obtain⟨c0,c1⟩:=WM.Gv rfl (K+k) (by omega);have e2:(K+k)*2=K*2+k*2:=by omega
     rw[e2] at c0 c1;have Dk:dv[K+k]∈dv:=MZ _;have Io:=WM.keys _ Dk;have Ui:=Wh _ Dk;obtain⟨xa,xl,xc,Gj⟩:∃ xa xl xc,dv[K+k].2=.slice xa xl xc:=by
      rcases aX Io with⟨e,_⟩|⟨g',Pb,e,_⟩
      ·exact⟨_,_,_,e⟩
      ·exact⟨_,_,_,e⟩
     rw[Gj] at c1 Io;clear Gj;have HE:Hid ((dv.drop K)[k]=dv[K+k]):=by unfold Hid;rw[List.getElem_drop]
     have WW:=aA hB cr;have HLr:=aa (lX hB HL.out);have Ja:=a_ wr (o_ #[.int .i64 dv[K+k].1.n,FZ xa xl xc] 163);have HOr:=aa (bQ Io Ja);have UW:=aA Ja WW;have CV:=aa (lX Ja HLr.out);have Bi:=aB hB (n_ _) Ja;clear WM Io Dk e2 Ja WW
     cases hh:Bw l dv[K+k] with
     | true=>
      have Vk:Hid ((dv[K+k].1.keys.any fun k=>l.any fun s=>Fb s.1 s.2 k)=true):=hh;clear hh;go_wp2_with (go_at_call 84;refine(pR B _ _ l ao cap _ _ HOr.out Ui UW CV.out Tv).mono ?_;rintro e w4 ⟨rfl,Eb⟩;rw[Vk.out];replace Bi:=aB Bi (n_ _) Eb;clear Eb)
      go_ret;refine⟨bB ?_,aB HB.out (n_ _) Bi⟩;rw[HC.out];exact(zJ0 Hr (by rw[HE.out];show(!Bw l dv[K+k])=false;rw[show Bw l dv[K+k]=true from Vk.out];rfl)).symm
     | false=>
      have Vk:Hid ((dv[K+k].1.keys.any fun k=>l.any fun s=>Fb s.1 s.2 k)=false):=hh;clear hh;go_wp2_with (go_at_call 84;refine(pR B _ _ l ao cap _ _ HOr.out Ui UW CV.out Tv).mono ?_;rintro e w4 ⟨rfl,Eb⟩;rw[Vk.out];replace Bi:=aB Bi (n_ _) Eb;clear Eb)
      go_roundw
      case rel=>exact⟨k+1,by omega,by go_num,zIe Hr HA.out (by rw[HE.out];show(!Bw l dv[K+k])=true;rw[show Bw l dv[K+k]=false from Vk.out];rfl),Bi⟩
      case measure=>simp[intOf];omega
    ·have Za:¬(k:Int)<((dv.length-K:Nat):Int):=by omega
     go_wp2;go_ret;refine⟨bB ?_,aB HB.out (n_ _) hB⟩;have e:(dv.drop K).take k=dv.drop K:=LZ (by rw[UZ];omega);have:=HA.out;rw[e] at this;rw[HC.out,this]
end
section
open Go.RowKit Go.Joins Go.Shelf
attribute [local go_sem ↓] Go.wp_at_zero Go.wp_at_succ
theorem zBu {e:TypeId} {n:Nat} (h:w.ownsRow B e size v n xs):∃ ao cap,v=.slice ao n cap:=by
  rcases aX h with⟨hv,h0⟩|⟨g,cap,hv,_⟩
  · exact⟨none,0,by rw[h0];exact hv⟩
  · exact⟨_,cap,hv⟩
structure CG (w wr:World) (B vb mb:Nat) (now n:Int) (R:BA->List yb) (n0:Nat) (g0:BA->Value) (kv:Value) (ss:List (List UInt8)) (k:Nat):Prop where
  vs:∃ n' D' g',n'<=n0+k/\VS wr B vb mb now n' D' g' (Jf R n ((ss.take k).map Qd))/\(∀ j,j<w.heap.size->¬Gb vb mb g0 j->wr.heap[j]?=w.heap[j]?/\¬Gb vb mb g' j)/\(∀ j,kv.ownBlock=some j->¬Gb vb mb g' j)
  Ia:Below B w wr
  keys:wr.ownsRow (w.heap.size+1) 9 1 kv ss.length (ss.map encStr)
def zMD (w w':World) (B vb mb:Nat) (now n:Int) (R:BA->List yb) (n0:Nat) (g:BA->Value):Prop:=∃ K n' D' g',keysV R K/\(n'<=n0+n0/\n'<=n0+K.length)/\VS w' B vb mb now n' D' g' (Jf R n K)/\Below B w w'/\(∀ j,j<w.heap.size->¬Gb vb mb g j->w'.heap[j]?=w.heap[j]?/\¬Gb vb mb g' j)
theorem zAV (hK:keysV R (ss.map Qd)) (hk:k<ss.length):Qd ss[k]∉(ss.take k).map Qd:=fun hm=>by
  obtain⟨x,hx,e⟩:=Z2.1 hm;obtain⟨i,hi,rfl⟩:=List.getElem_of_mem hx;have ED:i<k:=by have:=D6 k ss;have:i<(ss.take k).length:=hi;rw[XY] at this;omega
  have ly:=J9.1 hK.1 i k (by simp;omega) (by simpa using hk) ED;simp only[List.getElem_map,List.getElem_take] at ly e;exact ly e
theorem zKL {wr:World} {n':Nat} {g0 g':BA->Value} {D':DataW Value} {kv v':Value} 
    (Kk:VS wr B vb mb now n' D' g' (Jf R n ((ss.take k).map Qd))) (yl:n'<=n0+k) (ic:∀ j,j<w.heap.size->¬Gb vb mb g0 j->wr.heap[j]?=w.heap[j]?/\¬Gb vb mb g' j) (ey:∀ j,kv.ownBlock=some j->¬Gb vb mb g' j) (jh:Below B w wr) (nh:wr.ownsRow (w.heap.size+1) 9 1 kv ss.length (ss.map encStr))
    (hk:k<ss.length) (hK:keysV R (ss.map Qd)) (hB:B<=w.heap.size) (rz:n0+k<=1000000) (hs:zE5 wr W (g' (Qd ss[k])) (R (Qd ss[k])) n v'):
    ((dN (R (Qd ss[k])) n≠[]->∃ w4,(Instr.mapUpdate 176 (.map (some mb)) (.string (Qd ss[k])) v').run p_ W=.ok () w4/\CG w w4 B vb mb now n R n0 g0 kv ss (k+1))/\
     (dN (R (Qd ss[k])) n=[]->∃ w4,(Builtin.delete_ #[176,9] 0 #[.map (some mb),.string (Qd ss[k])]).run p_ W=.ok (.tuple #[]) w4/\CG w w4 B vb mb now n R n0 g0 kv ss (k+1)))/\∃ ao cap,v'=.slice ao (dN (R (Qd ss[k])) n).length cap:=by
  obtain⟨Lv,Ov⟩:=hs;have Dk:Qd ss[k]∈ss.map Qd:=Z2.2 ⟨_,MZ hk,rfl⟩;obtain⟨Wh,La⟩:=(hK.2 _).1 Dk;have my:=zAV hK hk;have eR:Jf R n ((ss.take k).map Qd) (Qd ss[k])=R (Qd ss[k]):=pV my;have eT:(ss.take (k+1)).map Qd=(ss.take k).map Qd++[Qd ss[k]]:=by rw[ZY hk,X1];rfl
  have hW:=Kk.on Lv;have Zy:B<=W.heap.size:=BZ (BZ hB jh.size) Lv.size;have Dy:∀ {w4:World} {n2:Nat} {D2:DataW Value} {g2:BA->Value},n2<=n'+1->VS w4 B vb mb now n2 D2 g2 (Jf R n ((ss.take (k+1)).map Qd))->Below B W w4->(∀ j,j<wr.heap.size->¬Gb vb mb g' j->w4.heap[j]?=W.heap[j]?/\¬Gb vb mb g2 j)->CG w w4 B vb mb now n R n0 g0 kv ss (k+1):=fun {w4 n2 D2 g2} h1 h2 h3 h4=>
    { vs:=⟨n2,D2,g2,by omega,h2,fun j hj hn=>by
        obtain⟨a1,a2⟩:=ic j hj hn;have Td:=UY hj jh.size;obtain⟨b1,b2⟩:=h4 j Td a2;exact⟨b1.trans ((Lv.block j Td).trans a1),b2⟩,fun j e=>(h4 j (l_ nh j e).2 (ey j e)).2⟩
      Ia:=(jh.trans (Lv.mono (BZ hB jh.size))).trans h3
      keys:=aI nh fun j e=>by
        have hl:=(l_ nh j e).2;exact(h4 j hl (ey j e)).1.trans (Lv.block j hl) }
  refine⟨⟨fun bj=>?_,fun bj=>?_⟩,?_⟩
  · obtain⟨w4,ri,hm,hg⟩:=hW.own.update eX underlying176 (by unfold maxLen;omega) (uH Wh) (show RV v'=_ from rfl);refine⟨w4,ri,?_⟩;rcases Ov with⟨e,es⟩|ho
    · rw[e] at hm;obtain⟨r1,r2,r3⟩:=hW.same Zy (by rw[eR];exact La) hm hg;have e3:Jf R n ((ss.take (k+1)).map Qd)=Jf R n ((ss.take k).map Qd):=by
        rw[eT,uR];funext x;by_cases ex:x=Qd ss[k]
        · rw[if_pos ex,es,ex,eR]
        · rw[if_neg ex]
      exact Dy (n_ _) (by rw[e3];exact r1) r2 (fun j hj hn=>r3 j (UY hj Lv.size) hn)
    · have oi:0<(dN (R (Qd ss[k])) n).length:=K3.2 bj;rcases aX ho with⟨_,h0⟩|⟨gk,ck,hv,Bh,_⟩
      · omega
      have Hu:v'.ownBlock=some gk:=by rw[hv];rfl
      have Si:¬Gb vb mb g' gk:=fun e=>by have:=Kk.lt e;omega
      obtain⟨r1,r2,r3⟩:=hW.set Zy (ownsRow_base_a ho (BZ hB jh.size)) Hu Si bj hm hg;have e3:Jf R n ((ss.take (k+1)).map Qd)=Ec (Jf R n ((ss.take k).map Qd)) (Qd ss[k]) (dN (R (Qd ss[k])) n):=by rw[eT,uR];rfl
      exact Dy (n_ _) (by rw[e3];exact r1) r2 (fun j hj hn=>r3 j (UY hj Lv.size) (by omega) hn)
  · obtain⟨w4,ri,hm,hg⟩:=hW.own.drop eX underlying176 (uH Wh) 0;refine⟨w4,ri,?_⟩;obtain⟨r1,r2,r3⟩:=hW.drop Zy hm hg.grown;have e3:Jf R n ((ss.take (k+1)).map Qd)=Ec (Jf R n ((ss.take k).map Qd)) (Qd ss[k]) []:=by rw[eT,uR,bj];rfl
    exact Dy (Nat.le_succ _) (by rw[e3];exact r1) r2 (fun j hj hn=>r3 j (UY hj Lv.size) hn)
  · rcases Ov with⟨e,es⟩|ho
    · obtain⟨ao,cap,e',_⟩:=nF (Kk.rows (Qd ss[k]));rw[eR] at e';exact⟨ao,cap,by rw[e,e',es]⟩
    · exact zBu ho
theorem zGK (n:Int) (w:World) (h:VS w B vb mb now n0 D g R) (hB:B<=w.heap.size) (hn:n0<=400000) (hR:∀ key,(R key).length<=1000000):
    Calls p_ 43 #[.pointer (some ⟨vb,0,none⟩),.int .i64 n] w fun e w'=>e=.returned (.tuple #[])/\zMD w w' B vb mb now n R n0 g:=by
  have HV:=aa h;have Xf:=aa hR;have c1:=h.mp;have Mb:=h.own.size_le;have ya:=h.own;have Vq:=aa ya;clear h hR ya;go_enter func43,ntmps43;go_wp2_with (first
    | (go_at_call 95;refine(zJx _ _).mono ?_;rintro e w1 ⟨rfl,rfl⟩)
    | (go_at_call 94;refine(zDR mb n0 D w Vq.out (by omega)).mono ?_;rintro e w2 ⟨kv,ss,rfl,hp,nh,Wi,za⟩;obtain⟨ka,kc,rfl⟩:=zBu nh;have HP:=aa hp;have Yw:=aa nh;have Cb:=aa za;clear hp nh za Wi))
  have HK:=aa (HV.out.keys HP.out);have Aq:Below w.heap.size w w2:=aB (a_ _ _) (n_ _) Cb.out;have LM:(w.alloc (o_ #[Value.map (some mb)] 176)).heap.size=w.heap.size+1:=by simp
  have Qo:ss.length<=n0:=by
    have:=HP.out.length_eq;have h2:(strKeys D).length=Maps.size D:=by
      obtain⟨es,hD,_⟩:=HV.out.own.entries eX;rw[hD];simp[strKeys,Maps.size]
    omega
  have HA:Hid (CG w w2 B vb mb now n R n0 g (.slice ka ss.length kc) ss 0):=
    { vs:=⟨n0,D,g,by omega,by rw[List.take_zero,List.map_nil,zJV];exact HV.out.on Aq,fun j hj hn=>⟨Aq.block j hj,hn⟩,fun j e Ig=>by have a1:=HV.out.lt Ig;have a2:=(l_ Yw.out j e).1;rw[LM] at a2;omega⟩
      Ia:=Aq.mono hB
      keys:=by have:=Yw.out;rwa [LM] at this }
  clear Aq LM c1 Cb Yw HP
  go_loopw [14] (fun i wr=>∃ k:Nat,k<=ss.length/\i=.int .i64 k/\CG w wr B vb mb now n R n0 g (.slice ka ss.length kc) ss k) (fun i _=>ss.length-(intOf i).toNat)
  case atStart=>exact⟨0,OZ _,rfl,HA.out⟩
  case round=>
    obtain⟨k,hk,rfl,hA⟩:=hrel;have Dw:=aa hA;clear hA HA;by_cases Aa:k<ss.length
    · have Za:(k:Int)<(ss.length:Int):=by omega
      obtain⟨n',D',g',yl,Kk,ic,ey⟩:=Dw.out.vs;have Wh:=((HK.out.2 (Qd ss[k])).1 (Z2.2 ⟨_,MZ Aa,rfl⟩)).1;have hl:=Kk.looked Wh;have cm:=Kk.mp;rcases aX Dw.out.keys with⟨_,h0⟩|⟨ka',kc',e,_⟩
      · omega
      cases e;have ck:wr.cell? ⟨ka',k,none⟩=some (.string (Qd ss[k])):=by
        have:=Dw.out.keys.cellAt k (by omega);rw[this,List.getElem?_map,VY Aa];rfl
      have HN:=aa (fun W v' hs=>zKL (W:=W) (v':=v') Kk yl ic ey Dw.out.Ia Dw.out.keys Aa HK.out hB (by omega) hs);have eR:Jf R n ((ss.take k).map Qd) (Qd ss[k])=R (Qd ss[k]):=pV (zAV HK.out Aa);have aj:=Kk.rows (Qd ss[k]);rw[eR] at aj;have PH:=Xf.out (Qd ss[k]);have HVS:=aa Kk;clear Kk ic ey;obtain⟨ao,cap,eg,_⟩:=nF aj;have xn:=aa aj;clear aj;rw[eg] at hl HN xn;generalize Qd ss[k]=key at *;generalize R key=vs at *
      cases bj:dN vs n with
      | nil=>
        have tj:=aa bj;clear bj;go_wp2_with (first
          | (go_at_call 96;refine(zA4 ao cap vs n _ PH xn.out).mono ?_;rintro e w3 ⟨v',rfl,si⟩;obtain⟨⟨_,OC⟩,nt,Pb,ev⟩:=HN.out w3 v' si;rw[tj.out] at ev;subst ev;obtain⟨w4,Oo,Iq⟩:=OC tj.out;have Ty:=aa Iq;replace cm:=aA si.1 cm;clear Iq OC si))
        exact⟨⟨k+1,by omega,by go_num,Ty.out⟩,by simp[intOf];omega⟩
      | cons x xs=>
        have tj:=aa bj;clear bj;go_wp2_with (first
          | (go_at_call 96;refine(zA4 ao cap vs n _ PH xn.out).mono ?_;rintro e w3 ⟨v',rfl,si⟩;obtain⟨⟨tg,_⟩,nt,Pb,ev⟩:=HN.out w3 v' si;rw[tj.out,PZ] at ev;subst ev;obtain⟨w4,Oo,Iq⟩:=tg (by rw[tj.out];simp);have Ty:=aa Iq;replace cm:=aA si.1 cm;clear Iq tg si))
        exact⟨⟨k+1,by omega,by go_num,Ty.out⟩,by simp[intOf];omega⟩
    · have ek:k=ss.length:=by omega
      subst ek;have Za:¬(ss.length:Int)<(ss.length:Int):=by omega
      obtain⟨n',D',g',yl,Kk,ic,ey⟩:=Dw.out.vs;rw[O1] at Kk;have Qf:=aa Kk;have Zf:=aa ic;clear Kk ic ey;go_wp2;go_end0;exact⟨rfl,_,n',D',g',HK.out,⟨by omega,by rw[List.length_map];omega⟩,Qf.out,Dw.out.Ia,Zf.out⟩
end
section
open Go.RowKit Go.Joins Go.Shelf
theorem zDj {key:Value} {kl:Lit} (h:keyOf p_ 9 key=some kl):∃ s,key=.string s/\kl=kL s/\s.size<=maxLen:=by
 cases key<;>simp[keyOf,underlying9,mapKey] at h
 obtain⟨hs,rfl⟩:=h;exact⟨_,rfl,rfl,hs⟩
theorem zJD (R:BA->List yb) (K:List BA) (k:BA):Hf R (K++[k])=Hf R K+(R k).length:=by simp[Hf]
theorem zAe {R:BA->List yb} {m:Nat} (h:∀ k,(R k).length<=m):∀ K:List BA,Hf R K<=K.length*m
 | []=>by simp[Hf]
 | k::K=>by
  have ih:=zAe h K;have:=h k;unfold Hf at *;simp only[U2,Y7,PZ,Nat.succ_mul];omega
theorem zL4 {n:Nat} (w:World) (h:VS w B vb mb now n D g R) (hn:n<=1000000) (hR:∀ key,(R key).length<=1000000):
  Calls p_ 45 #[.pointer (some ⟨vb,0,none⟩)] w fun e w'=>∃ K,e=.returned (.int .i64 (Hf R K:Nat))/\keysV R K/\Below w.heap.size w w':=by
 have HV:=aa h;have Xf:=aa hR;have c1:=h.mp;have ya:=h.own;have Qo:=ya.size_le;clear h hR;go_enter func45,ntmps45;go_wp2_with (first|(at_range;refine wpList_range_own _ rfl _ 176 rfl 9 177 eX underlying176 RV mb n D rfl ya ?_;intro w0 Yp Ux We))
 have ie:Hid (Below w.heap.size w w0):=(r_ _ w).grown Ux (n_ _) (fun k e=>by cases e);have Ji:=aa Yp;clear Yp Ux c1 ya;go_wp2
 go_frame
 go_loopw [3] (fun v wr=>∃ (left:Lit->Bool) (uk:Nat) (ss:List (List UInt8)),wr.ranges p_ 9 RV mb w.heap.size n D left uk/\Collected D left ss/\ss.length+uk<=n/\v=.int .i64 (Hf R (ss.map Qd):Nat)/\Below w.heap.size w wr) (fun _ wr=>wr.rangeLeft mb w.heap.size)
 case atStart=>exact⟨_,_,[],Ji.out,Collected.start D,by simpa using Qo,rfl,ie.out⟩
 case round=>
  obtain⟨left,uk,ss,hrg,hC,zr,rfl,hB⟩:=hrel;have TV:=aa hrg;have HC:=aa hC;have St:=aa hB;clear hrg hC hB Ji ie;go_wp2_with (first|(at_next;refine wpList_next_ranges _ rfl _ rfl 9 eX RV v_ id (fun key kl hk=>by obtain⟨x,e,_⟩:=zDj hk;exact⟨x,e⟩) (fun v y _=>⟨v,rfl⟩) mb w.heap.size n D left uk rfl TV.out ?_ ?_))
  ·intro Df gm;go_wp2;go_ret;exact⟨_,rfl,HV.out.keys (HC.out.perm HV.out.own eX underlying9 gm),St.out⟩
  ·intro x c kl y yp w2 IM mi PD OB Sc Xr Nn Hg Ub DO;obtain⟨x',ex,rfl,Mk⟩:=zDj mi;cases ex;have hc:=Sc (.held (.slice none 0 0));rw[HV.out.look x Mk] at hc;simp only[RV,Option.some.injEq,Prod.mk.injEq] at OB;obtain⟨rfl,rfl⟩:=OB;simp only[DataW.held.injEq] at hc;subst hc;have Hi:=aa (HC.out.step (x:=x.data.toList) PD Sc);obtain⟨ao,cap,ec,_,_,_⟩:=nF (HV.out.rows x);have BN:=Xf.out x;have a0P:Hf R (ss.map Qd)<=1000000*1000000:=BZ (zAe Xf.out _) (Nat.mul_le_mul_right _ (by simp;omega));have tj:Hid ((Hf R (ss.map Qd):Int)+((R x).length:Int)=((Hf R ((ss++[x.data.toList]).map Qd):Nat):Int)):=by
    unfold Hid;rw[X1,List.map_singleton,zJD,zCY];omega
   have IA:=aa Xr;have Cb:=aa (St.out.grown Hg St.out.size (fun k e=>by cases e;exact n_ _));rw[ec] at DO ⊢;clear ec Sc Xr Hg Ub mi PD;generalize Hf R (ss.map Qd)=S at *;generalize (R x).length=m at *;go_wp2;exact⟨⟨_,_,ss++[x.data.toList],IA.out,Hi.out,by simp;omega,by rw[<-tj.out],Cb.out⟩,by rw[IA.out.left_eq,TV.out.left_eq];exact Nn⟩
end
end Go.Proofs.YtcfjimdfegejaaaGreatDoor
