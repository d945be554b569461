import Derived.Test.YtcfjimdfegejaaaGreatDoorQ07
import Derived.Test.YtcfjimdfegejaaaGreatDoorQ04
import Derived.Test.YtcfjimdfegejaaaGreatDoorQ06
set_option maxHeartbeats 8000000
set_option maxRecDepth 100000
namespace Go.Proofs.YtcfjimdfegejaaaGreatDoor
open Bool renaming eq_false_iff→O2
open Builtin renaming zeroCells→KZ
open Int renaming eq_ofNat_of_zero_le→N0
open Lib renaming decDigits→L0,size_eq→R0,toList_data→N6
open List renaming extract_eq_take_drop→M9,getElem_mem→MZ,length→Z7,length_append→YY,length_cons→PZ,length_drop→UZ,length_eq_zero_iff→E0,mem_of_mem_drop→A1,mem_range→R9,range→T0,take_of_length_le→LZ,take_succ_eq_append_getElem→ZY
open Nat renaming le_trans→BZ,lt_of_lt_of_le→UY,zero_add→TZ,zero_le→OZ
open Value renaming agg→A0,ownBlock→VZ
open WideShapes renaming add_plain→U0
open Go.Proofs.Tryz
open World renaming cell?_of_block→b_,cell?_setCell_other→t_,cell?_setCell_same→u_
open Go.RowKit.Below renaming heap_setCell→h_,refl→r_
open Nat renaming le_refl→n_
open Go.Proofs.Tryz renaming prog→p_
open Value renaming string→v_,int→i_
open Go.Joins renaming below_alloc1→a_
variable {k:BA} {g n B hb cap K m vb mb:Nat} {dv:List (aU×Value)} {w W:World} {Xc:Nat->Option Value} {now:Int} {D:DataW Value} {R:BA->List yb}
section
open Go.RowKit Go.Joins
theorem zOe (k:BA) (a:Nat):(k.extract a k.size).data.toList=k.data.toList.drop a:=by
 rw[ByteArray.data_extract];simp only[Array.toList_extract,M9];exact LZ (by simp)
theorem zMB (k:BA) (a b:Nat):(k.extract a b).data.toList=(k.data.toList.drop a).take (b-a):=by
 rw[ByteArray.data_extract];simp only[Array.toList_extract,M9]
theorem xH (k:BA):(k.extract 0 2).toList=k.data.toList.take 2:=by
 rw[N6,zMB];rfl
theorem zAn (k:BA) (w:World) (h2:2<k.size) (h:(k.extract 0 2).toList=[116,47]∨¬(k.extract 0 2).toList=[116,47]/\(k.extract 0 2).toList=[113,47]):
  Calls p_ 126 #[.string k] w fun e w'=>e=.returned (.int .i64 (dH k.data.toList))/\w'=w:=by
 have hk:Fc k.data.toList=bK (k.data.toList.drop 2):=zOk (by rw[xH] at h;rcases h with h|h;exact .inl h;exact .inr h.2);have hn:=fun w'=>rC (k.extract 2 k.size) w';rw[zOe,<-hk] at hn;unfold dH;generalize Fc k.data.toList=y at hn ⊢;have HN:=fun w'=>aa (hn w');clear hn hk;have g2:(2:Int)<(k.size:Int):=by omega
 cases y
 all_goals
  rcases h with h|⟨h',h⟩
  all_goals
   go_enter func126,ntmps126;go_wp2_with (go_at_call 123;refine((HN _).out).mono ?_;rintro e w1 ⟨rfl,rfl⟩)
   go_ret;exact⟨rfl,rfl⟩
theorem zHL (k:BA) (w:World) (h2:k.size<=2):
  Calls p_ 126 #[.string k] w fun e w'=>e=.returned (.int .i64 (dH k.data.toList))/\w'=w:=by
 have hk:dH k.data.toList=3:=by unfold dH;rw[zOl (by rwa [fR])];rfl
 rw[hk];clear hk;have g2:¬(2:Int)<(k.size:Int):=by omega
 have g3:(k.size:Int)<10:=by omega
 go_enter func126,ntmps126;go_wp2;go_ret;exact⟨rfl,rfl⟩
theorem zNj (h1:¬(k.extract 0 2).toList=[116,47]) (h2:¬(k.extract 0 2).toList=[113,47]) (h:kW k.data.toList=false):dH k.data.toList=3:=by
 rw[xH] at h1 h2;unfold dH;rw[zKl h1 h2,h];rfl
theorem zOg (h1:¬(k.extract 0 2).toList=[116,47]) (h2:¬(k.extract 0 2).toList=[113,47]) (h:kW k.data.toList=true):dH k.data.toList=0:=by
 rw[xH] at h1 h2;unfold dH;rw[zKl h1 h2,h];rfl
theorem zAq (k:BA) (w:World) (h2:2<k.size) (h:¬(k.extract 0 2).toList=[116,47]) (h':¬(k.extract 0 2).toList=[113,47]) (hn:k.size<10∨¬(k.extract 0 2).toList=[109,47]):
  Calls p_ 126 #[.string k] w fun e w'=>e=.returned (.int .i64 (dH k.data.toList))/\w'=w:=by
 have hk:dH k.data.toList=3:=zNj h h' (by
  rw[uP,fR];rcases hn with hn|hn
  ·simp;omega
  ·rw[xH] at hn;simp[hn])
 rw[hk];clear hk;have g2:(2:Int)<(k.size:Int):=by omega
 have b1:=beq_eq_false_iff_ne.2 h;have b2:=beq_eq_false_iff_ne.2 h';rcases hn with hn|hn
 ·have g3:(k.size:Int)<10:=by omega
  go_enter func126,ntmps126;go_wp2;go_ret;exact⟨rfl,rfl⟩
 ·have b3:=beq_eq_false_iff_ne.2 hn;go_enter func126,ntmps126;go_wp2
  all_goals
   go_ret;exact⟨rfl,rfl⟩
theorem RJ {n:Int} (h0:0<=n) (h1:n<=100000):wrap64 n=n:=by unfold wrap64;omega
theorem zNW {k:ByteArray} (uq:10<=k.size) (hm:(k.extract 0 2).toList=[109,47]) (h:k.size-7<k.size):
  kW k.data.toList=((k[k.size-7]==47)&&(bK (k.extract 2 (k.size-7)).data.toList&&(T0 6).all fun i=>eZ (k.data.toList.getD (k.size-6+i) 0))):=by
 rw[xH] at hm;rw[uP,fR,hm,vR k _ h,zMB,zNQ];have e:k.size-7-2=k.size-9:=by omega
 rw[e];simp[uq]
theorem zEN (k:ByteArray) (w:World) (uq:10<=k.size) (hn:k.size<=1000) (hm:(k.extract 0 2).toList=[109,47]):
  Calls p_ 126 #[.string k] w fun e w'=>e=.returned (.int .i64 (dH k.data.toList))/\w'=w:=by
 have h:¬(k.extract 0 2).toList=[116,47]:=by rw[hm];decide
 have h':¬(k.extract 0 2).toList=[113,47]:=by rw[hm];decide
 have g2:(2:Int)<(k.size:Int):=by omega
 have g10:decide ((k.size:Int)<10)=false:=by simp;omega
 have i7:(k.size:Int)-7=((k.size-7:Nat):Int):=by omega
 have w7:wrap64 ((k.size-7:Nat):Int)=((k.size-7:Nat):Int):=RJ (by omega) (by omega);have i6:(k.size:Int)-6=((k.size-6:Nat):Int):=by omega
 have w6:wrap64 ((k.size-6:Nat):Int)=((k.size-6:Nat):Int):=RJ (by omega) (by omega);have l7:k.size-7<k.size:=by omega
 have j7:(2:Int)<=((k.size-7:Nat):Int):=by omega
 have z7:(0:Int)<=((k.size-7:Nat):Int):=by omega
 have y7:((k.size-7:Nat):Int)<(k.size:Int):=by omega
 have x7:((k.size-7:Nat):Int)<=(k.size:Int):=by omega
 have b1:=beq_eq_false_iff_ne.2 h;have b2:=beq_eq_false_iff_ne.2 h';have HM:=aa (zNW uq hm l7);have Ph:Hid (kW k.data.toList=false->dH k.data.toList=3):=zNj h h';have wi:Hid (kW k.data.toList=true->dH k.data.toList=0):=zOg h h';by_cases hc:k[k.size-7]=47
 ·have c47:((k[k.size-7].toNat:Int) != 47)=false:=by rw[hc];rfl
  have hN:=fun w'=>rC (k.extract 2 (k.size-7)) w';generalize hy:bK (k.extract 2 (k.size-7)).data.toList=y at hN;have HN:=fun w'=>aa (hN w');clear hN;have HY:=aa hy;have HC:=aa hc;clear hy hc;cases y
  ·go_enter func126,ntmps126;go_wp2_with (go_at_call 123;refine((HN _).out).mono ?_;rintro e w1 ⟨rfl,rfl⟩)
   go_ret;exact⟨iJ (by rw[Ph.out (by rw[HM.out,HC.out,HY.out];rfl)];rfl),rfl⟩
  ·replace HM:Hid (kW k.data.toList=(T0 6).all fun i=>eZ (k.data.toList.getD (k.size-6+i) 0)):=by
    have:=HM.out;rw[HC.out,HY.out] at this;exact this
   go_enter func126,ntmps126;go_wp2_with (go_at_call 123;refine((HN _).out).mono ?_;rintro e w1 ⟨rfl,rfl⟩)
   go_loop [6] (fun i=>∃ j:Nat,j<=6/\i=.int .i64 ((k.size-6+j:Nat):Int)/\(T0 j).all (fun i=>eZ (k.data.toList.getD (k.size-6+i) 0))=true) (fun i=>k.size-(intOf i).toNat)
   case atStart=>exact⟨0,OZ _,rfl,rfl⟩
   case round=>
    obtain⟨j,hj,rfl,hd⟩:=hrel;have HD:=aa hd;clear hd;by_cases Aa:j<6
    ·have hl:k.size-6+j<k.size:=by omega
     have oz:((k.size-6+j:Nat):Int)<(k.size:Int):=by omega
     have hB:=vR k _ hl;have HS:Hid ((T0 (j+1)).all (fun i=>eZ (k.data.toList.getD (k.size-6+i) 0))=eZ k[k.size-6+j]):=by
      show _=_;rw[List.range_succ,List.all_append,HD.out,<-hB];simp
     have HG:=aa (KT k[k.size-6+j]);have fe:∀ b,(T0 (j+1)).all (fun i=>eZ (k.data.toList.getD (k.size-6+i) 0))=b->b=false->(T0 6).all (fun i=>eZ (k.data.toList.getD (k.size-6+i) 0))=false:=by
      intro b h hb;subst hb;rw[List.all_eq_false] at *;obtain⟨x,hx,h2⟩:=h;exact⟨x,R9.2 (by have:=R9.1 hx;omega),h2⟩
     have HE:=aa fe;have wj:wrap64 (((k.size-6+j:Nat):Int)+1)=((k.size-6+(j+1):Nat):Int):=by rw[RJ]<;>omega
     clear fe hB;generalize k.size-6+j=p at *;have Jd:(k[p].toNat:Int)<48∨(48<=(k[p].toNat:Int)/\(k[p].toNat:Int)<=57)∨58<=(k[p].toNat:Int):=by omega
     rcases Jd with b|⟨b,b'⟩|b
     ·replace HS:=aa (HE.out _ HS.out (O2.2 fun h=>by have:=HG.out.1 h;omega));go_wp2;go_ret;exact⟨iJ (by rw[Ph.out (HM.out.trans HS.out)];rfl),rfl⟩
     ·replace HS:=aa (HS.out.trans (HG.out.2 ⟨b,b'⟩));go_wp2
      go_round
      case rel=>exact⟨j+1,by omega,by rw[<-wj,RJ (by omega) (by omega)],HS.out⟩
      case measure=>simp[intOf];omega
     ·replace HS:=aa (HE.out _ HS.out (O2.2 fun h=>by have:=HG.out.1 h;omega));go_wp2;go_ret;exact⟨iJ (by rw[Ph.out (HM.out.trans HS.out)];rfl),rfl⟩
    ·have e:j=6:=by omega
     subst e;have e2:k.size-6+6=k.size:=by omega
     rw[e2];go_wp2;go_ret;exact⟨iJ (by rw[wi.out (HM.out.trans HD.out)];rfl),rfl⟩
 ·have c47:((k[k.size-7].toNat:Int) != 47)=true:=by
   rw[bne_iff_ne];intro e;exact hc (UInt8.toNat_inj.1 (by simpa using Int.ofNat.inj e))
  have hf:=Ph.out (by rw[HM.out,beq_eq_false_iff_ne.2 hc,Bool.false_and]);rw[hf];clear hf hc;go_enter func126,ntmps126;go_wp2;go_ret;exact⟨rfl,rfl⟩
theorem xE (k:ByteArray) (w:World) (hn:k.size<=1000):
  Calls p_ 126 #[.string k] w fun e w'=>e=.returned (.int .i64 (dH k.data.toList))/\w'=w:=by
 by_cases h2:2<k.size
 ·by_cases ht:(k.extract 0 2).toList=[116,47]
  ·exact zAn k w h2 (.inl ht)
  ·by_cases hq:(k.extract 0 2).toList=[113,47]
   ·exact zAn k w h2 (.inr ⟨ht,hq⟩)
   ·by_cases hm:(k.extract 0 2).toList=[109,47]
    ·by_cases uq:10<=k.size
     ·exact zEN k w uq hn hm
     ·exact zAq k w h2 ht hq (.inl (by omega))
    ·exact zAq k w h2 ht hq (.inr hm)
 ·exact zHL k w (by omega)
theorem zOJ (c:ma):aD c=if dH c.key.data.toList=0 then (if c.gone&&!c.val.toList.isEmpty then 3 else if 40<c.val.size then 1 else 0) else 3:=by
 unfold aD dH;cases Fc c.key.data.toList<;>simp
theorem vK (c:ma) (w:World) (hk:c.key.size<=1000):
  Calls p_ 92 #[.agg #[.string c.key,.string c.val,.bool c.gone]] w fun e w'=>e=.returned (.int .i64 (aD c))/\Below w.heap.size w w':=by
 have HK:=fun w'=>aa (xE c.key w' hk);rw[zOJ];have h03:dH c.key.data.toList=0∨dH c.key.data.toList=3:=by unfold dH;split<;>simp
 generalize dH c.key.data.toList=f at *;obtain⟨-,a1,a2,hB,-⟩:=Nf w (FX c.key c.val c.gone) rfl rfl;rcases h03 with rfl|rfl
 ·generalize c.gone=g at *;cases g
  all_goals
   by_cases Xy:40<c.val.size
   ·have MQ:(40:Int)<(c.val.size:Int):=by omega
    go_enter func92,ntmps92;go_wp2_with (go_at_call 126;refine((HK _).out).mono ?_;rintro e w1 ⟨rfl,rfl⟩)
    all_goals
     go_ret;exact⟨by simp_all,hB⟩
   ·have MQ:¬(40:Int)<(c.val.size:Int):=by omega
    go_enter func92,ntmps92;go_wp2_with (go_at_call 126;refine((HK _).out).mono ?_;rintro e w1 ⟨rfl,rfl⟩)
    all_goals
     go_ret;exact⟨by simp_all,hB⟩
 ·go_enter func92,ntmps92;go_wp2_with (go_at_call 126;refine((HK _).out).mono ?_;rintro e w1 ⟨rfl,rfl⟩)
  go_ret;exact⟨rfl,hB⟩
theorem zAw (s:BA) (x y:Int) (r T:BA) (v:Value) (h:(∃ c,v=.iface 77 (.int .i64 c))∨v=.nilIface/\¬T.toList=s.toList) (w:World) (hL:Yd w)
  (k1:∀ w',Yd w'->Calls p_ 193 #[.string s] w' fun e Ch=>e=.returned (.tuple #[.int .i64 x,.int .i64 y,.string r])/\Below w'.heap.size w' Ch)
  (k2:∀ w',Yd w'->Calls p_ 179 #[.agg #[.int .i64 x,.int .i64 y,.string r]] w' fun e Ch=>e=.returned (.tuple #[.string T,v])/\Below w'.heap.size w' Ch):
  Calls p_ 122 #[.string s] w fun e w'=>e=.returned (.tuple #[.agg #[.int .i64 0,.int .i64 0,.string ⟨#[]⟩],.iface 77 (.int .i64 4)])/\Below w.heap.size w w':=by
 have K1:=aa k1;have K2:=aa k2;have HT:=aa hL;have H:=aa h;clear k1 k2 hL h;obtain⟨r0,r1,r2,hB,Aa,fz,-⟩:=Nf w RX rfl rfl;go_enter func122,ntmps122;go_wp2_with fail;refine(K1.out _ (iL HT.out hB)).mono ?_;rintro e w1 ⟨rfl,Ba⟩;replace hB:=aB hB (n_ _) Ba;replace fz:=fun j=>aE Ba Aa (fz j);replace ⟨r0,r1,r2⟩:=Fe Ba r0 r1 r2;replace Aa:=UY Aa Ba.size;have za:=a_ w1 (CX x y r);replace hB:=aB hB (n_ _) za;replace fz:=fun j=>aE za Aa (fz j);replace ⟨r0,r1,r2⟩:=Fe za r0 r1 r2;obtain⟨q0,q1,q2,-⟩:=Nf w1 (CX x y r) rfl rfl;replace Aa:=UY Aa za.size;go_wp2_with fail;refine(K2.out _ (iL HT.out hB)).mono ?_;rintro e w2 ⟨rfl,Ra⟩;replace hB:=aB hB (n_ _) Ra;replace fz:=fun j=>aE Ra Aa (fz j);replace ⟨r0,r1,r2,q0,q1,q2⟩:=on6 Ra r0 r1 r2 q0 q1 q2;clear Ba za Ra Aa;rcases H.out with⟨c,rfl⟩|⟨rfl,La⟩
 ·have n1:=bM 77;go_wp2;exact bodyPost_ret (v:=.tuple #[.agg #[.int .i64 0,.int .i64 0,.string ⟨#[]⟩],.iface 77 (.int .i64 4)]) (by simp[results,results122,go_sem,r0,r1,r2]) rfl ⟨rfl,(((hB.setCell (n_ _) _).setCell (n_ _) _).setCell (n_ _) _)⟩
 ·have n1:=eG;have Vp:(T.toList==s.toList)=false:=beq_eq_false_iff_ne.2 La;have Ct:(T.toList != s.toList)=true:=bne_iff_ne.2 La;go_wp2;exact bodyPost_ret (v:=.tuple #[.agg #[.int .i64 0,.int .i64 0,.string ⟨#[]⟩],.iface 77 (.int .i64 4)]) (by simp[results,results122,go_sem,r0,r1,r2]) rfl ⟨rfl,(((hB.setCell (n_ _) _).setCell (n_ _) _).setCell (n_ _) _)⟩
theorem xG (s:BA) (k:Int) (x y:Int) (r T:BA) (v:Value) (h:(∃ c,v=.iface 77 (.int .i64 c))∨v=.nilIface/\¬T.toList=s.toList) (w:World) (hL:Yd w)
  (k1:∀ w',Yd w'->Calls p_ 193 #[.string s] w' fun e Ch=>e=.returned (.tuple #[.int .i64 x,.int .i64 y,.string r])/\Below w'.heap.size w' Ch)
  (k2:∀ w',Yd w'->Calls p_ 189 #[.agg #[.int .i64 k,.int .i64 x,.int .i64 y,.string r]] w' fun e Ch=>e=.returned (.tuple #[.string T,v])/\Below w'.heap.size w' Ch):
  Calls p_ 185 #[.int .i64 k,.string s] w fun e w'=>e=.returned (.tuple #[.agg #[.int .i64 0,.int .i64 0,.int .i64 0,.string ⟨#[]⟩],.iface 77 (.int .i64 4)])/\Below w.heap.size w w':=by
 have K1:=aa k1;have K2:=aa k2;have HT:=aa hL;have H:=aa h;clear k1 k2 hL h;obtain⟨r0,r1,r2,r3,hB,Aa,fz,-⟩:=kn w DX rfl rfl;go_enter func185,ntmps185;go_wp2_with fail;refine(K1.out _ (iL HT.out hB)).mono ?_;rintro e w1 ⟨rfl,Ba⟩;replace hB:=aB hB (n_ _) Ba;replace fz:=fun j=>aE Ba Aa (fz j);replace ⟨r0,r1,r2,r3⟩:=Ij Ba r0 r1 r2 r3;replace Aa:=UY Aa Ba.size;have za:=a_ w1 (EX k x y r);replace hB:=aB hB (n_ _) za;replace fz:=fun j=>aE za Aa (fz j);replace ⟨r0,r1,r2,r3⟩:=Ij za r0 r1 r2 r3;obtain⟨q0,q1,q2,q3,-⟩:=kn w1 (EX k x y r) rfl rfl;replace Aa:=UY Aa za.size;go_wp2_with fail;refine(K2.out _ (iL HT.out hB)).mono ?_;rintro e w2 ⟨rfl,Ra⟩;replace hB:=aB hB (n_ _) Ra;replace fz:=fun j=>aE Ra Aa (fz j);replace ⟨r0,r1,r2,r3,q0,q1,q2,q3⟩:=ZQ Ra r0 r1 r2 r3 q0 q1 q2 q3;clear Ba za Ra Aa;rcases H.out with⟨c,rfl⟩|⟨rfl,La⟩
 ·have n1:=bM 77;go_wp2;exact bodyPost_ret (v:=.tuple #[.agg #[.int .i64 0,.int .i64 0,.int .i64 0,.string ⟨#[]⟩],.iface 77 (.int .i64 4)]) (by simp[results,results185,go_sem,r0,r1,r2,r3]) rfl ⟨rfl,((((hB.setCell (n_ _) _).setCell (n_ _) _).setCell (n_ _) _).setCell (n_ _) _)⟩
 ·have n1:=eG;have Vp:(T.toList==s.toList)=false:=beq_eq_false_iff_ne.2 La;have Ct:(T.toList != s.toList)=true:=bne_iff_ne.2 La;go_wp2;exact bodyPost_ret (v:=.tuple #[.agg #[.int .i64 0,.int .i64 0,.int .i64 0,.string ⟨#[]⟩],.iface 77 (.int .i64 4)]) (by simp[results,results185,go_sem,r0,r1,r2,r3]) rfl ⟨rfl,((((hB.setCell (n_ _) _).setCell (n_ _) _).setCell (n_ _) _).setCell (n_ _) _)⟩
theorem qJ {l:List UInt8} {Rc:Nat} (hm:Rc<=9999999) (h:l=[]∨9<l.length∨(l.head?=some 48/\1<l.length)∨(∃ c∈l,eZ c=false)∨Rc<ue l):Dm l Rc (-1):=by
 refine .inr ⟨rfl,fun n hn e=>?_⟩;rcases h with h|h|⟨h,h'⟩|⟨c,h,h'⟩|h
 ·exact MT n (e▸h)
 ·have:=eQ n (by omega);rw[e] at h;omega
 ·rcases Nat.eq_zero_or_pos n with e0|e0
  ·rw[e,e0,Lib.decDigits_one (by omega)] at h';simp at h'
  ·exact zOG n e0 (e▸h)
 ·have:=DG n c (e▸h);rw[h'] at this;cases this
 ·rw[e,MJ] at h;omega
theorem fY (s:ByteArray) (Rc:Nat) (w:World) (hm:Rc<=9999999) (hs:s.size<=1000):
  Calls p_ 195 #[.string s,.int .i64 Rc] w fun e w'=>(∃ r:Int,e=.returned (.int .i64 r)/\Dm s.data.toList Rc r)/\w'=w:=by
 have hl:=fR s;by_cases h1:s.size<1
 ·have HN:=aa (qJ (l:=s.data.toList) hm (.inl (E0.1 (by omega))));have g1:decide ((s.size:Int)<1)=true:=by simp;omega
  clear hl;go_enter func195,ntmps195;go_wp2;go_ret;exact⟨⟨_,rfl,HN.out⟩,rfl⟩
 ·have hz:0<s.size:=by omega
  have g1:decide ((s.size:Int)<1)=false:=by simp;omega
  by_cases h9:9<s.size
  ·have HN:=aa (qJ (l:=s.data.toList) hm (.inr (.inl (by omega))));have g2:decide ((9:Int)<(s.size:Int))=true:=by simp;omega
   clear hl;go_enter func195,ntmps195;go_wp2;go_ret;exact⟨⟨_,rfl,HN.out⟩,rfl⟩
  ·have g2:decide ((9:Int)<(s.size:Int))=false:=by simp;omega
   have hh:s.data.toList.head?=some s[0]:=by
    rw[List.head?_eq_getElem?,List.getElem?_eq_getElem (by omega)];rfl
   by_cases Ax:s[0]=48/\1<s.size
   ·have HN:=aa (qJ (l:=s.data.toList) hm (.inr (.inr (.inl ⟨by rw[hh,Ax.1],by omega⟩))));have Wy:((s[0].toNat:Int)==48)=true:=by rw[Ax.1];rfl
    have g3:decide ((1:Int)<(s.size:Int))=true:=by simp;omega
    clear hl hh Ax;go_enter func195,ntmps195;go_wp2;go_ret;exact⟨⟨_,rfl,HN.out⟩,rfl⟩
   ·have HO:Hid (s.data.toList.head?=some 48->s.data.toList.length=1):=fun e=>by
     rw[hh] at e;have:=Option.some.inj e;have:¬1<s.size:=fun k=>Ax ⟨this,k⟩;omega
    have Wy:(s[0].toNat:Int)≠48∨¬(1:Int)<(s.size:Int):=by
     by_cases e:s[0]=48
     ·right;have:¬1<s.size:=fun k=>Ax ⟨e,k⟩;omega
     ·left;intro e';exact e (UInt8.toNat_inj.1 (by simpa using Int.ofNat.inj e'))
    clear hh Ax;rcases Wy with Wy|Wy
    rotate_left 1
    have d48:=decide_eq_false Wy
    rotate_left 1
    have d48:=beq_eq_false_iff_ne.2 Wy
    all_goals
     go_enter func195,ntmps195;go_wp2
    all_goals
     go_loop [5,6] (fun n i=>∃ k:Nat,k<=s.size/\i=.int .i64 k/\n=.int .i64 (ue (s.data.toList.take k):Nat)/\∀ c∈s.data.toList.take k,eZ c=true) (fun _ i=>s.size-(intOf i).toNat)
     case atStart=>exact⟨0,OZ _,rfl,rfl,by simp⟩
     case round=>
      obtain⟨k,hk,rfl,rfl,hd⟩:=hrel;have hv:=zPn _ hd;have hlen:(s.data.toList.take k).length<=9:=by rw[List.length_take];omega
      have hv9:ue (s.data.toList.take k)<1000000000:=UY hv (Nat.pow_le_pow_right (n:=10) (by omega) hlen);have HD:=aa hd;clear hv hlen hd;by_cases Aa:k<s.size
      ·have Wx:s.data.toList[k]'(by omega)=s[k]:=rfl;have HT:=aa (show s.data.toList.take (k+1)=s.data.toList.take k++[s[k]] by rw[ZY (by omega),Wx]);have HM:=aa (show s[k]∈s.data.toList by rw[<-Wx];exact MZ _);have HL:=aa hl;have HG:=aa (KT s[k]);have Za:(k:Int)<(s.size:Int):=by omega
       clear Wx hl;generalize hvv:ue (s.data.toList.take k)=v at *;have HV:=aa hvv;clear hvv;have Jd:(s[k].toNat:Int)<48∨(48<=(s[k].toNat:Int)/\(s[k].toNat:Int)<=57)∨57<(s[k].toNat:Int):=by omega
       rcases Jd with b|⟨b,b'⟩|b
       ·have HN:=aa (qJ (l:=s.data.toList) hm (.inr (.inr (.inr (.inl ⟨s[k],HM.out,O2.2 fun h=>by have:=HG.out.1 h;omega⟩)))));go_wp2;go_ret;exact⟨⟨_,rfl,HN.out⟩,rfl⟩
       ·have HY:=aa (HG.out.2 ⟨b,b'⟩);obtain⟨x,hx⟩:∃ x:Nat,s[k].toNat=48+x:=⟨s[k].toNat-48,by omega⟩;have hx9:x<=9:=by omega
        go_wp2
        go_round
        case rel=>exact⟨k+1,by omega,by go_num,by rw[HT.out,yF,HV.out];congr 1;omega,by
         rw[HT.out];intro c hc;rcases List.mem_append.1 hc with hc|hc
         ·exact HD.out c hc
         ·rw[List.mem_singleton.1 hc];exact HY.out⟩
        case measure=>simp[intOf];omega
       ·have HN:=aa (qJ (l:=s.data.toList) hm (.inr (.inr (.inr (.inl ⟨s[k],HM.out,O2.2 fun h=>by have:=HG.out.1 h;omega⟩)))));go_wp2;go_ret;exact⟨⟨_,rfl,HN.out⟩,rfl⟩
      ·have e:s.data.toList.take k=s.data.toList:=LZ (by omega);rw[e] at HD hv9 ⊢;by_cases Lr:Rc<ue s.data.toList
       ·have HN:=aa (qJ (l:=s.data.toList) hm (.inr (.inr (.inr (.inr Lr)))));have g9:(Rc:Int)<(ue s.data.toList:Int):=by omega
        go_wp2;go_ret;exact⟨⟨_,rfl,HN.out⟩,rfl⟩
       ·have La:s.data.toList≠[]:=fun e=>by rw[e] at hl;simp at hl;omega
        have HN:Hid (Dm s.data.toList Rc (ue s.data.toList)):=.inl ⟨_,by omega,(zOH _ _ rfl La HD.out HO.out).symm,rfl⟩;have g9:¬(Rc:Int)<(ue s.data.toList:Int):=by omega
        clear e hl;go_wp2;go_ret;exact⟨⟨_,rfl,HN.out⟩,rfl⟩
theorem zNz (s:BA) (n t:Nat) (d:BA) (w:World) (hs:s.size<=1000) (hq:pO n t d) (he:s=dA n t d):
  Calls p_ 124 #[.string s] w fun e w'=>e=.returned (.tuple #[.agg #[.int .i64 n,.int .i64 t,.string d],.int .i64 0])/\Below w.heap.size w w':=by
 obtain⟨r0,r1,r2,hB,h0,fz,-⟩:=Nf w RX rfl rfl;have HQ:=aa hq;have HE:=aa he;clear hq he;go_enter func124,ntmps124;go_wp2_with fail;refine(zP s 99 _ (by omega) (by omega) hs).mono ?_;rintro e w1 ⟨v,rfl,out,rest,ya,Hj,hb⟩;replace hB:=aB hB (n_ _) hb;replace fz:=fun j=>aE hb h0 (fz j);replace ⟨r0,r1,r2⟩:=Fe hb r0 r1 r2;clear hb h0;obtain⟨rfl,rfl⟩:=zNG Hj HQ.out HE.out;clear Hj;obtain⟨g,cap,rfl⟩:=ownsRow_form ya (by simp);have q0:w1.cell? ⟨g,0,none⟩=some (.string (Va n)):=by have:=ya.cells (g:=g) rfl 0 (.string (Va n)) rfl;rwa [U0,TZ] at this
 have q1:w1.cell? ⟨g,1,none⟩=some (.string (Va t)):=by have:=ya.cells (g:=g) rfl 1 (.string (Va t)) rfl;rwa [U0,TZ] at this
 have q2:w1.cell? ⟨g,2,none⟩=some (.string rest):=by have:=ya.cells (g:=g) rfl 2 (.string rest) rfl;rwa [U0,TZ] at this
 clear ya;have HN:=fun w'=>aa (fY (Va n) 999999 w' (by omega) (by rw[R0,eM];have:=eQ n (by have:=HQ.out.1;omega);omega));have HM:=fun w'=>aa (fY (Va t) 9 w' (by omega) (by rw[R0,eM];have:=eQ t (by have:=HQ.out.2.2.1;omega);omega));have t1:(1:Int)<=(t:Int):=by have:=HQ.out.2.1;omega
 have n0:(0:Int)<=(n:Int):=by omega
 rw[eM] at HN HM;generalize Va n=x at *;generalize Va t=y at *;go_wp2_with fail;refine((HN _).out).mono ?_;rintro e w2 ⟨⟨r,rfl,hr⟩,rfl⟩;obtain rfl:=BJ hr HQ.out.1;clear hr;go_wp2_with fail;refine((HM _).out).mono ?_;rintro e w2 ⟨⟨r,rfl,hr⟩,rfl⟩;obtain rfl:=BJ hr HQ.out.2.2.1;clear hr HN HM;have hd:=HQ.out.2.2.2;rcases hd with hd|⟨hd,VH⟩
 all_goals
  go_wp2_with (go_at_call 123;refine(rC _ _).mono ?_;rintro e w3 ⟨rfl,rfl⟩)
  exact bodyPost_ret (v:=.tuple #[.agg #[.int .i64 n,.int .i64 t,.string rest],.int .i64 0]) (by simp[results,results124,go_sem,r0,r1,r2]) rfl ⟨rfl,(((hB.setCell (n_ _) _).setCell (n_ _) _).setCell (n_ _) _)⟩
theorem zN0 (s:BA) (w:World) (hs:s.size<=1000) (xe:∀ n t d,pO n t d->s≠dA n t d):
  Calls p_ 124 #[.string s] w fun e w'=>e=.returned (.tuple #[.agg #[.int .i64 0,.int .i64 0,.string ⟨#[]⟩],.int .i64 4])/\Below w.heap.size w w':=by
 obtain⟨r0,r1,r2,hB,h0,fz,-⟩:=Nf w RX rfl rfl;have HO:=aa xe;clear xe;go_enter func124,ntmps124;go_wp2_with fail;refine(zP s 99 _ (by omega) (by omega) hs).mono ?_;rintro e w1 ⟨v,rfl,out,rest,ya,Hj,hb⟩;replace hB:=aB hB (n_ _) hb;replace fz:=fun j=>aE hb h0 (fz j);replace ⟨r0,r1,r2⟩:=Fe hb r0 r1 r2;clear hb h0;by_cases ho:out.length=2
 ·obtain⟨x,y,rfl⟩:=QJ ho;clear ho;have Mb:x.size<=1000/\y.size<=1000:=by
   have:=congrArg Z7 (oF Hj);rw[fR] at this;simp only[YY,PZ,fR] at this;omega
  have HN:=fun w'=>aa (fY x 999999 w' (by omega) Mb.1);have HM:=fun w'=>aa (fY y 9 w' (by omega) Mb.2);have HW:=aa Hj;clear Mb Hj;obtain⟨g,cap,rfl⟩:=ownsRow_form ya (by simp);have q0:w1.cell? ⟨g,0,none⟩=some (.string x):=by have:=ya.cells (g:=g) rfl 0 (.string x) rfl;rwa [U0,TZ] at this
  have q1:w1.cell? ⟨g,1,none⟩=some (.string y):=by have:=ya.cells (g:=g) rfl 1 (.string y) rfl;rwa [U0,TZ] at this
  have q2:w1.cell? ⟨g,2,none⟩=some (.string rest):=by have:=ya.cells (g:=g) rfl 2 (.string rest) rfl;rwa [U0,TZ] at this
  clear ya;go_wp2_with fail;refine((HN _).out).mono ?_;rintro e w2 ⟨⟨a,rfl,ha⟩,rfl⟩;go_wp2_with fail;refine((HM _).out).mono ?_;rintro e w2 ⟨⟨b,rfl,hb⟩,rfl⟩;have cg:=zJb HW.out ha hb HO.out;clear ha hb HN HM HW HO;rcases cg with k1|⟨k1,k2⟩|⟨k1,k2,k3,k4⟩
  all_goals
   go_wp2_with (go_at_call 123;refine(rC _ _).mono ?_;rintro e w3 ⟨rfl,rfl⟩)
   exact bodyPost_ret (v:=.tuple #[.agg #[.int .i64 0,.int .i64 0,.string ⟨#[]⟩],.int .i64 4]) (by simp[results,results124,go_sem,r0,r1,r2]) rfl ⟨rfl,(((hB.setCell (n_ _) _).setCell (n_ _) _).setCell (n_ _) _)⟩
 ·obtain⟨ao,cap,rfl⟩:=PR ya;have g3:(((out++[rest]).length:Nat):Int)≠3:=by simp;omega
  have g4:(((out++[rest]).length:Int) != 3)=true:=bne_iff_ne.2 g3;generalize (out++[rest]).length=len at *;clear ya Hj;go_wp2;exact bodyPost_ret (v:=.tuple #[.agg #[.int .i64 0,.int .i64 0,.string ⟨#[]⟩],.int .i64 4]) (by simp[results,results124,go_sem,r0,r1,r2]) rfl ⟨rfl,(((hB.setCell (n_ _) _).setCell (n_ _) _).setCell (n_ _) _)⟩
theorem zLw (s:BA) (k:Int) (t u:Nat) (d:BA) (w:World) (hs:s.size<=1000) (hq:oX t u d) (he:s=dA t u d):
  Calls p_ 138 #[.int .i64 k,.string s] w fun e w'=>e=.returned (.tuple #[.agg #[.int .i64 k,.int .i64 t,.int .i64 u,.string d],.int .i64 0])/\Below w.heap.size w w':=by
 obtain⟨r0,r1,r2,r3,hB,h0,fz,-⟩:=kn w DX rfl rfl;have HQ:=aa hq;have HE:=aa he;clear hq he;go_enter func138,ntmps138;go_wp2_with fail;refine(zP s 3 _ (by omega) (by omega) hs).mono ?_;rintro e w1 ⟨v,rfl,out,rest,ya,Hj,hb⟩;replace hB:=aB hB (n_ _) hb;replace fz:=fun j=>aE hb h0 (fz j);replace ⟨r0,r1,r2,r3⟩:=Ij hb r0 r1 r2 r3;clear hb h0;obtain⟨rfl,rfl⟩:=zMi Hj HE.out;clear Hj;obtain⟨g,cap,rfl⟩:=ownsRow_form ya (by simp);have q0:w1.cell? ⟨g,0,none⟩=some (.string (Va t)):=by have:=ya.cells (g:=g) rfl 0 (.string (Va t)) rfl;rwa [U0,TZ] at this
 have q1:w1.cell? ⟨g,1,none⟩=some (.string (Va u)):=by have:=ya.cells (g:=g) rfl 1 (.string (Va u)) rfl;rwa [U0,TZ] at this
 have q2:w1.cell? ⟨g,2,none⟩=some (.string rest):=by have:=ya.cells (g:=g) rfl 2 (.string rest) rfl;rwa [U0,TZ] at this
 clear ya;have HN:=fun w'=>aa (fY (Va t) 9 w' (by omega) (by rw[R0,eM];have:=eQ t (by have:=HQ.out.1;omega);omega));have HM:=fun w'=>aa (fY (Va u) 2000000 w' (by omega) (by rw[R0,eM];have:=eQ u (by have:=HQ.out.2.1;omega);omega));have r28:¬(28:Int)<(rest.size:Int):=by have:=HQ.out.2.2;omega
 rw[eM] at HN HM;generalize Va t=x at *;generalize Va u=y at *;go_wp2_with fail;refine((HN _).out).mono ?_;rintro e w2 ⟨⟨r,rfl,hr⟩,rfl⟩;obtain rfl:=BJ hr HQ.out.1;clear hr;go_wp2_with fail;refine((HM _).out).mono ?_;rintro e w2 ⟨⟨r,rfl,hr⟩,rfl⟩;obtain rfl:=BJ hr HQ.out.2.1;clear hr HN HM;go_wp2;exact bodyPost_ret (v:=.tuple #[.agg #[.int .i64 k,.int .i64 t,.int .i64 u,.string rest],.int .i64 0]) (by simp[results,results138,go_sem,r0,r1,r2,r3]) rfl ⟨rfl,((((hB.setCell (n_ _) _).setCell (n_ _) _).setCell (n_ _) _).setCell (n_ _) _)⟩
theorem zNm (s:BA) (k:Int) (w:World) (hs:s.size<=1000) (xe:∀ t u d,oX t u d->s≠dA t u d):
  Calls p_ 138 #[.int .i64 k,.string s] w fun e w'=>e=.returned (.tuple #[.agg #[.int .i64 0,.int .i64 0,.int .i64 0,.string ⟨#[]⟩],.int .i64 4])/\Below w.heap.size w w':=by
 obtain⟨r0,r1,r2,r3,hB,h0,fz,-⟩:=kn w DX rfl rfl;have HO:=aa xe;clear xe;go_enter func138,ntmps138;go_wp2_with fail;refine(zP s 3 _ (by omega) (by omega) hs).mono ?_;rintro e w1 ⟨v,rfl,out,rest,ya,Hj,hb⟩;replace hB:=aB hB (n_ _) hb;replace fz:=fun j=>aE hb h0 (fz j);replace ⟨r0,r1,r2,r3⟩:=Ij hb r0 r1 r2 r3;clear hb h0;by_cases ho:out.length=2
 ·obtain⟨x,y,rfl⟩:=QJ ho;clear ho;have Mb:x.size<=1000/\y.size<=1000:=by
   have:=congrArg Z7 (oF Hj);rw[fR] at this;simp only[YY,PZ,fR] at this;omega
  have HN:=fun w'=>aa (fY x 9 w' (by omega) Mb.1);have HM:=fun w'=>aa (fY y 2000000 w' (by omega) Mb.2);have HW:=aa Hj;clear Mb Hj;obtain⟨g,cap,rfl⟩:=ownsRow_form ya (by simp);have q0:w1.cell? ⟨g,0,none⟩=some (.string x):=by have:=ya.cells (g:=g) rfl 0 (.string x) rfl;rwa [U0,TZ] at this
  have q1:w1.cell? ⟨g,1,none⟩=some (.string y):=by have:=ya.cells (g:=g) rfl 1 (.string y) rfl;rwa [U0,TZ] at this
  have q2:w1.cell? ⟨g,2,none⟩=some (.string rest):=by have:=ya.cells (g:=g) rfl 2 (.string rest) rfl;rwa [U0,TZ] at this
  clear ya;by_cases h28:rest.size<=28
  ·have r28:¬(28:Int)<(rest.size:Int):=by omega
   go_wp2_with fail;refine((HN _).out).mono ?_;rintro e w2 ⟨⟨a,rfl,ha⟩,rfl⟩;go_wp2_with fail;refine((HM _).out).mono ?_;rintro e w2 ⟨⟨b,rfl,hb⟩,rfl⟩;have cg:=zER HW.out h28 ha hb HO.out;clear ha hb HN HM HW HO;rcases cg with k1|⟨k1,k2⟩
   all_goals
    go_wp2;exact bodyPost_ret (v:=.tuple #[.agg #[.int .i64 0,.int .i64 0,.int .i64 0,.string ⟨#[]⟩],.int .i64 4]) (by simp[results,results138,go_sem,r0,r1,r2,r3]) rfl ⟨rfl,((((hB.setCell (n_ _) _).setCell (n_ _) _).setCell (n_ _) _).setCell (n_ _) _)⟩
  ·have r28:(28:Int)<(rest.size:Int):=by omega
   go_wp2;exact bodyPost_ret (v:=.tuple #[.agg #[.int .i64 0,.int .i64 0,.int .i64 0,.string ⟨#[]⟩],.int .i64 4]) (by simp[results,results138,go_sem,r0,r1,r2,r3]) rfl ⟨rfl,((((hB.setCell (n_ _) _).setCell (n_ _) _).setCell (n_ _) _).setCell (n_ _) _)⟩
 ·obtain⟨ao,cap,rfl⟩:=PR ya;have g3:(((out++[rest]).length:Nat):Int)≠3:=by simp;omega
  have g4:(((out++[rest]).length:Int) != 3)=true:=bne_iff_ne.2 g3;generalize (out++[rest]).length=len at *;clear ya Hj;go_wp2;exact bodyPost_ret (v:=.tuple #[.agg #[.int .i64 0,.int .i64 0,.int .i64 0,.string ⟨#[]⟩],.int .i64 4]) (by simp[results,results138,go_sem,r0,r1,r2,r3]) rfl ⟨rfl,((((hB.setCell (n_ _) _).setCell (n_ _) _).setCell (n_ _) _).setCell (n_ _) _)⟩
theorem lZ (s:BA) (w:World) (hs:s.size<=1000):
  Calls p_ 137 #[.string s] w fun e w'=>e=.returned (.agg #[.string (aZ s),.string (Jb s)])/\Below w.heap.size w w':=by
 go_enter func137,ntmps137;go_wp2;exact bodyPost_ret (v:=.agg #[.string (⟨#[109,47]⟩++s++⟨#[47]⟩),.string (⟨#[109,47]⟩++s++⟨#[48]⟩)]) (by simp[results,results137,go_sem]) rfl ⟨rfl,a_ _ _⟩
theorem gK (q:BA) (n:Int) (w:World) (hq:q.size<=1000) (h1:n<=9223372036854775807):
  Calls p_ 117 #[.string q,.int .i64 n] w fun e w'=>e=.returned (.string (Ta q ((max n 0).toNat % 1000000)))/\Below w.heap.size w w':=by
 have HE:Hid (max 0 n=(((max n 0).toNat:Nat):Int)):=by show _=_;omega
 have HD:=fun w'=>aa (zPk (max n 0).toNat w' (by omega));have h6:(⟨(Ge ((max n 0).toNat % 1000000)).toArray⟩:BA).size=6:=rfl;unfold Ta;generalize (⟨(Ge ((max n 0).toNat % 1000000)).toArray⟩:BA)=z at *;go_enter func117,ntmps117;go_wp2_with fail;rw[HE.out];refine((HD _).out).mono ?_;rintro e w1 ⟨rfl,hb⟩;go_wp2;go_ret;exact⟨rfl,hb⟩
theorem tH (n t:Nat) (d:BA) (hn:n<=999999) (ht:1<=t) (Cs:t<=9) (hd:d.toList.isEmpty=true∨(d.toList.isEmpty=false/\bK d.data.toList=true)) (hs:d.size<=1000) (w:World):
  Calls p_ 180 #[.agg #[.int .i64 n,.int .i64 t,.string d]] w fun e w'=>e=.returned (.tuple #[.string (dA n t d),.int .i64 0])/\Below w.heap.size w w':=by
 have hB:=a_ w (CX n t d);have ea:(Va n).size<=7:=by rw[R0,eM];exact eQ _ (by omega)
 have eb:(Va t).size<=7:=by rw[R0,eM];exact eQ _ (by omega)
 unfold dA;have HA:=fun w'=>aa (iD n w' (by omega));have HC:=fun w'=>aa (iD t w' (by omega));generalize Va n=A at *;generalize Va t=D at *;rcases hd with hd|⟨hd,VH⟩
 all_goals
  go_enter func180,ntmps180;go_wp2_with (go_at_call 123;refine(rC _ _).mono ?_;rintro e w1 ⟨rfl,rfl⟩)
  have nS:=ad.some (w.alloc (CX n t d));have n0:∀ z:ad (w.alloc (CX n t d)),z.w.cell? ⟨w.heap.size,0,none⟩=some (i_ .i64 n):=fun z=>z.cell (by simp);have n1:∀ z:ad (w.alloc (CX n t d)),z.w.cell? ⟨w.heap.size,1,none⟩=some (i_ .i64 t):=fun z=>z.cell (by simp);have n2:∀ z:ad (w.alloc (CX n t d)),z.w.cell? ⟨w.heap.size,2,none⟩=some (v_ d):=fun z=>z.cell (by simp);refine dE (by kernel_rfl) (by kernel_rfl) ?_
  repeat (go_big_quiet_step ((first
   | (go_at_call_of 190 (i_ .i64 (n:Int));exact fF ((HA _).out))
   | (go_at_call_of 190 (i_ .i64 (t:Int));exact fF ((HC _).out)))))
  refine wpQuiet_nil ?_;intro w3 uf;replace uf:=jG uf;replace hB:=aB hB (n_ _) uf;go_wp2;go_ret2;exact⟨rfl,hB⟩
theorem xK (n t:Int) (d:BA) (w:World) (h:(n<0∨999999<n)∨(0<=n/\n<=999999/\(t<1∨9<t))):
  Calls p_ 180 #[.agg #[.int .i64 n,.int .i64 t,.string d]] w fun e w'=>e=.returned (.tuple #[.string ⟨#[]⟩,.int .i64 1])/\Below w.heap.size w w':=by
 have hB:=a_ w (CX n t d);have h4:n<0∨(0<=n/\999999<n)∨(0<=n/\n<=999999/\t<1)∨(0<=n/\n<=999999/\1<=t/\9<t):=by omega
 rcases h4 with h|⟨h,h'⟩|⟨h,h',h2⟩|⟨h,h',h2,h3⟩
 all_goals
  go_enter func180,ntmps180;go_wp2;go_ret2;exact⟨rfl,hB⟩
theorem xF (n t:Int) (d:BA) (w:World) (hn:0<=n) (yl:n<=999999) (ht:1<=t) (Cs:t<=9) (hd:d.toList.isEmpty=false) (VH:bK d.data.toList=false):
  Calls p_ 180 #[.agg #[.int .i64 n,.int .i64 t,.string d]] w fun e w'=>e=.returned (.tuple #[.string ⟨#[]⟩,.int .i64 3])/\Below w.heap.size w w':=by
 have hB:=a_ w (CX n t d);go_enter func180,ntmps180;go_wp2_with (go_at_call 123;refine(rC _ _).mono ?_;rintro e w1 ⟨rfl,rfl⟩)
 go_ret2;exact⟨rfl,hB⟩
theorem zW (k:Int) (t u:Nat) (d:BA) (ht:t<=9) (hu:u<=2000000) (hs:d.size<=28) (w:World):
  Calls p_ 119 #[.agg #[.int .i64 k,.int .i64 t,.int .i64 u,.string d]] w fun e w'=>e=.returned (.tuple #[.string (dA t u d),.int .i64 0])/\Below w.heap.size w w':=by
 have hB:=a_ w (EX k t u d);have ea:(Va t).size<=7:=by rw[R0,eM];exact eQ _ (by omega)
 have eb:(Va u).size<=7:=by rw[R0,eM];exact eQ _ (by omega)
 unfold dA;have HA:=fun w'=>aa (iD t w' (by omega));have HC:=fun w'=>aa (iD u w' (by omega));generalize Va t=A at *;generalize Va u=D at *
 all_goals
  go_enter func119,ntmps119;go_wp2_with (go_at_call 123;refine(rC _ _).mono ?_;rintro e w1 ⟨rfl,rfl⟩)
  have nS:=ad.some (w.alloc (EX k t u d));have n0:∀ z:ad (w.alloc (EX k t u d)),z.w.cell? ⟨w.heap.size,1,none⟩=some (i_ .i64 t):=fun z=>z.cell (by simp);have n1:∀ z:ad (w.alloc (EX k t u d)),z.w.cell? ⟨w.heap.size,2,none⟩=some (i_ .i64 u):=fun z=>z.cell (by simp);have n2:∀ z:ad (w.alloc (EX k t u d)),z.w.cell? ⟨w.heap.size,3,none⟩=some (v_ d):=fun z=>z.cell (by simp);refine dE (by kernel_rfl) (by kernel_rfl) ?_
  repeat (go_big_quiet_step ((first
   | (go_at_call_of 190 (i_ .i64 (t:Int));exact fF ((HA _).out))
   | (go_at_call_of 190 (i_ .i64 (u:Int));exact fF ((HC _).out)))))
  refine wpQuiet_nil ?_;intro w3 uf;replace uf:=jG uf;replace hB:=aB hB (n_ _) uf;go_wp2;go_ret2;exact⟨rfl,hB⟩
theorem tT (k t u:Int) (d:BA) (w:World) (h:(t<0∨9<t)∨(0<=t/\t<=9/\((u<0∨2000000<u)∨(0<=u/\u<=2000000/\28<d.size)))):
  Calls p_ 119 #[.agg #[.int .i64 k,.int .i64 t,.int .i64 u,.string d]] w fun e w'=>e=.returned (.tuple #[.string ⟨#[]⟩,.int .i64 1])/\Below w.heap.size w w':=by
 have hB:=a_ w (EX k t u d);have h4:t<0∨(0<=t/\9<t)∨(0<=t/\t<=9/\u<0)∨(0<=t/\t<=9/\0<=u/\2000000<u)∨(0<=t/\t<=9/\0<=u/\u<=2000000/\(28:Int)<(d.size:Int)):=by omega
 rcases h4 with h|⟨h,h'⟩|⟨h,h',h2⟩|⟨h,h',h2,h3⟩|⟨h,h',h2,h3,h4⟩
 all_goals
  go_enter func119,ntmps119;go_wp2;go_ret2;exact⟨rfl,hB⟩
theorem zAo (x y:Int) (d:BA) (hd:d.size<=1000):∃ (T:BA) (g:Nat),
  (∀ w,Yd w->Calls p_ 179 #[.agg #[.int .i64 x,.int .i64 y,.string d]] w fun e w'=>e=.returned (.tuple #[.string T,pa g])/\Below w.heap.size w w')/\
  (∀ w,Calls p_ 180 #[.agg #[.int .i64 x,.int .i64 y,.string d]] w fun e w'=>e=.returned (.tuple #[.string T,.int .i64 g])/\Below w.heap.size w w')/\
  ((g≠0/\T=⟨#[]⟩)∨(g=0/\∃ n t:Nat,x=n/\y=t/\pO n t d/\T=dA n t d)):=by
 by_cases hb:(x<0∨999999<x)∨(0<=x/\x<=999999/\(y<1∨9<y))
 ·exact⟨⟨#[]⟩,1,fun w _=>qA x y d w hb,fun w=>xK x y d w hb,.inl ⟨by decide,rfl⟩⟩
 ·obtain⟨n,rfl⟩:=N0 (show 0<=x by omega);obtain⟨t,rfl⟩:=N0 (show 0<=y by omega);have Ek:d.toList.isEmpty=true∨(d.toList.isEmpty=false/\bK d.data.toList=true)∨(d.toList.isEmpty=false/\bK d.data.toList=false):=by
   cases d.toList.isEmpty<;>cases bK d.data.toList<;>simp
  rcases Ek with h|h|h
  ·exact⟨_,0,fun w hL=>kH n t d w (by omega) (by omega) (by omega) (.inl h) hd hL.tab,fun w=>tH n t d (by omega) (by omega) (by omega) (.inl h) hd w,.inr ⟨rfl,n,t,rfl,rfl,⟨by omega,by omega,by omega,.inl h⟩,rfl⟩⟩
  ·exact⟨_,0,fun w hL=>kH n t d w (by omega) (by omega) (by omega) (.inr h) hd hL.tab,fun w=>tH n t d (by omega) (by omega) (by omega) (.inr h) hd w,.inr ⟨rfl,n,t,rfl,rfl,⟨by omega,by omega,by omega,.inr h⟩,rfl⟩⟩
  ·exact⟨⟨#[]⟩,3,fun w _=>qO n t d w (by omega) (by omega) (by omega) (by omega) h.1 h.2,fun w=>xF n t d w (by omega) (by omega) (by omega) (by omega) h.1 h.2,.inl ⟨by decide,rfl⟩⟩
theorem xW (k x y:Int) (d:BA) (hd:d.size<=1000):∃ (T:BA) (g:Nat),
  (∀ w,Yd w->Calls p_ 189 #[.agg #[.int .i64 k,.int .i64 x,.int .i64 y,.string d]] w fun e w'=>e=.returned (.tuple #[.string T,pa g])/\Below w.heap.size w w')/\
  (∀ w,Calls p_ 119 #[.agg #[.int .i64 k,.int .i64 x,.int .i64 y,.string d]] w fun e w'=>e=.returned (.tuple #[.string T,.int .i64 g])/\Below w.heap.size w w')/\
  ((g≠0/\T=⟨#[]⟩)∨(g=0/\∃ t u:Nat,x=t/\y=u/\oX t u d/\T=dA t u d)):=by
 by_cases hb:(x<0∨9<x)∨(0<=x/\x<=9/\((y<0∨2000000<y)∨(0<=y/\y<=2000000/\28<d.size)))
 ·exact⟨⟨#[]⟩,1,fun w _=>oL k x y d w hb,fun w=>tT k x y d w hb,.inl ⟨by decide,rfl⟩⟩
 ·obtain⟨t,rfl⟩:=N0 (show 0<=x by omega);obtain⟨u,rfl⟩:=N0 (show 0<=y by omega);exact⟨_,0,fun w hL=>nE k t u d w (by omega) (by omega) (by omega) hL.tab,fun w=>zW k t u d (by omega) (by omega) (by omega) w,.inr ⟨rfl,t,u,rfl,rfl,⟨by omega,by omega,by omega⟩,rfl⟩⟩
theorem bJ (h:g≠0):pa g=.iface 77 (.int .i64 g):=by unfold pa;rw[if_neg h]
def mO (x y:Int) (d:BA):BA×Nat:=
 if 0<=x/\x<=999999/\1<=y/\y<=9 then if d.toList.isEmpty || bK d.data.toList then (dA x.toNat y.toNat d,0) else (⟨#[]⟩,3) else (⟨#[]⟩,1)
def nD (x y:Int) (d:BA):BA×Nat:=
 if 0<=x/\x<=9/\0<=y/\y<=2000000/\d.size<=28 then (dA x.toNat y.toNat d,0) else (⟨#[]⟩,1)
def BG (l:List UInt8):List UInt8:=(l.dropWhile fun c=>decide (c≠32)).drop 1
def TJ (l:List UInt8):Nat:=ue (l.takeWhile fun c=>decide (c≠32))
def eU (s:BA):Nat×Nat×BA:=(TJ s.data.toList,TJ (BG s.data.toList),⟨(BG (BG s.data.toList)).toArray⟩)
theorem zNk (n:Nat) (l:List UInt8):TJ (L0 n++32::l)=n:=by
 unfold TJ;rw[List.takeWhile_append_of_pos (fun c hc=>by simpa using gU n c hc),List.takeWhile_cons_of_neg (by simp),List.append_nil,MJ]
theorem zE4 (n:Nat) (l:List UInt8):BG (L0 n++32::l)=l:=by
 unfold BG;rw[List.dropWhile_append_of_pos (fun c hc=>by simpa using gU n c hc),List.dropWhile_cons_of_neg (by simp)];rfl
theorem zE0 (a b:Nat) (r:BA):eU (dA a b r)=(a,b,r):=by
 unfold eU;rw[vQ,zNk,zE4,zNk,zE4,Array.toArray_toList]
def MS (x:Nat×Nat×BA):Bool:=decide (x.1<=999999)&&decide (1<=x.2.1)&&decide (x.2.1<=9)&&(x.2.2.toList.isEmpty || bK x.2.2.data.toList)
def zR (x:Nat×Nat×BA):Bool:=decide (x.1<=9)&&decide (x.2.1<=2000000)&&decide (x.2.2.size<=28)
theorem zCf (n t:Nat) (d:BA):MS (n,t,d)=true↔pO n t d:=by
 unfold MS pO;cases h:d.toList.isEmpty<;>simp[and_assoc]
theorem xY (n t:Nat) (d:BA):zR (n,t,d)=true↔oX n t d:=by
 unfold zR oX;simp[and_assoc]
def Fm (s:BA):Int×Int×BA×Nat:=
 if MS (eU s)=true/\s=dA (eU s).1 (eU s).2.1 (eU s).2.2 then (((eU s).1:Int),((eU s).2.1:Int),(eU s).2.2,0) else (0,0,⟨#[]⟩,4)
def ud (s:BA) (k:Int):Int×Int×Int×BA×Nat:=
 if zR (eU s)=true/\s=dA (eU s).1 (eU s).2.1 (eU s).2.2 then (k,((eU s).1:Int),((eU s).2.1:Int),(eU s).2.2,0) else (0,0,0,⟨#[]⟩,4)
theorem zFC (x y:Int) (d:BA) (hd:d.size<=1000) (w:World) (hL:Yd w):Calls p_ 179 #[.agg #[.int .i64 x,.int .i64 y,.string d]] w fun e w'=>e=.returned (.tuple #[.string (mO x y d).1,pa (mO x y d).2])/\Below w.heap.size w w':=by
 unfold mO;split
 ·rename_i h;obtain⟨n,rfl⟩:=N0 (show 0<=x by omega);obtain⟨t,rfl⟩:=N0 (show 0<=y by omega)
  cases h1:d.toList.isEmpty with
  | true=>exact kH n t d w (by omega) (by omega) (by omega) (.inl h1) hd hL.tab
  | false=>
   cases h2:bK d.data.toList with
   | true=>exact kH n t d w (by omega) (by omega) (by omega) (.inr ⟨h1,h2⟩) hd hL.tab
   | false=>exact qO n t d w (by omega) (by omega) (by omega) (by omega) h1 h2
 ·exact qA x y d w (by omega)
theorem zOt (x y:Int) (d:BA) (hd:d.size<=1000) (w:World):Calls p_ 180 #[.agg #[.int .i64 x,.int .i64 y,.string d]] w fun e w'=>e=.returned (.tuple #[.string (mO x y d).1,.int .i64 (mO x y d).2])/\Below w.heap.size w w':=by
 unfold mO;split
 ·rename_i h;obtain⟨n,rfl⟩:=N0 (show 0<=x by omega);obtain⟨t,rfl⟩:=N0 (show 0<=y by omega)
  cases h1:d.toList.isEmpty with
  | true=>exact tH n t d (by omega) (by omega) (by omega) (.inl h1) hd w
  | false=>
   cases h2:bK d.data.toList with
   | true=>exact tH n t d (by omega) (by omega) (by omega) (.inr ⟨h1,h2⟩) hd w
   | false=>exact xF n t d w (by omega) (by omega) (by omega) (by omega) h1 h2
 ·exact xK x y d w (by omega)
theorem zG0 (k x y:Int) (d:BA) (w:World) (hL:Yd w):Calls p_ 189 #[.agg #[.int .i64 k,.int .i64 x,.int .i64 y,.string d]] w fun e w'=>e=.returned (.tuple #[.string (nD x y d).1,pa (nD x y d).2])/\Below w.heap.size w w':=by
 unfold nD;split
 ·rename_i h;obtain⟨n,rfl⟩:=N0 (show 0<=x by omega);obtain⟨t,rfl⟩:=N0 (show 0<=y by omega);exact nE k n t d w (by omega) (by omega) (by omega) hL.tab
 ·exact oL k x y d w (by omega)
theorem LS (k x y:Int) (d:BA) (w:World):Calls p_ 119 #[.agg #[.int .i64 k,.int .i64 x,.int .i64 y,.string d]] w fun e w'=>e=.returned (.tuple #[.string (nD x y d).1,.int .i64 (nD x y d).2])/\Below w.heap.size w w':=by
 unfold nD;split
 ·rename_i h;obtain⟨n,rfl⟩:=N0 (show 0<=x by omega);obtain⟨t,rfl⟩:=N0 (show 0<=y by omega);exact zW k n t d (by omega) (by omega) (by omega) w
 ·exact tT k x y d w (by omega)
theorem vE (s:BA):(∃ (n t:Nat) (d:BA),Fm s=((n:Int),(t:Int),d,0)/\pO n t d/\s=dA n t d)∨(Fm s=(0,0,⟨#[]⟩,4)/\∀ n t d,pO n t d->s≠dA n t d):=by
 unfold Fm;split
 ·rename_i h;exact .inl ⟨_,_,_,rfl,(zCf _ _ _).1 h.1,h.2⟩
 ·rename_i h;refine .inr ⟨rfl,fun n t d hq e=>h ?_⟩;rw[e,zE0];exact⟨(zCf n t d).2 hq,rfl⟩
theorem oB (s:BA) (k:Int):(∃ (t u:Nat) (d:BA),ud s k=(k,(t:Int),(u:Int),d,0)/\oX t u d/\s=dA t u d)∨(ud s k=(0,0,0,⟨#[]⟩,4)/\∀ t u d,oX t u d->s≠dA t u d):=by
 unfold ud;split
 ·rename_i h;exact .inl ⟨_,_,_,rfl,(xY _ _ _).1 h.1,h.2⟩
 ·rename_i h;refine .inr ⟨rfl,fun n t d hq e=>h ?_⟩;rw[e,zE0];exact⟨(xY n t d).2 hq,rfl⟩
theorem zDD {t:Nat} {d:BA} (hq:pO n t d):d.size<=6:=by
 rcases hq.2.2.2 with h|h
 ·rw[R0,<-N6,List.isEmpty_iff.1 h];simp
 ·exact DS h.2
theorem zLt (s:BA) (hs:s.size<=100) (w:World) (hL:Yd w):Calls p_ 122 #[.string s] w fun e w'=>e=.returned (.tuple #[.agg #[.int .i64 (Fm s).1,.int .i64 (Fm s).2.1,.string (Fm s).2.2.1],pa (Fm s).2.2.2])/\Below w.heap.size w w':=by
 rcases vE s with⟨n,t,d,e,hq,rfl⟩|⟨e,xe⟩
 ·rw[e];exact yV n t d w hq.1 hq.2.1 hq.2.2.1 hq.2.2.2 (by have:=zDD hq;omega) hL.tab
 ·rw[e];obtain⟨x,y,r,hr,dj⟩:=wP s (by omega);obtain⟨T,g,h1,_,h3⟩:=zAo x y r hr;rcases h3 with⟨hg,rfl⟩|⟨rfl,n,t,rfl,rfl,hq,rfl⟩
  ·exact zAw s x y r _ _ (.inl ⟨g,bJ hg⟩) w hL dj h1
  ·exact zAw s n t r _ _ (.inr ⟨rfl,fun e=>xe n t r hq (gV e).symm⟩) w hL dj h1
theorem zPh (s:BA) (hs:s.size<=100) (w:World):Calls p_ 124 #[.string s] w fun e w'=>e=.returned (.tuple #[.agg #[.int .i64 (Fm s).1,.int .i64 (Fm s).2.1,.string (Fm s).2.2.1],.int .i64 (Fm s).2.2.2])/\Below w.heap.size w w':=by
 rcases vE s with⟨n,t,d,e,hq,he⟩|⟨e,xe⟩
 ·rw[e];exact zNz s n t d w (by omega) hq he
 ·rw[e];exact zN0 s w (by omega) xe
theorem zDb (s:BA) (k:Int) (hs:s.size<=100) (w:World) (hL:Yd w):Calls p_ 185 #[.int .i64 k,.string s] w fun e w'=>e=.returned (.tuple #[.agg #[.int .i64 (ud s k).1,.int .i64 (ud s k).2.1,.int .i64 (ud s k).2.2.1,.string (ud s k).2.2.2.1],pa (ud s k).2.2.2.2])/\Below w.heap.size w w':=by
 rcases oB s k with⟨t,u,d,e,hq,rfl⟩|⟨e,xe⟩
 ·rw[e];exact vV k t u d w hq.1 hq.2.1 hq.2.2 hL.tab
 ·rw[e];obtain⟨x,y,r,hr,dj⟩:=wP s (by omega);obtain⟨T,g,h1,_,h3⟩:=xW k x y r hr;rcases h3 with⟨hg,rfl⟩|⟨rfl,t,u,rfl,rfl,hq,rfl⟩
  ·exact xG s k x y r _ _ (.inl ⟨g,bJ hg⟩) w hL dj h1
  ·exact xG s k t u r _ _ (.inr ⟨rfl,fun e=>xe t u r hq (gV e).symm⟩) w hL dj h1
theorem FT (s:BA) (k:Int) (hs:s.size<=100) (w:World):Calls p_ 138 #[.int .i64 k,.string s] w fun e w'=>e=.returned (.tuple #[.agg #[.int .i64 (ud s k).1,.int .i64 (ud s k).2.1,.int .i64 (ud s k).2.2.1,.string (ud s k).2.2.2.1],.int .i64 (ud s k).2.2.2.2])/\Below w.heap.size w w':=by
 rcases oB s k with⟨t,u,d,e,hq,he⟩|⟨e,xe⟩
 ·rw[e];exact zLw s k t u d w (by omega) hq he
 ·rw[e];exact zNm s k w (by omega) xe
end
section
open Go.RowKit Go.Joins
attribute [local go_sem ↓] Go.wp_at_zero Go.wp_at_succ
theorem zFU:(Tryz.prog.info? 163).map (fun i=>(i.zero,i.size,i.bytes))=some (some (.agg #[.int .i64 0,.slice none 0 0]),2,32):=by kernel_rfl
theorem zGs (n:Nat):∀ u∈(KZ (A0 #[.int .i64 0,.slice none 0 0]).cells n).toList,u.oneCell'=true:=by
 intro u hu;simp[KZ,Value.cells] at hu;obtain⟨i,_,rfl⟩:=hu;rcases Nat.mod_two_eq_zero_or_one i with e|e<;>rw[e]<;>rfl
theorem zCN (B g cap K m:Nat) (xs:List Value) (w:World) (ho:w.ownsRow B 163 2 (.slice (some ⟨g,0,none⟩) (K+m) cap) (K+m) xs) (h1:∀ u∈xs,u.oneCell'=true) (hK:0<K) (hn:K+m<=1000) (Ri:K+m<=cap) (bm:cap<=9223372036854775807):
  Calls p_ 153 #[.slice (some ⟨g,0,none⟩) (K+m) cap,.int .i64 0,.int .i64 K] w fun e w'=>
   e=.returned (.slice (some ⟨g,0,none⟩) m cap)/\w'.ownsRow B 163 2 (.slice (some ⟨g,0,none⟩) m cap) m (xs.drop (K*2))/\w.grownBy w' (some g):=by
 obtain⟨i0,Qb,Xb,Yc,te⟩:=info_parts zFU;have Mf:xs.length=(K+m)*2:=ho.1;obtain⟨Vb,Ef⟩:∃ Vb,Vb=xs.drop (K*2):=⟨_,rfl⟩;have hlen:Vb.length=m*2:=by rw[Ef,UZ,Mf];omega
 have Eu:w.drew.ownsRow B 163 2 (.slice (some ⟨g,0,none⟩) (K+m) cap) (K+m) xs:=ho;obtain⟨A,hA,As⟩:∃ A:Addr,(if cap=K then some (⟨g,0,none⟩:Addr) else some ⟨g,K*2,none⟩)=some A/\Hid (∀ t u,Vb[t]?=some u->w.drew.cell? (A.add t)=some u):=by
  by_cases h:cap=K
  ·refine⟨⟨g,0,none⟩,by simp[h],fun t u hu=>?_⟩;have h0:Vb.length=0:=by omega
   rw[E0.1 h0] at hu;simp at hu
  ·refine⟨⟨g,K*2,none⟩,by simp[h],fun t u hu=>?_⟩;have ht:t<m*2:=by
    have:=(List.getElem?_eq_some_iff.1 hu).1;omega
   rw[Addr.add_lit,Eu.cellAt (K*2+t) (by omega),<-hu,Ef,List.getElem?_drop]
 have s2:Hid (∀ u∈Vb,u.oneCell'=true):=fun u hu=>h1 u (by rw[Ef] at hu;exact A1 hu);have s3:Hid (∀ t,t<Vb.length->(w.drew.cell? ⟨g,0+0*2+t,none⟩).isSome=true/\w.drew.frozen? ⟨g,0+0*2+t,none⟩=false):=fun t ht=>by
  have:=cS Eu t (by omega);simpa using this
 obtain⟨W1,Ln⟩:∃ W1,W1=w.drew.setCells g (0+0*2) Vb:=⟨_,rfl⟩;have Mn:=Ln;simp only[Nat.zero_mul,Nat.add_zero] at Mn;have r1:=cT Vb 0 w.drew xs Eu;rw[<-Mn] at r1;have KQ:∀ w,(zeroValue 163).run p_ w=.ok (.agg #[.int .i64 0,.slice none 0 0]) w:=zeroValue163;have ko:(A0 #[.int .i64 0,.slice none 0 0]).cells.size=2:=rfl;have Ee:∀ ty,(Builtin.clear_ #[82] ty #[.slice (some ⟨g,m*2,none⟩) K (cap-m)]).run p_ W1=.ok (.tuple #[]) (W1.setCells g (m*2) (KZ (A0 #[.int .i64 0,.slice none 0 0]).cells K).toList):=
  fun ty=>qG W1 _ _ ty _ underlying82 KQ g (m*2) _ _ (by omega) (zGs _) (fun j hj=>by rw[ko] at hj;exact(cS r1.1 (m*2+j) (by omega)).1) (fun j hj=>by rw[ko] at hj;exact(cS r1.1 (m*2+j) (by omega)).2)
 have r2:=cT (KZ (A0 #[.int .i64 0,.slice none 0 0]).cells K).toList (m*2) W1 _ r1.1;have r3:=rT r2.1 (m:=m) (by omega);rw[tN] at r3;have e4:(td xs 0 Vb).take (m*2)=Vb:=by rw[<-hlen];exact tI Vb xs (by omega)
 rw[e4] at r3;have R3:=aa r3;have R4:Hid (w.grownBy (W1.setCells g (m*2) (KZ (A0 #[.int .i64 0,.slice none 0 0]).cells K).toList) (some g)):=(show w.grownBy W1 (some g) from ⟨r1.2.os,r1.2.tape,r1.2.output,r1.2.size,r1.2.block⟩).trans r2.2;generalize vq:W1.setCells g (m*2) (KZ (A0 #[.int .i64 0,.slice none 0 0]).cells K).toList=W2 at Ee R3 R4;have HN:Hid (Vb=xs.drop (K*2)):=Ef;have HL:=aa hlen;have HW:Hid (W1=w.drew.setCells g (0+0*2) Vb):=Ln;clear Ef hlen Eu Ln Mn r1 r2 r3 e4 ho h1 Mf vq ko;have k0:(0:Int)<=(K:Int):=Int.natCast_nonneg _;have k1:(K:Int)<=(K:Int)+(m:Int):=by omega
 have k2:(K:Int)<=(cap:Int):=by omega
 have k3:¬(0:Int)=(K:Int):=by omega
 have k4:¬cap=m:=by omega
 go_enter func153,ntmps153;go_wp2_with fail
 go_region_law (refine step_append_room rfl (.tmp 22) (.tmp 25) 82 rfl 163 i0 2 underlying82 Qb Yc g 0 0 cap (by simp[Act.eval,Act.put]) A m (cap-K) Vb (by simp[Act.eval,Act.put]) HL.out As.out s2.out (by omega) s3.out ?_;rw[<-HW.out])
 go_wp2;go_ret;exact⟨rfl,by rw[<-HN.out];exact R3.out,R4.out⟩
theorem zEo (g n cap:Nat) (w:World) (hn:n<=cap):
  Calls p_ 153 #[.slice (some ⟨g,0,none⟩) n cap,.int .i64 0,.int .i64 0] w fun e w'=>e=.returned (.slice (some ⟨g,0,none⟩) n cap)/\w'=w:=by
 go_enter func153,ntmps153;go_wp2
 all_goals
  go_ret;exact⟨rfl,rfl⟩
theorem zHg (w:World):
  Calls p_ 153 #[.slice none 0 0,.int .i64 0,.int .i64 0] w fun e w'=>e=.returned (.slice none 0 0)/\w'=w:=by
 go_enter func153,ntmps153;go_wp2;go_ret;exact⟨rfl,rfl⟩
theorem zBD {α β:Type} (f:α->List β) (k:Nat) (hk:∀ x,(f x).length=k):∀ (n:Nat) (l:List α),(l.flatMap f).drop (n*k)=(l.drop n).flatMap f
 | 0,l=>by simp
 | n+1,[]=>by simp
 | n+1,x::l=>by
  rw[List.flatMap_cons,List.drop_succ_cons,<-zBD f k hk n l,Nat.succ_mul,Nat.add_comm,<-List.drop_drop,List.drop_left' (hk x)]
theorem zJM (hk:∀ p∈dv,w.ownsRow B 9 1 p.2 p.1.keys.length (p.1.keys.map v_)):∀ u∈Oh dv,u.oneCell'=true:=by
 intro u hu;obtain⟨p,hp,hu⟩:=List.mem_flatMap.1 hu;simp only[sQ,List.mem_cons,List.not_mem_nil,or_false] at hu;rcases hu with rfl|rfl
 ·rfl
 ·rcases aX (hk p hp) with⟨e,_⟩|⟨g,cap,e,_⟩<;>rw[e]<;>rfl
theorem zIj {α:Type} {R:α->α->Prop} {l:List α} (h:l.Pairwise R) (k:Nat):(l.drop k).Pairwise R:=h.drop
theorem zLD {w2:World} (hl:dv.length=K+m) (h:bP W B hb Xc (.slice (some ⟨g,0,none⟩) (K+m) cap) dv) (hB:B<=W.heap.size) (hg:W.grownBy w2 (some g))
  (ho:w2.ownsRow B 163 2 (.slice (some ⟨g,0,none⟩) m cap) m ((Oh dv).drop (K*2))):
  bP (w2.setCell ⟨hb,2,none⟩ (.slice (some ⟨g,0,none⟩) m cap)) B hb Xc (.slice (some ⟨g,0,none⟩) m cap) (dv.drop K)/\
  Below B W (w2.setCell ⟨hb,2,none⟩ (.slice (some ⟨g,0,none⟩) m cap))/\w2.cell? ⟨hb,2,none⟩=some (.slice (some ⟨g,0,none⟩) (K+m) cap)/\w2.frozen? ⟨hb,2,none⟩=false/\
  (∀ k,k<W.heap.size->k≠hb->some k≠some g->(w2.setCell ⟨hb,2,none⟩ (.slice (some ⟨g,0,none⟩) m cap)).heap[k]?=W.heap[k]?):=by
 have Aa:=h.lt;have sg:some hb≠some g:=fun e=>h.off (by rw[e];rfl);have Rv:g≠hb:=fun e=>sg (by rw[e]);have c1:w2.cell? ⟨hb,2,none⟩=some (.slice (some ⟨g,0,none⟩) (K+m) cap):=hg.cell h.cell sg;have f1:w2.frozen? ⟨hb,2,none⟩=false:=(hg.frozen_far ⟨hb,2,none⟩ Aa sg).trans h.soft;refine⟨{ cell:=u_ _ _ _ c1,soft:=by simpa using f1,lo:=h.lo,own:=?_,keys:=?_,off:=?_,vf:=?_,apart:=?_,pair:=zIj h.pair K,rest:=fun j=>⟨fun hj=>(t_ _ _ _ _ (by simp<;>omega)).trans ((b_ (w:=W) (hg.block hb Aa sg)).trans ((h.rest j).1 hj)),by rw[World.frozen?_setCell];exact(hg.frozen_far ⟨hb,j,none⟩ Aa sg).trans (h.rest j).2⟩ },?_,c1,f1,fun k h1 h2 h3=>(h_ _ _ _ _ h2).trans (hg.block k h1 h3)⟩
 ·have e1:(dv.drop K).length=m:=by rw[UZ];omega
  have e2:Oh (dv.drop K)=(Oh dv).drop (K*2):=(zBD sQ 2 qX K dv).symm;rw[e1,e2];exact gG ho hb 2 _ (by simpa[VZ] using Rv)
 ·intro p hp;have Ym:=A1 hp;refine gG ((h.keys p Ym).kept hg ?_) hb 2 _ (h.vf p Ym);rcases h.apart p Ym with e|e
  ·exact .inl e
  ·exact .inr e
 ·simpa[VZ] using Rv
 ·exact fun p hp=>h.vf p (A1 hp)
 ·exact fun p hp=>h.apart p (A1 hp)
 ·exact(((r_ B W).grown hg hB (fun k hk=>by cases hk;exact(h.own.lt g rfl).1)).setCell h.lo _)
theorem zBb {v:Value} (h:bP W B hb Xc v dv):bP (W.setCell ⟨hb,2,none⟩ v) B hb Xc v dv where
 cell:=u_ _ _ _ h.cell
 soft:=by simpa using h.soft
 lo:=h.lo
 own:=gG h.own hb 2 _ h.off
 keys:=fun p hp=>gG (h.keys p hp) hb 2 _ (h.vf p hp)
 off:=h.off
 vf:=h.vf
 apart:=h.apart
 pair:=h.pair
 rest:=fun j=>⟨fun hj=>(t_ _ _ _ _ (by simp<;>omega)).trans ((h.rest j).1 hj),by rw[World.frozen?_setCell];exact(h.rest j).2⟩
theorem zMX {j:Nat} (h:jn hb (.slice (some ⟨g,0,none⟩) m cap) (dv.drop K) j):jn hb (.slice (some ⟨g,0,none⟩) n cap) dv j:=by
 rcases h with h|h|⟨p,hp,e⟩
 ·exact .inl h
 ·exact .inr (.inl h)
 ·exact .inr (.inr ⟨p,A1 hp,e⟩)
theorem zG9 (dv:List (aU×Value)) (B hb:Nat) (v:Value) (n:Int) (w:World) (h:bP w B hb Xc v dv) (hr:gS (xb dv)) (hB:B<=w.heap.size) (hn:dv.length<=1000):
  Calls p_ 82 #[.pointer (some ⟨hb,2,none⟩),.int .i64 n] w fun e w'=>e=.returned (.tuple #[])/\∃ v' Ai,bP w' B hb Xc v' Ai/\Ai=dv.drop (cR (xb dv) n)/\Below B w w'/\∀ j,j<w.heap.size->¬jn hb v dv j->w'.heap[j]?=w.heap[j]?/\¬jn hb v' Ai j:=by
 have hK:cR (xb dv) n<=dv.length:=by have:=zBi (xb dv) n;simpa[xb] using this
 obtain⟨K,Kv⟩:∃ K,cR (xb dv) n=K:=⟨_,rfl⟩;rw[Kv] at hK;rw[Kv];have HK:=aa Kv;have c:=h.cell;have hs:=h.soft;have Aa:=h.lt;have HH:=aa h;have HR:=aa hr;clear Kv h hr;rcases HH.out.form with⟨rfl,rfl⟩|⟨g,cap,rfl,_,Rv,il,Aj,_⟩
 ·have JB:K=0:=by simpa using hK
  subst JB;go_enter func82,ntmps82
  go_region_with (first
   | (go_at_call 83;refine(lY [] B hb _ n _ (HH.out.on (r_ _ _).drew) HR.out (by simp)).mono ?_;rintro e w1 ⟨rfl,Ba⟩;rw[HK.out];have c1:=aA Ba (aA (r_ _ _).drew c);have f1:=aE Ba Aa hs)
   | (go_at_call 153;refine(zHg _).mono ?_;rintro e w2 ⟨rfl,rfl⟩))
  all_goals
   go_wp2;go_end0;exact⟨rfl,_,_,zBb (HH.out.on (aB (r_ _ w).drew (n_ _) Ba)),rfl,((aB (r_ _ w).drew (n_ _) Ba).mono hB).setCell HH.out.lo _,fun k h1 h2=>⟨(h_ _ _ _ _ (fun e=>h2 (.inl e))).trans ((aB (r_ _ w).drew (n_ _) Ba).block k h1),by simpa using h2⟩⟩
 ·by_cases JB:K=0
  ·subst JB;go_enter func82,ntmps82
   go_region_with (first
    | (go_at_call 83;refine(lY dv B hb _ n _ (HH.out.on (r_ _ _).drew) HR.out (by omega)).mono ?_;rintro e w1 ⟨rfl,Ba⟩;rw[HK.out];have c1:=aA Ba (aA (r_ _ _).drew c);have f1:=aE Ba Aa hs)
    | (go_at_call 153;refine(zEo _ _ _ _ il).mono ?_;rintro e w2 ⟨rfl,rfl⟩))
   all_goals
    go_wp2;go_end0;exact⟨rfl,_,_,zBb (HH.out.on (aB (r_ _ w).drew (n_ _) Ba)),by simp,((aB (r_ _ w).drew (n_ _) Ba).mono hB).setCell HH.out.lo _,fun k h1 h2=>⟨(h_ _ _ _ _ (fun e=>h2 (.inl e))).trans ((aB (r_ _ w).drew (n_ _) Ba).block k h1),by simpa using h2⟩⟩
  ·obtain⟨m,hm⟩:∃ m,dv.length=K+m:=⟨dv.length-K,by omega⟩;have HM:=aa hm;have Sf:=aa (zJM HH.out.keys);rw[hm] at HH c il hn;clear hm;go_enter func82,ntmps82
   go_region_with (first
    | (go_at_call 83;refine(lY dv B hb _ n _ (HH.out.on (r_ _ _).drew) HR.out (by rw[HM.out];omega)).mono ?_;rintro e w1 ⟨rfl,Ba⟩;rw[HK.out];have c1:=aA Ba (aA (r_ _ _).drew c);have mg:=aB (r_ _ w).drew (n_ _) Ba;have HW:=aa (HH.out.on mg))
    | (go_at_call 153;refine(zCN B g cap K m (Oh dv) _ (HM.out▸HW.out.own) Sf.out (by omega) (by omega) il Aj).mono ?_;rintro e w2 ⟨rfl,qc,Hg⟩;obtain⟨r1,r2,r3,r4,r5⟩:=zLD HM.out HW.out (BZ hB mg.size) Hg qc;have R1:=aa r1;have R2:=aa r2;have R5:=aa r5;clear r1 r2 r5 qc Hg))
   all_goals
    go_wp2;go_end0;exact⟨rfl,_,_,R1.out,rfl,(mg.mono hB).trans R2.out,fun k h1 h2=>⟨(R5.out k (UY h1 mg.size) (fun e=>h2 (.inl e)) (fun e=>h2 (.inr (.inl e.symm)))).trans (mg.block k h1),fun e=>h2 (zMX e)⟩⟩
theorem zGv (ao:Option Addr) (cap:Nat) (w:World):
  Calls p_ 163 #[.slice ao 0 cap] w fun e w'=>e=.returned (pa 0)/\Below w.heap.size w w':=by
 go_enter func163,ntmps163;go_wp2;refine wp_loop_rounds 1 ?_;rw[rounds_succ];go_wp2;go_ret;exact⟨rfl,r_ _ _⟩
theorem zDZ (l:List ma) (ao:Option Addr) (cap:Nat) (w:World) (hl:bW w ao l) (hn:l.length<=1000) (hk:∀ c∈l,c.key.size<=1000000):
  Calls p_ 163 #[.slice ao l.length cap] w fun e w'=>e=.returned (pa (iT l))/\Below w.heap.size w w':=by
 rcases hl with rfl|⟨b,off,rfl,h⟩
 ·exact zGv _ _ _
 ·exact zEW l b off cap w h hn hk
theorem zLj:(Tryz.prog.info? 192).map (fun i=>(i.zero,i.size,i.bytes))=some (some (.agg #[.int .i64 0,.string ⟨#[]⟩,.bool false]),3,32):=by kernel_rfl
theorem VS.tick {cq:Int} {g:BA->Value} (h:VS W B vb mb now n D g R):VS (W.setCell ⟨vb,0,none⟩ (.int .i64 cq)) B vb mb cq n D g R where
 num:=u_ _ _ _ h.num
 soft:=by simpa using h.soft
 mp:=(t_ _ _ _ _ (by simp)).trans h.mp
 own:=tZ h.own (h_ _ _ _ _ (Ne.symm h.ne))
 look:=h.look
 has:=h.has
 rows:=fun key=>aI (h.rows key) fun k e=>h_ _ _ _ _ (fun e'=>h.Vg key (by rw[e,e']))
 Cm:=h.Cm
 Bm:=h.Bm
 ne:=h.ne
 Vg:=h.Vg
 Lg:=h.Lg
 apart:=h.apart
theorem zEq {wr Y w3 w4:World} {gk ck:Nat} {g g0:BA->Value} {x:ma} {gv:Value} (h:VS Y B vb mb (now+1) n D g R) (FC:Below wr.heap.size wr Y) (xs:Y.heap.size=wr.heap.size+1) (hk:x.key.size<=maxLen) (hB:B<=Y.heap.size) (mj:B<=wr.heap.size) (Sv:g x.key=gv)
  (hg:(Y.alloc (WX (now+1) x.val x.gone)).drew.grownBy w3 gv.ownBlock)
  (ho:w3.ownsRow B 192 3 (.slice (some ⟨gk,0,none⟩) ((R x.key).length+1) ck) ((R x.key).length+1) ((R x.key).flatMap nO++[.int .i64 (now+1),.string x.val,.bool x.gone])) (Sc:gv.ownBlock=some gk∨gk=wr.heap.size+2)
  (hm:w4.ownsMap p_ 9 RV mb (n+1) (D.put (kL x.key) (.held (.slice (some ⟨gk,0,none⟩) ((R x.key).length+1) ck)))) (Ah:w3.grownBy w4 (some mb))
  (H2:Below B w wr) (H3:∀ j,j<w.heap.size->¬Gb vb mb g0 j->wr.heap[j]?=w.heap[j]?/\¬Gb vb mb g j):
  Hid (VS w4 B vb mb (now+1) (n+1) (D.put (kL x.key) (.held (.slice (some ⟨gk,0,none⟩) ((R x.key).length+1) ck))) (Ec g x.key (.slice (some ⟨gk,0,none⟩) ((R x.key).length+1) ck)) (Ec R x.key (R x.key++[⟨now+1,x.val,x.gone⟩])))/\Hid (Below B w w4)/\
  Hid (∀ j,j<w.heap.size->¬Gb vb mb g0 j->w4.heap[j]?=w.heap[j]?/\¬Gb vb mb (Ec g x.key (.slice (some ⟨gk,0,none⟩) ((R x.key).length+1) ck)) j):=by
 subst Sv;have Yg:=(a_ Y (WX (now+1) x.val x.gone)).drew;have hs:=Yg.size;have hZ:(Y.alloc (WX (now+1) x.val x.gone)).drew.heap.size=wr.heap.size+2:=by
  show(Y.alloc _).heap.size=_;rw[World.size_alloc,xs]
 have Pj:uh w3 B (.slice (some ⟨gk,0,none⟩) ((R x.key).length+1) ck) (R x.key++[⟨now+1,x.val,x.gone⟩]):=by
  unfold uh;rw[YY,List.flatMap_append];exact ho
 obtain⟨r1,r2,r3⟩:=(h.on Yg).put (x:=⟨now+1,x.val,x.gone⟩) hk (BZ hB hs) hg Pj (Sc.imp id fun e=>by rw[e,hZ]) hm Ah;have FQ:=aB FC (n_ _) Yg;refine⟨r1,(H2.trans (FQ.mono mj)).trans r2,fun j h1 h2=>?_⟩;obtain⟨a1,a2⟩:=H3 j h1 h2;have hj:j<wr.heap.size:=UY h1 H2.size;obtain⟨b1,b2⟩:=r3 j (UY hj FQ.size) a2;exact⟨b1.trans ((FQ.block j hj).trans a1),b2⟩
theorem zEa (l:List ma) (ao:Option Addr) (cap:Nat) {g:BA->Value} (w:World) (h:VS w B vb mb now n D g R) (hB:B<=w.heap.size)
  (hl:bW w ao l) (hn:l.length<=1000) (hk:∀ c∈l,c.key.size<=1000000) (sg:l≠[]->∀ b off,ao=some ⟨b,off,none⟩->¬Gb vb mb g b) (h0:0<=now) (h1:now<=1000000) (Vp:n<=1000000) (hR:∀ key,(R key).length<=1000000) (hf:iT l=0):
  Calls p_ 89 #[.pointer (some ⟨vb,0,none⟩),.slice ao l.length cap] w fun e w'=>e=.returned (.tuple #[.int .i64 (now+1),.nilIface])/\∃ D' g',VS w' B vb mb (now+1) (n+l.length) D' g' (cW R (now+1) l)/\Below B w w'/\
   (∀ j,j<w.heap.size->¬Gb vb mb g j->w'.heap[j]?=w.heap[j]?/\¬Gb vb mb g' j):=by
 have HV:=aa h;have HL:=aa hl;have HF:=aa hf;have HO:=aa sg;have HK:=aa hk;have Xf:=aa hR;have c0:=h.num;have f0:=h.soft;clear h hl hf sg hk hR;go_enter func89,ntmps89;go_wp2_with (go_at_call 163;refine(zDZ l ao cap _ HL.out hn HK.out).mono ?_;rintro e w1 ⟨rfl,Ba⟩;rw[HF.out];simp only[pa];replace c0:=aA Ba c0;replace f0:=aE Ba (HV.out.lt (.inl rfl)) f0)
 have Dg:=aa (VS.tick (cq:=now+1) (HV.out.on Ba));have PI:=HV.out.lt (k:=vb) (.inl rfl);have wi:Hid (∀ j,j<w.heap.size->¬Gb vb mb g j->(w1.setCell ⟨vb,0,none⟩ (.int .i64 (now+1))).heap[j]?=w.heap[j]?/\¬Gb vb mb g j):=fun j h1 h2=>⟨(h_ _ _ _ _ (fun e=>h2 (.inl e))).trans (Ba.block j h1),h2⟩;have zb:Hid (Below B w (w1.setCell ⟨vb,0,none⟩ (.int .i64 (now+1)))):=(Ba.mono hB).setCell HV.out.Cm _;clear c0 f0
 go_loopw [23] (fun i wr=>∃ (k:Nat) (D':DataW Value) (g':BA->Value),k<=l.length/\i=.int .i64 k/\VS wr B vb mb (now+1) (n+k) D' g' (cW R (now+1) (l.take k))/\Below B w wr/\(∀ j,j<w.heap.size->¬Gb vb mb g j->wr.heap[j]?=w.heap[j]?/\¬Gb vb mb g' j)) (fun i _=>l.length-(intOf i).toNat)
 case atStart=>exact⟨0,D,g,OZ _,rfl,Dg.out,zb.out,wi.out⟩
 case round=>
  obtain⟨k,D',g',Ui,rfl,hV,mj,ic⟩:=hrel;have H1:=aa hV;have H2:=aa mj;have H3:=aa ic;clear hV mj ic Dg wi zb Ba;by_cases Aa:k<l.length
  ·have La:l≠[]:=fun e=>by rw[e] at Aa;simp at Aa
   rcases HL.out with e|⟨b,off,lu,Df⟩
   ·exact absurd e La
   have ze:b<w.heap.size:=World.block_lt_of_cell? _ _ (Df k Aa).1;obtain⟨Pu,_⟩:=H3.out b ze (HO.out La b off lu);subst lu;have c0:=(b_ (w:=w) Pu).trans (Df k Aa).1;have c1:=(b_ (w:=w) Pu).trans (Df k Aa).2.1;have c2:=(b_ (w:=w) Pu).trans (Df k Aa).2.2;have Za:(k:Int)<(l.length:Int):=by omega
   have Wh:=HK.out _ (MZ Aa);have mz:l[k].key.size<=maxLen:=by unfold maxLen;omega
   have eT:l.take (k+1)=l.take k++[l[k]]:=ZY Aa;have PH:(cW R (now+1) (l.take k) l[k].key).length<=1002000:=by
    have a1:=sF (now+1) l[k].key (l.take k) R;have a2:=Xf.out l[k].key;have a3:=List.length_take_le k l;omega
   generalize hR1:cW R (now+1) (l.take k)=R1 at H1 PH;have HT:Hid (cW R (now+1) (l.take (k+1))=Ec R1 l[k].key (R1 l[k].key++[⟨now+1,l[k].val,l[k].gone⟩])):=by
    unfold Hid;rw[eT,zEl,hR1]
   clear Df Pu eT hR1;generalize l[k]=x at *;clear Wh;obtain⟨x0,x1,x2,Ja,-,-,xs⟩:=Nf wr (FX x.key x.val x.gone) rfl rfl;have An:=aa (H1.out.on Ja);have Kz:=aa Ja;have GI:¬Gb vb mb g' wr.heap.size:=fun e=>by have:=H1.out.lt e;omega
   go_wp2;generalize hY:wr.alloc (FX x.key x.val x.gone)=Y at x0 x1 x2 xs An Kz ⊢;clear hY Ja c0 c1 c2;have v0:=An.out.num;have v1:=An.out.mp;have hvY:=An.out.lt (k:=vb) (.inl rfl);have hmY:=An.out.lt (k:=mb) (.inr (.inl rfl));have jm:=(An.out.on (r_ _ Y).drew).looked mz;have Yg:=(a_ Y (WX (now+1) x.val x.gone)).drew;have Ev:=aa (An.out.on Yg);have Jh:=Ev.out.looked mz;have nh:=Ev.out.rows x.key;have vm:=Ev.out.Vg x.key;have hom:=Ev.out.Lg x.key;have II:(g' x.key).ownBlock≠some wr.heap.size:=fun e=>GI (.inr (.inr ⟨x.key,e⟩));generalize Sv:g' x.key=gv at jm Jh nh vm hom II;have HGV:=aa Sv;have xn:=aa nh;have Od:Hid (∀ j u,[i_ .i64 (now+1),v_ x.val,Value.bool x.gone][j]?=some u->(Y.alloc (WX (now+1) x.val x.gone)).drew.cell? ((⟨wr.heap.size+1,0,none⟩:Addr).add j)=some u):=by
    rw[<-xs];exact World.news_of_block (cs:=#[.int .i64 (now+1),.string x.val,.bool x.gone]) (t:=192) (fr:=(0,0)) (heap_alloc_new Y _)
   have hBY:B<=Y.heap.size:=by have a:=An.out.Cm;omega
   have mj:B<=wr.heap.size:=by have a:=H1.out.Cm;have b:=H1.out.lt (k:=vb) (.inl rfl);omega
   obtain⟨i0,Qb,Xb,Yc,te⟩:=info_parts zLj;have UI:(some vb:Option Nat)≠some mb:=fun e=>An.out.ne (by cases e;rfl);have Bz:(some wr.heap.size:Option Nat)≠some mb:=fun e=>GI (.inr (.inl (by cases e;rfl)));clear Sv nh
   go_region_held3 (fun w'=>w'.cell? ⟨vb,0,none⟩=some (.int .i64 (now+1))/\w'.cell? ⟨vb,1,none⟩=some (.map (some mb))/\w'.cell? ⟨wr.heap.size,0,none⟩=some (.string x.key)/\w'.cell? ⟨wr.heap.size,1,none⟩=some (.string x.val)/\w'.cell? ⟨wr.heap.size,2,none⟩=some (.bool x.gone))
    (first|go_keep|exact⟨j0,j1,j2,j3,j4⟩|exact⟨q0,q1,q2,q3,q4⟩)
    ((refine step_append_lies _ (by rfl) _ _ _ (by rfl) B 192 i0 _ 3 32 underlying177 Qb Xb Yc te rfl (by omega) gv _ _ (by rfl) xn.out ⟨wr.heap.size+1,0,none⟩ 1 1 [.int .i64 (now+1),.string x.val,.bool x.gone] (by rfl) (by rfl) Od.out (by simp[Value.oneCell']) (by omega) (by unfold maxLen;omega) (by omega) (by simp;omega) (wr.heap.size+2) (by simp;omega) ?_;intro gk ck w3 Ae Oa Gg mh;obtain⟨w4,Oo,QD,Ah⟩:=(tZ Ev.out.own (Oa.block mb (by simp;omega) (Ne.symm hom))).update eX underlying176 (by unfold maxLen;omega) (uH mz) (show RV (.slice (some ⟨gk,0,none⟩) ((R1 x.key).length+1) ck)=_ from rfl);have j0:=Oa.cell (aA Yg v0) (Ne.symm vm);have j1:=Oa.cell (aA Yg v1) (Ne.symm vm);have j2:=Oa.cell (aA Yg x0) (Ne.symm II);have j3:=Oa.cell (aA Yg x1) (Ne.symm II);have j4:=Oa.cell (aA Yg x2) (Ne.symm II);have q0:=Ah.cell j0 UI;have q1:=Ah.cell j1 UI;have q2:=Ah.cell j2 Bz;have q3:=Ah.cell j3 Bz;have q4:=Ah.cell j4 Bz))
   all_goals
    obtain⟨R1',R2',R3'⟩:=zEq An.out Kz.out xs mz hBY mj HGV.out Oa Ae Gg QD Ah H2.out H3.out;clear j0 j1 j2 j3 j4 q0 q1 q2 q3 q4 Oo QD Ah Ae Oa Gg mh jm Jh v0 v1 x0 x1 x2;go_wp2;go_roundw
    case rel=>exact⟨k+1,_,_,by omega,by go_num,by rw[HT.out];exact R1'.out,R2'.out,R3'.out⟩
    case measure=>simp[intOf];omega
  ·have ek:k=l.length:=by omega
   subst ek;have Za:¬(l.length:Int)<(l.length:Int):=by omega
   rw[List.take_length] at H1;have v0:=H1.out.num;go_wp2;go_ret2;exact⟨rfl,_,_,H1.out,H2.out,H3.out⟩
end
end Go.Proofs.YtcfjimdfegejaaaGreatDoor
