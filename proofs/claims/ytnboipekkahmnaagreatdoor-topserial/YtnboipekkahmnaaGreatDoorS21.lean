import Derived.Test.YtnboipekkahmnaaGreatDoorS20
import Derived.Shelf.SlIter.Stops
set_option maxHeartbeats 8000000
set_option maxRecDepth 100000
namespace Go.Proofs.YtnboipekkahmnaaGreatDoor
open Obj renaming cells→o_
open World renaming cell?_of_block→b_,ownsRow.lt→l_
open Go.RowKit.Below renaming refl→r_
open Nat renaming le_refl→n_
open Tryz renaming prog→p_
open Value renaming int→i_
open IntKind renaming i64→k_
open Go.Joins renaming below_alloc1→a_
section
open Go.RowKit Go.Joins
def zCs (reads:List (ByteArray×ByteArray)) (p:aU×Value):Bool:=zLM reads p.1
theorem zKd (dv:List (aU×Value)) (reads:List (ByteArray×ByteArray)) (n:Int):lC (ofDV dv) reads n=(dv.drop (cR (ofDV dv) n)).all fun p=>!zCs reads p:=by
 unfold lC zCs ofDV;rw[<-List.map_drop,List.all_map];rfl
theorem zIe {l:List (aU×Value)} {f:aU×Value->Bool} {k:Nat} (hk:k<l.length) (h:(l.take k).all f=true) (h2:f l[k]=true):(l.take (k+1)).all f=true:=by
 rw[List.take_succ_eq_append_getElem hk,List.all_append,h];simp[h2]
theorem zJ0 {l:List (aU×Value)} {f:aU×Value->Bool} {k:Nat} (hk:k<l.length) (h:f l[k]=false):l.all f=false:=by
 rw[List.all_eq_false];exact⟨l[k],List.getElem_mem hk,by simp[h]⟩
theorem zIq (dv:List (aU×Value)) (B hb:Nat) {Xc:Nat->Option Value} (v:Value) (n:Int) (l:List (ByteArray×ByteArray)) (ao:Option Addr) (cap:Nat) (w:World) (h:bP w B hb Xc v dv) (hr:gS (ofDV dv)) (hn:dv.length<=1000) (hks:∀ p∈dv,p.1.keys.length<=1000000)
  (hl:bY w ao l) (hln:l.length<=maxLen):
  Calls p_ 65 #[.pointer (some ⟨hb,2,none⟩),.slice ao l.length cap,.int .i64 n] w fun e w'=>e=.returned (.bool (lC (ofDV dv) l n))/\Below w.heap.size w w':=by
 have HC:=hide (zKd dv l n);have hK:cR (ofDV dv) n<=dv.length:=by have:=zBi (ofDV dv) n;simpa[ofDV] using this
 obtain⟨K,hKe⟩:∃ K,cR (ofDV dv) n=K:=⟨_,rfl⟩;rw[hKe] at HC hK;have HK:=hide hKe;clear hKe;have hb1:=a_ w (o_ #[.slice ao l.length cap] 37);have HH:=hide (h.on hb1);have HL:=hide (lX hb1 hl);have HR:=hide hr;have cr:(w.alloc (o_ #[.slice ao l.length cap] 37)).cell? ⟨w.heap.size,0,none⟩=some (.slice ao l.length cap):=aC _ _ _ 0;have ch:=HH.out.cell;have HB:=hide hb1;clear h hl hr hb1;rcases HH.out.form with⟨rfl,rfl⟩|⟨g,gcap,rfl,_,_,hc1,hc2,_⟩
 ·have hK0:K=0:=by simpa using hK
  subst hK0;go_enter Tryz.func65,Tryz.ntmps65;go_wp2;generalize hX:w.alloc (o_ #[.slice ao l.length cap] 37)=X at HH HL HB cr ch ⊢;have nS:=OnW.some X;have n0:∀ m:OnW X,m.w.cell? ⟨hb,2,none⟩=some (.slice none 0 0):=fun m=>m.cell ch;refine dE (by kernel_rfl) (by kernel_rfl) ?_
  repeat (go_big_quiet_step ((first
   | (go_at_call 126;rename_i m;exact fF (sD (lY [] B hb _ n _ (HH.out.on m.on) HR.out (by simp)) (show _=i_ .i64 0 by rw[HK.out];rfl))))))
  refine wpQuiet_nil ?_;intro w3 hw3;replace hw3:=jG hw3;go_wp2;refine wp_loop_rounds 1 ?_;rw[rounds_succ];go_wp2;go_ret;exact⟨bB (by rw[HC.out];rfl),aB HB.out (n_ _) hw3⟩
 ·have hcK:K<=gcap:=by omega
  have k0:(0:Int)<=(K:Int):=Int.natCast_nonneg _;have k1:(K:Int)<=(gcap:Int):=by omega
  rcases Nat.eq_or_lt_of_le hcK with hcc|hcc
  ·subst hcc;have hKl:dv.length=K:=by omega
   go_enter Tryz.func65,Tryz.ntmps65;go_wp2;generalize hX:w.alloc (o_ #[.slice ao l.length cap] 37)=X at HH HL HB cr ch ⊢;have nS:=OnW.some X;have n0:∀ m:OnW X,m.w.cell? ⟨hb,2,none⟩=some (.slice (some ⟨g,0,none⟩) dv.length K):=fun m=>m.cell ch;refine dE (by kernel_rfl) (by kernel_rfl) ?_
   repeat (go_big_quiet_step ((first
    | (go_at_call 126;rename_i m;exact fF (sD (lY dv B hb _ n _ (HH.out.on m.on) HR.out (by omega)) (show _=i_ .i64 K by rw[HK.out]))))))
   refine wpQuiet_nil ?_;intro w3 hw3;replace hw3:=jG hw3;go_wp2;refine wp_loop_rounds 1 ?_;rw[rounds_succ];go_wp2;go_ret;exact⟨bB (by rw[HC.out,List.drop_eq_nil_of_le (by omega)];rfl),aB HB.out (n_ _) hw3⟩
  ·go_enter Tryz.func65,Tryz.ntmps65;go_wp2;generalize hX:w.alloc (o_ #[.slice ao l.length cap] 37)=X at HH HL HB cr ch ⊢;have nS:=OnW.some X;have n0:∀ m:OnW X,m.w.cell? ⟨hb,2,none⟩=some (.slice (some ⟨g,0,none⟩) dv.length gcap):=fun m=>m.cell ch;refine dE (by kernel_rfl) (by kernel_rfl) ?_
   repeat (go_big_quiet_step ((first
    | (go_at_call 126;rename_i m;exact fF (sD (lY dv B hb _ n _ (HH.out.on m.on) HR.out (by omega)) (show _=i_ .i64 K by rw[HK.out]))))))
   refine wpQuiet_nil ?_;intro w3 hw3;replace hw3:=jG hw3;clear n0 nS hX;go_wp2
   go_loopw [18] (fun i wr=>∃ k:Nat,k<=dv.length-K/\i=.int .i64 k/\((dv.drop K).take k).all (fun p=>!zCs l p)=true/\Below X.heap.size X wr) (fun i _=>dv.length-K-(intOf i).toNat)
   case atStart=>exact⟨0,Nat.zero_le _,rfl,by simp,hw3⟩
   case round=>
    obtain⟨k,hk,rfl,hall,hB⟩:=hrel;have HA:=hide hall;clear hall hw3;by_cases hlt:k<dv.length-K
    ·have hlt':(k:Int)<((dv.length-K:Nat):Int):=by omega
     have hld:k<(dv.drop K).length:=by rw[List.length_drop];exact hlt
     have hHr:=HH.out.on hB;obtain⟨c0,c1⟩:=hHr.deeds rfl (K+k) (by omega);have e2:(K+k)*2=K*2+k*2:=by omega
     rw[e2] at c0 c1;have hmem:dv[K+k]∈dv:=List.getElem_mem _;have hkeys:=hHr.keys _ hmem;have hkl:=hks _ hmem;obtain⟨xa,xl,xc,hval⟩:∃ xa xl xc,dv[K+k].2=.slice xa xl xc:=by
      rcases aX hkeys with⟨e,_⟩|⟨g',cap',e,_⟩
      ·exact⟨_,_,_,e⟩
      ·exact⟨_,_,_,e⟩
     rw[hval] at c1 hkeys;clear hval;have HE:Hid ((dv.drop K)[k]=dv[K+k]):=by unfold Hid;rw[List.getElem_drop]
     have crr:=aA hB cr;have HLr:=hide (lX hB HL.out);have hbA:=a_ wr (o_ #[.int .i64 dv[K+k].1.n,Value.slice xa xl xc] 207);have HOr:=hide (bQ hkeys hbA);have crA:=aA hbA crr;have HLA:=hide (lX hbA HLr.out);have hBA:=aB hB (n_ _) hbA;clear hHr hkeys hmem e2 hbA crr
     cases hh:zCs l dv[K+k] with
     | true=>
      have HH2:Hid ((dv[K+k].1.keys.any fun k=>l.any fun s=>hasS s.1 s.2 k)=true):=hh;clear hh;go_wp2_with (go_at_call 127;refine(pR B _ _ l ao cap _ _ HOr.out hkl crA HLA.out hln).mono ?_;rintro e w4 ⟨rfl,hb4⟩;rw[HH2.out];replace hBA:=aB hBA (n_ _) hb4;clear hb4)
      go_ret;refine⟨bB ?_,aB HB.out (n_ _) hBA⟩;rw[HC.out];exact(zJ0 hld (by rw[HE.out];show(!zCs l dv[K+k])=false;rw[show zCs l dv[K+k]=true from HH2.out];rfl)).symm
     | false=>
      have HH2:Hid ((dv[K+k].1.keys.any fun k=>l.any fun s=>hasS s.1 s.2 k)=false):=hh;clear hh;go_wp2_with (go_at_call 127;refine(pR B _ _ l ao cap _ _ HOr.out hkl crA HLA.out hln).mono ?_;rintro e w4 ⟨rfl,hb4⟩;rw[HH2.out];replace hBA:=aB hBA (n_ _) hb4;clear hb4)
      go_roundw
      case rel=>exact⟨k+1,by omega,by go_num,zIe hld HA.out (by rw[HE.out];show(!zCs l dv[K+k])=true;rw[show zCs l dv[K+k]=false from HH2.out];rfl),hBA⟩
      case measure=>simp[intOf];omega
    ·have hlt':¬(k:Int)<((dv.length-K:Nat):Int):=by omega
     go_wp2;go_ret;refine⟨bB ?_,aB HB.out (n_ _) hB⟩;have e:(dv.drop K).take k=dv.drop K:=List.take_of_length_le (by rw[List.length_drop];omega);have:=HA.out;rw[e] at this;rw[HC.out,this]
end
section
open Go.RowKit Go.Joins
attribute [local go_sem ↓] Go.wp_at_zero Go.wp_at_succ
theorem pI {w:World} {N:Nat} {v:Value} {l:List Chg} (h:bO w N v l):∃ ao cap,v=.slice ao l.length cap/\bW w ao l/\∀ b off,ao=some ⟨b,off,none⟩->N<=b:=by
 rcases aX h with⟨e,e2⟩|⟨g,cap,e,_⟩
 ·exact⟨none,0,by rw[e,e2],.inl (List.length_eq_zero_iff.1 e2),fun b off e=>by cases e⟩
 ·refine⟨some ⟨g,0,none⟩,cap,e,.inr ⟨g,0,rfl,eW l 0 fun j u hj=>?_⟩,fun b off e'=>?_⟩
  ·have:=World.ownsRow.cells h (g:=g) (by rw[e];rfl) j u hj;rwa [Go.WideShapes.add_plain] at this
  ·cases e';exact(l_ h g (by rw[e];rfl)).1
section
variable {B:Nat} {m:EMem} {s:ESt}
theorem yZ (w:World) (h:EK w B m s) (ok:EOk s) {i:Nat} (hi:i<4) (hc:s.c<=150):
  Calls p_ 22 #[.pointer (some ⟨m.eb,0,none⟩),.int .i64 (i:Int)] w fun e w'=>e=.returned (errV (dS s i).1)/\ActE w w' B m s (dS s i).2:=by
 have nn:=eG;have n1:=bM 114;unfold dS
 cases hv:s.ses i with
 | none=>
  dsimp only;have HE:Hid (errV 7=.iface 114 (.int .i64 7)):=rfl;have HD:=hide (pC w h hi hv);have HS:=hide (h.stay (r_ _ w));rw[HE.out] at HD ⊢;clear h;go_enter Tryz.func22,Tryz.ntmps22;go_wp2_with fail;refine HD.out.mono ?_;rintro e w1 ⟨rfl,rfl⟩;go_wp2;go_ret;exact⟨rfl,HS.out⟩
 | some v=>
  dsimp only;have HD:=hide (mT w h hi hv);have HS:=hide (tE w h ok hi (by omega));rw[aR];clear h;go_enter Tryz.func22,Tryz.ntmps22;go_wp2_with fail;refine HD.out.mono ?_;rintro e w1 ⟨rfl,rfl⟩;go_wp2_with fail;refine HS.out.mono ?_;rintro e w2 ⟨rfl,ha⟩;have HR:=hide ha.1;clear ha;go_wp2;go_ret;exact⟨rfl,HR.out⟩
theorem zC5 (w:World) (h:EK w B m s) (ok:EOk s) {i:Nat} (hi:i<4) (hc:s.c<=150) {v:VwL} (hv:s.ses i=some v):
  Calls p_ 20 #[.pointer (some ⟨m.eb,0,none⟩),.int .i64 (i:Int)] w fun e w'=>e=.returned (.tuple #[.int .i64 ((comE s i).1.1:Int),errV (comE s i).1.2])/\ActE w w' B m s (comE s i).2:=by
 have nn:=eG;have n1:=bM 114;have hvo:=ok.ses i v hv;have hvw:=h.vw i v hv;have hcn:=hvo.ov.cn;have hrn:=hvo.ov.rn;have HD:=hide (mT w h hi hv);have HCH:=hide (rF w hvw (by omega));have eC:comE s i=if v.chs=[] then ((v.n,0),endE s i) else if lC s.ds v.rds v.n=false then ((0,9),endE s i) else if (comR s.x v.chs).1≠0 then ((0,(comR s.x v.chs).1),{ s with x:=(comR s.x v.chs).2 }) else ((s.now+1,0),endE (addE s v.chs) i):=by
  unfold comE;rw[hv]
 rw[eC];clear eC;have hnc:=ok.nc;by_cases h0:v.chs=[]
 ·rw[if_pos h0];dsimp only;rw[aR];have HEN:Hid (∀ W,Below w.heap.size w W->Calls p_ 63 #[.pointer (some ⟨m.eb,0,none⟩),.int .i64 (i:Int)] W fun e w'=>e=.returned (.tuple #[])/\ActE w w' B m s (endE s i)/\Calls p_ 64 #[.pointer (some ⟨(m.W i).1,0,none⟩)] w' fun e w2=>e=.returned (.int .i64 (v.n:Int))/\w2=w'):=fun W hb=>by
   refine(tE W (h.on hb) ok hi (by omega)).mono ?_;rintro e w' ⟨rfl,⟨m',q1,q2,q3,q4⟩,hfar⟩;refine⟨rfl,⟨m',q1,q2,q3,(aG.on h.blo hb).trans q4⟩,xR w' ((hvw.on hb).kept fun k e=>hfar (i+3) k (by omega) ⟨by rw[hv];exact nofun,e⟩)⟩
  rw[h0] at HCH;clear h hvw;go_enter Tryz.func20,Tryz.ntmps20;go_wp2_with fail;refine HD.out.mono ?_;rintro e w1 ⟨rfl,rfl⟩;go_wp2_with fail;refine HCH.out.mono ?_;rintro e w2 ⟨cv,rfl,ho,hb2⟩;obtain⟨ao,cap,rfl,_,_⟩:=pI ho;have HE2:=hide (HEN.out w2 hb2);clear ho hb2 HEN HCH HD;go_wp2_with fail;refine HE2.out.mono ?_;rintro e w3 ⟨rfl,ha,hsi⟩;have HA:=hide ha;have HSI:=hide hsi;clear ha hsi HE2;go_wp2_with fail;refine HSI.out.mono ?_;rintro e w4 ⟨rfl,hw4⟩;rw[hw4];clear hw4;go_wp2;go_ret2;exact⟨rfl,HA.out⟩
 ·rw[if_neg h0];have hlen0:¬(v.chs.length:Int)=0:=fun e=>h0 (List.length_eq_zero_iff.1 (by omega));have hlen1:((v.chs.length:Int)==0)=false:=by simpa using hlen0
  have hds:ofDV m.dv=s.ds:=h.ds;have hdl:m.dv.length<=1000:=by
   have e1:=congrArg List.length hds;have e2:=ok.dl;unfold ofDV at e1;rw[List.length_map] at e1;omega
  have HRD:Hid (∀ W,Below w.heap.size w W->Calls p_ 66 #[.pointer (some ⟨(m.W i).1,0,none⟩)] W fun e w'=>∃ rv,e=.returned rv/\lL w' W.heap.size rv v.rds/\Below W.heap.size W w'):=fun W hb=>zIP W (hvw.on hb) (by omega);have HSI:Hid (∀ W,Below w.heap.size w W->Calls p_ 64 #[.pointer (some ⟨(m.W i).1,0,none⟩)] W fun e w'=>e=.returned (.int .i64 (v.n:Int))/\w'=W):=fun W hb=>xR W (hvw.on hb);have HCL:Hid (∀ W ao cap,Below w.heap.size w W->bY W ao v.rds->Calls p_ 65 #[.pointer (some ⟨m.eb,2,none⟩),.slice ao v.rds.length cap,.int .i64 (v.n:Int)] W fun e w'=>e=.returned (.bool (lC s.ds v.rds v.n))/\Below W.heap.size W w'):=fun W ao cap hb hh=>by
   have:=zIq m.dv B m.eb m.hv (v.n:Int) v.rds ao cap W (h.on hb).hi (by rw[hds];exact ok.rd) hdl (fun p hp=>by
    have:=ok.dk p.1 (by rw[<-hds];exact List.mem_map_of_mem hp);omega) hh (by unfold maxLen;omega)
   rw[hds] at this;exact this
  by_cases hcl:lC s.ds v.rds v.n=false
  ·rw[if_pos hcl];dsimp only;rw[hcl] at HCL;have HE9:Hid (errV 9=.iface 114 (.int .i64 9)):=rfl;rw[HE9.out];have HEN:Hid (∀ W,Below w.heap.size w W->Calls p_ 63 #[.pointer (some ⟨m.eb,0,none⟩),.int .i64 (i:Int)] W fun e w'=>e=.returned (.tuple #[])/\ActE w w' B m s (endE s i)):=fun W hb=>by
    refine(tE W (h.on hb) ok hi (by omega)).mono ?_;rintro e w' ⟨rfl,⟨m',q1,q2,q3,q4⟩,hfar⟩;exact⟨rfl,m',q1,q2,q3,(aG.on h.blo hb).trans q4⟩
   clear h hvw hds;go_enter Tryz.func20,Tryz.ntmps20;go_wp2_with fail;refine HD.out.mono ?_;rintro e w1 ⟨rfl,rfl⟩;go_wp2_with fail;refine HCH.out.mono ?_;rintro e w2 ⟨cv,rfl,ho,hb2⟩;obtain⟨ao,cap,rfl,_,_⟩:=pI ho;clear ho HCH HD;go_wp2_with fail
   go_region_with (first
    | (go_at_call 66;refine(HRD.out _ ?_).mono ?_;exact hb2.drew;rintro e w3 ⟨rv,rfl,hov,hb3⟩;obtain⟨ra,rc,rfl,hheld,_⟩:=sI hov;have HB3:=hide (aB hb2.drew (n_ _) hb3);clear hov hb3)
    | (go_at_call 64;refine(HSI.out _ ?_).mono ?_;(first|exact hb2.drew|exact HB3.out);rintro e w4 ⟨rfl,hw4⟩;subst hw4)
    | (go_at_call 65;refine(HCL.out _ ra rc HB3.out hheld).mono ?_;rintro e w5 ⟨rfl,hb5⟩;have HB5:=hide (aB HB3.out (n_ _) hb5);clear hb5)
    | fail)
   all_goals
    have HE2:=hide (HEN.out _ HB5.out);clear HB5;go_wp2_with fail;refine HE2.out.mono ?_;rintro e w6 ⟨rfl,ha⟩;have HA:=hide ha;clear ha HE2;go_wp2;go_ret2;exact⟨rfl,HA.out⟩
  ·rw[if_neg hcl];have hclt:lC s.ds v.rds v.n=true:=by simpa using hcl
   rw[hclt] at HCL;have HAD:Hid (∀ W ao cap,Below w.heap.size w W->bW W ao v.chs->(∀ b off,ao=some ⟨b,off,none⟩->w.heap.size<=b)->Calls p_ 67 #[.pointer (some ⟨m.eb,0,none⟩),.slice ao v.chs.length cap] W fun e w'=>e=.returned (.tuple #[.int .i64 (if (comR s.x v.chs).1=0 then ((s.now+1:Nat):Int) else 0),errV (comR s.x v.chs).1])/\ActE w w' B m s (zI s v.chs)):=fun W ao cap hb hh hnew=>by
    refine(zLc v.chs ao cap W (h.on hb) ok (by omega) hh (fun _ b off e hin=>by
     obtain⟨a,ha⟩:=hin;have:=h.lt ha;have:=hnew b off e;omega) hvo.oq.cf hvo.ov.cr hcn).mono ?_
    rintro e w' ⟨rfl,m',q1,q2,q3,q4⟩;exact⟨rfl,m',q1,q2,q3,(aG.on h.blo hb).trans q4⟩
   unfold zI at HAD;by_cases hR:(comR s.x v.chs).1≠0
   ·rw[if_pos hR];dsimp only;rw[if_neg hR,if_neg hR] at HAD;rw[aP hR] at HAD ⊢;clear h hvw hds;generalize comR s.x v.chs=R at *;go_enter Tryz.func20,Tryz.ntmps20;go_wp2_with fail;refine HD.out.mono ?_;rintro e w1 ⟨rfl,rfl⟩;go_wp2_with fail;refine HCH.out.mono ?_;rintro e w2 ⟨cv,rfl,ho,hb2⟩;obtain⟨ao,cap,rfl,hch,hnew⟩:=pI ho;clear ho HCH HD;go_wp2_with fail
    go_region_with (first
     | (go_at_call 66;refine(HRD.out _ ?_).mono ?_;exact hb2.drew;rintro e w3 ⟨rv,rfl,hov,hb3⟩;obtain⟨ra,rc,rfl,hheld,_⟩:=sI hov;have HB3:=hide (aB hb2.drew (n_ _) hb3);have HC3:=hide (eA (aB (r_ _ w2).drew (n_ _) hb3) hch);clear hov hb3)
     | (go_at_call 64;refine(HSI.out _ ?_).mono ?_;(first|exact hb2.drew|exact HB3.out);rintro e w4 ⟨rfl,hw4⟩;subst hw4)
     | (go_at_call 65;refine(HCL.out _ ra rc HB3.out hheld).mono ?_;rintro e w5 ⟨rfl,hb5⟩;have HB5:=hide (aB HB3.out (n_ _) hb5);have HC5:=hide (eA hb5 HC3.out);clear hb5)
     | fail)
    all_goals
     have HE2:=hide (HAD.out _ ao cap HB5.out HC5.out hnew);clear HB5 HC5;go_wp2_with fail;refine HE2.out.mono ?_;rintro e w6 ⟨rfl,ha⟩;have HA:=hide ha;clear ha HE2;go_wp2;go_ret2;exact⟨rfl,HA.out⟩
   ·rw[if_neg hR];have hR0:(comR s.x v.chs).1=0:=by simpa using hR
    dsimp only;rw[hR0] at HAD;simp only[if_true] at HAD;rw[aR] at HAD ⊢;have ok2:=ok.add hR0;have HEN:Hid (∀ W,ActE w W B m s (addE s v.chs)->Calls p_ 63 #[.pointer (some ⟨m.eb,0,none⟩),.int .i64 (i:Int)] W fun e w'=>e=.returned (.tuple #[])/\ActE w w' B m s (endE (addE s v.chs) i)):=fun W ha=>by
     obtain⟨m1,p1,p2,p3,p4⟩:=ha;have:=tE W p1 ok2 hi (by show s.c+1<=190;omega);rw[p2] at this;refine this.mono ?_;rintro e w' ⟨rfl,⟨m',q1,q2,q3,q4⟩,hfar⟩;exact⟨rfl,m',q1,q2.trans p2,⟨q3.1.trans p3.1,fun j hj=>(q3.2 j hj).trans (p3.2 j hj)⟩,p4.trans q4⟩
    clear h hvw hds ok2;generalize (s.now+1:Nat)=nn1 at *;go_enter Tryz.func20,Tryz.ntmps20;go_wp2_with fail;refine HD.out.mono ?_;rintro e w1 ⟨rfl,rfl⟩;go_wp2_with fail;refine HCH.out.mono ?_;rintro e w2 ⟨cv,rfl,ho,hb2⟩;obtain⟨ao,cap,rfl,hch,hnew⟩:=pI ho;clear ho HCH HD;go_wp2_with fail
    go_region_with (first
     | (go_at_call 66;refine(HRD.out _ ?_).mono ?_;exact hb2.drew;rintro e w3 ⟨rv,rfl,hov,hb3⟩;obtain⟨ra,rc,rfl,hheld,_⟩:=sI hov;have HB3:=hide (aB hb2.drew (n_ _) hb3);have HC3:=hide (eA (aB (r_ _ w2).drew (n_ _) hb3) hch);clear hov hb3)
     | (go_at_call 64;refine(HSI.out _ ?_).mono ?_;(first|exact hb2.drew|exact HB3.out);rintro e w4 ⟨rfl,hw4⟩;subst hw4)
     | (go_at_call 65;refine(HCL.out _ ra rc HB3.out hheld).mono ?_;rintro e w5 ⟨rfl,hb5⟩;have HB5:=hide (aB HB3.out (n_ _) hb5);have HC5:=hide (eA hb5 HC3.out);clear hb5)
     | fail)
    all_goals
     have HE2:=hide (HAD.out _ ao cap HB5.out HC5.out hnew);clear HB5 HC5;go_wp2_with fail;refine HE2.out.mono ?_;rintro e w6 ⟨rfl,ha⟩;have HE3:=hide (HEN.out _ ha);clear ha HE2;go_wp2_with fail;refine HE3.out.mono ?_;rintro e w7 ⟨rfl,ha⟩;have HA:=hide ha;clear ha HE3;go_wp2;go_ret2;exact⟨rfl,HA.out⟩
theorem zCO (w:World) (h:EK w B m s) {i:Nat} (hi:i<4) (hv:s.ses i=none):
  Calls p_ 20 #[.pointer (some ⟨m.eb,0,none⟩),.int .i64 (i:Int)] w fun e w'=>e=.returned (.tuple #[.int .i64 ((comE s i).1.1:Int),errV (comE s i).1.2])/\ActE w w' B m s (comE s i).2:=by
 have nn:=eG;have n1:=bM 114;have eC:comE s i=((0,7),s):=by unfold comE;rw[hv]
 rw[eC];dsimp only;have HE:Hid (errV 7=.iface 114 (.int .i64 7)):=rfl;have HD:=hide (pC w h hi hv);have HS:=hide (h.stay (r_ _ w));rw[HE.out] at HD ⊢;clear h;go_enter Tryz.func20,Tryz.ntmps20;go_wp2_with fail;refine HD.out.mono ?_;rintro e w1 ⟨rfl,rfl⟩;go_wp2;go_ret2;exact⟨rfl,HS.out⟩
theorem vX (w:World) (h:EK w B m s) (ok:EOk s) {i:Nat} (hi:i<4) (hc:s.c<=150):
  Calls p_ 20 #[.pointer (some ⟨m.eb,0,none⟩),.int .i64 (i:Int)] w fun e w'=>e=.returned (.tuple #[.int .i64 ((comE s i).1.1:Int),errV (comE s i).1.2])/\ActE w w' B m s (comE s i).2:=by
 cases hv:s.ses i with
 | none=>exact zCO w h hi hv
 | some v=>exact zC5 w h ok hi hc hv
end
end
end Go.Proofs.YtnboipekkahmnaaGreatDoor
namespace Go.Proofs
open Obj renaming cells→o_
open World renaming cell?_of_block→b_,ownsRow.lt→l_
open Go.RowKit.Below renaming refl→r_
open Nat renaming le_refl→n_
open Tryz renaming prog→p_
open Value renaming int→i_
open IntKind renaming i64→k_
open Go.Joins renaming below_alloc1→a_
section
open Go.Shelf
def Tryz.keysV_ren:Go.Shelf.Ren:=⟨fun|7=>136|10=>198|n=>n,fun|23=>217|26=>9|3=>218|28=>215|0=>0|27=>214|33=>180|4=>4|n=>n,fun|n=>n⟩
theorem Tryz.keysV:Go.Proofs.SlLaysZ.n7 p_ Tryz.keysV_ren:={
 mixed:=by kernel_rfl
 f7:=⟨Tryz.f136.name,by decide,Tryz.func136.trans (congrArg some (by kernel_rfl))⟩
 f10:=⟨Tryz.f198.name,by decide,Tryz.func198.trans (congrArg some (by kernel_rfl))⟩
 t0:=Tryz.underlying0
 a0:=Tryz.isAgg0
 z0:=Tryz.sizeOf0
 v0:=Tryz.zeroValue0
 t4:=Tryz.underlying4
 a4:=Tryz.isAgg4
 z4:=Tryz.sizeOf4
 v4:=Tryz.zeroValue4
 t23:=Tryz.underlying217
 a23:=Tryz.isAgg217
 z23:=Tryz.sizeOf217
 v23:=Tryz.zeroValue217
 t26:=Tryz.underlying9
 a26:=Tryz.isAgg9
 z26:=Tryz.sizeOf9
 v26:=Tryz.zeroValue9
 t27:=Tryz.underlying214
 a27:=Tryz.isAgg214
 z27:=Tryz.sizeOf214
 v27:=Tryz.zeroValue214
 t28:=Tryz.underlying215
 a28:=Tryz.isAgg215
 z28:=Tryz.sizeOf215
 v28:=Tryz.zeroValue215
 t33:=Tryz.underlying180
 a33:=Tryz.isAgg180
 z33:=Tryz.sizeOf180
 v33:=Tryz.zeroValue180 }
def Tryz.collectS_ren:Go.Shelf.Ren:=⟨fun|8=>135|11=>197|n=>n,fun|26=>9|28=>215|24=>71|0=>0|33=>180|4=>4|n=>n,fun|n=>n⟩
theorem Tryz.collectS:Go.Proofs.SlLaysZ.n8 p_ Tryz.collectS_ren:={
 mixed:=by kernel_rfl
 f8:=⟨Tryz.f135.name,by decide,Tryz.func135.trans (congrArg some (by kernel_rfl))⟩
 f11:=⟨Tryz.f197.name,by decide,Tryz.func197.trans (congrArg some (by kernel_rfl))⟩
 t0:=Tryz.underlying0
 a0:=Tryz.isAgg0
 z0:=Tryz.sizeOf0
 v0:=Tryz.zeroValue0
 t24:=Tryz.underlying71
 a24:=Tryz.isAgg71
 z24:=Tryz.sizeOf71
 v24:=Tryz.zeroValue71
 t26:=Tryz.underlying9
 a26:=Tryz.isAgg9
 z26:=Tryz.sizeOf9
 v26:=Tryz.zeroValue9
 t28:=Tryz.underlying215
 a28:=Tryz.isAgg215
 z28:=Tryz.sizeOf215
 v28:=Tryz.zeroValue215
 i26:=by kernel_rfl }
def Tryz.cloneV_ren:Go.Shelf.Ren:=⟨fun|41=>200|n=>n,fun|22=>218|23=>233|4=>4|n=>n,fun|n=>n⟩
theorem Tryz.cloneV:Go.Proofs.SlLaysE0.n41 p_ Tryz.cloneV_ren:={
 mixed:=by kernel_rfl
 f41:=⟨Tryz.f200.name,by decide,Tryz.func200.trans (congrArg some (by kernel_rfl))⟩
 t4:=Tryz.underlying4
 a4:=Tryz.isAgg4
 z4:=Tryz.sizeOf4
 v4:=Tryz.zeroValue4
 t22:=Tryz.underlying218
 a22:=Tryz.isAgg218
 z22:=Tryz.sizeOf218
 v22:=Tryz.zeroValue218 }
end
end Go.Proofs
namespace Go.Proofs.YtnboipekkahmnaaGreatDoor
open Obj renaming cells→o_
open World renaming cell?_of_block→b_,ownsRow.lt→l_
open Go.RowKit.Below renaming refl→r_
open Nat renaming le_refl→n_
open Tryz renaming prog→p_
open Value renaming int→i_
open IntKind renaming i64→k_
open Go.Joins renaming below_alloc1→a_
section
open Go.RowKit Go.Joins Go.Shelf
theorem zJx (m:Option Nat) (w:World):Calls p_ 136 #[.map m] w fun e w'=>e=.returned (.func (.func 198) #[] #[.pointer (some ⟨w.heap.size,0,none⟩)])/\w'=w.alloc (.cells #[.map m] 217):=
 (callsIn_wide (n:=5)).1 (AnyZ.keys_in Tryz.keysV Fence.wide 5 trivial rfl m w)
theorem zDR (b nn:Nat) (D0:DataW Value) (w:World) (hown:w.ownsMap p_ 9 RV b nn D0) (hsz:Maps.size D0<=1000000):
  Calls p_ 135 #[.func (.func 198) #[] #[.pointer (some ⟨w.heap.size,0,none⟩)]] (w.alloc (.cells #[.map (some b)] 217)) fun e w'=>∃ (v:Value) (ss:List (List UInt8)),e=.returned v/\ss.Perm (strKeys D0)/\
   w'.ownsRow (w.alloc (.cells #[.map (some b)] 217)).heap.size 9 1 v ss.length (ss.map encStr)/\(v=.slice none 0 0↔ss=[])/\Below (w.alloc (.cells #[.map (some b)] 217)).heap.size (w.alloc (.cells #[.map (some b)] 217)) w':=by
 have hbl:=hown.lt;have hseq:SeqGives Fence.wide 3 p_ 198 #[.pointer (some ⟨w.heap.size,0,none⟩)] encStr (fun ss=>ss.Perm (strKeys D0)) (Maps.size D0) (w.alloc (.cells #[.map (some b)] 217)):=
  AnyZ.keys_gives (ρ:=Tryz.keysV_ren) { Tryz.keysV with } Fence.wide _ trivial rfl (by omega) w.heap.size b nn D0 _ (by simp) (by simp) (by
   obtain⟨es,clock,hb,Ft,hs,hD⟩:=hown;exact⟨es,clock,(Below.heap_alloc _ _ b hbl).trans hb,Ft,hs,hD⟩)
 exact(callsIn_wide (n:=5)).1 (AnyZ.collect_in Tryz.collectS Fence.wide 5 trivial trivial rfl (by omega) 198 #[.pointer (some ⟨w.heap.size,0,none⟩)] trivial (enters_of Tryz.func198 (by kernel_rfl) rfl) _ _ (by unfold maxLen;omega) (by omega) _ hseq)
def baL (l:List UInt8):ByteArray:=⟨l.toArray⟩
theorem zCY (k:ByteArray):baL k.data.toList=k:=rfl
theorem zMH {a b:List UInt8} (h:baL a=baL b):a=b:=by
 have:=congrArg (fun k:ByteArray=>k.data.toList) h;simpa[baL] using this
theorem VS.keys {w:World} {B vb mb n:Nat} {now:Int} {D:DataW Value} {g:ByteArray->Value} {R:ByteArray->List Ver} (h:VS w B vb mb now n D g R) {ss:List (List UInt8)} (hp:ss.Perm (strKeys D)):keysV R (ss.map baL):=by
 obtain⟨es,hD,hpw,_⟩:=h.own.entries eX;obtain⟨es',hD',hko⟩:=h.own.keysOf;obtain rfl:es=es':=by rw[hD] at hD';simpa using hD'
 have hks:∀ p∈es,∃ x,p.1=.string x/\x.length<=maxLen:=fun p hp=>by
  obtain⟨v,hv⟩:=hko p hp;obtain⟨x,_,hx,hl⟩:=Maps.keyOf_str Tryz.underlying9 hv;exact⟨x,hx,hl⟩
 have hst:strKeys D=es.map fun p=>strOf p.1:=by rw[hD];rfl
 have hnd:(strKeys D).Nodup:=by
  rw[hst];refine List.pairwise_map.2 (hpw.imp_of_mem fun {p q} hp' hq' hne e=>hne ?_);obtain⟨a,ha,_⟩:=hks p hp';obtain⟨b,hb,_⟩:=hks q hq';rw[ha,hb] at e ⊢;exact congrArg _ e
 have hm:∀ x,x∈strKeys D↔Maps.has D (.string x)=true/\x.length<=maxLen:=fun x=>by
  rw[hst,hD,Maps.has_eq,List.any_eq_true,List.mem_map];constructor
  ·rintro⟨p,hp',rfl⟩;obtain⟨a,ha,hl⟩:=hks p hp';exact⟨⟨p,hp',by rw[ha];simp[Lit.sameKey,strOf]⟩,by rw[ha];exact hl⟩
  ·rintro⟨⟨p,hp',hs⟩,_⟩;obtain⟨a,ha,_⟩:=hks p hp';rw[ha] at hs;exact⟨p,hp',by rw[ha];simpa[Lit.sameKey,strOf] using hs⟩
 refine⟨?_,fun k=>?_⟩
 ·exact List.pairwise_map.2 ((hp.nodup_iff.2 hnd).imp fun hne e=>hne (zMH e))
 ·rw[List.mem_map];constructor
  ·rintro⟨x,hx,rfl⟩;obtain⟨h1,h2⟩:=(hm x).1 (hp.mem_iff.1 hx);have hsz:(baL x).size<=maxLen:=by show x.toArray.size<=maxLen;simpa using h2
   exact⟨hsz,(h.has _ hsz).1 (by unfold kL baL;simpa using h1)⟩
  ·rintro⟨h1,h2⟩;refine⟨k.data.toList,hp.mem_iff.2 ((hm _).2 ⟨(h.has k h1).2 h2,?_⟩),zCY k⟩;rw[Array.length_toList];exact h1
theorem VS.less {W w4:World} {B vb mb n n':Nat} {now:Int} {D D':DataW Value} {g g':ByteArray->Value} {R R':ByteArray->List Ver} (h:VS W B vb mb now n D g R) (hB:B<=W.heap.size)
  (hg4:W.grownBy w4 (some mb)) (hm:w4.ownsMap p_ 9 RV mb n' D') (hl:∀ k,k.size<=maxLen->D'.atKey (kL k) (.held (.slice none 0 0))=.held (g' k)) (hh:∀ k,k.size<=maxLen->(Maps.has D' (kL k)=true↔R' k≠[]))
  (hc:∀ k,(g' k=g k/\R' k=R k)∨(g' k=.slice none 0 0/\R' k=[])):
  VS w4 B vb mb now n' D' g' R'/\Below B W w4/\(∀ j,j<W.heap.size->¬inVS vb mb g j->w4.heap[j]?=W.heap[j]?/\¬inVS vb mb g' j):=by
 have b4:∀ j,j<W.heap.size->j≠mb->w4.heap[j]?=W.heap[j]?:=fun j h1 h2=>hg4.block j h1 (fun e=>h2 (by cases e;rfl));have bv:w4.heap[vb]?=W.heap[vb]?:=b4 vb (h.lt (.inl rfl)) h.ne;have hob:∀ k j,(g' k).ownBlock=some j->(g k).ownBlock=some j:=fun k j e=>by
  rcases hc k with⟨e1,_⟩|⟨e1,_⟩
  ·rw[e1] at e;exact e
  ·rw[e1] at e;simp[Value.ownBlock] at e
 refine⟨{ num:=(b_ (w:=W) bv).trans h.num,soft:=(World.frozen?_of_block (w:=W) bv).trans h.soft,mp:=(b_ (w:=W) bv).trans h.mp,own:=hm,look:=hl,has:=hh,rows:=fun k=>?_,lov:=h.lov,lom:=h.lom,ne:=h.ne,offv:=fun k e=>h.offv k (hob k _ e),offm:=fun k e=>h.offm k (hob k _ e),apart:=fun a b hab j e e'=>h.apart a b hab j (hob a j e) (hob b j e') },(r_ B W).grown hg4 hB (fun k e=>by cases e;exact h.lom),fun j h1 h2=>⟨b4 j h1 (fun e=>h2 (.inr (.inl e))),?_⟩⟩
 ·rcases hc k with⟨e1,e2⟩|⟨e1,e2⟩
  ·rw[e1,e2];exact aI (h.rows k) fun j hj=>b4 j (l_ (h.rows k) j hj).2 (fun e=>h.offm k (by rw[hj,e]))
  ·rw[e1,e2];exact World.ownsRow_nil _ _ _ _
 ·rintro(e|e|⟨k,e⟩)
  ·exact h2 (.inl e)
  ·exact h2 (.inr (.inl e))
  ·exact h2 (.inr (.inr ⟨k,hob k j e⟩))
theorem VS.same {W w4:World} {B vb mb n:Nat} {now:Int} {D:DataW Value} {g:ByteArray->Value} {R:ByteArray->List Ver} {key:ByteArray} (h:VS W B vb mb now n D g R) (hB:B<=W.heap.size) (hne:R key≠[])
  (hm:w4.ownsMap p_ 9 RV mb (n+1) (D.put (kL key) (.held (g key)))) (hg4:W.grownBy w4 (some mb)):
  VS w4 B vb mb now (n+1) (D.put (kL key) (.held (g key))) g R/\Below B W w4/\(∀ j,j<W.heap.size->¬inVS vb mb g j->w4.heap[j]?=W.heap[j]?/\¬inVS vb mb g j):=by
 refine h.less hB hg4 hm (fun k hk=>?_) (fun k hk=>?_) (fun k=>.inl ⟨rfl,rfl⟩)
 ·by_cases e:k=key
  ·subst e;rw[Maps.atKey_put_same h.own.isMap (nJ k)]
  ·rw[Maps.atKey_put_other (oU e)];exact h.look k hk
 ·by_cases e:k=key
  ·subst e;rw[Maps.has_put_same h.own.isMap (nJ k)];simp[hne]
  ·rw[Maps.has_put_other (oU e)];exact h.has k hk
theorem VS.drop {W w4:World} {B vb mb n:Nat} {now:Int} {D:DataW Value} {g:ByteArray->Value} {R:ByteArray->List Ver} {key:ByteArray} (h:VS W B vb mb now n D g R) (hB:B<=W.heap.size)
  (hm:w4.ownsMap p_ 9 RV mb n (D.del (kL key))) (hg4:W.grownBy w4 (some mb)):
  VS w4 B vb mb now n (D.del (kL key)) (putG g key (.slice none 0 0)) (putG R key [])/\Below B W w4/\(∀ j,j<W.heap.size->¬inVS vb mb g j->w4.heap[j]?=W.heap[j]?/\¬inVS vb mb (putG g key (.slice none 0 0)) j):=by
 refine h.less hB hg4 hm (fun k hk=>?_) (fun k hk=>?_) (fun k=>?_)
 ·by_cases e:k=key
  ·subst e;rw[bH,Maps.atKey_del_same]
  ·rw[aW _ _ e,Maps.atKey_del_other (oU e)];exact h.look k hk
 ·by_cases e:k=key
  ·subst e;rw[bH,Maps.has_del_same];simp
  ·rw[aW _ _ e,Maps.has_del_other (oU e)];exact h.has k hk
 ·by_cases e:k=key
  ·subst e;exact .inr ⟨bH _ _ _,bH _ _ _⟩
  ·exact .inl ⟨aW _ _ e,aW _ _ e⟩
theorem zJB:(Tryz.prog.info? 233).map (fun i=>(i.zero,i.size,i.bytes))=some (some (.agg #[.int .i64 0,.string ⟨#[]⟩,.bool false]),3,32):=by kernel_rfl
theorem zMC (b off n c:Nat) (news:List Value) (w:World) (hl:news.length=n*3) (hn:n<=1000000) (hc:∀ j u,news[j]?=some u->w.cell? ⟨b,off+j,none⟩=some u) (h1:∀ u∈news,u.oneCell'=true):
  Calls p_ 200 #[.slice (some ⟨b,off,none⟩) n c] w fun e w'=>∃ v',e=.returned v'/\w'.ownsRow w.heap.size 233 3 v' n news/\v'≠.slice none 0 0/\Below w.heap.size w w':=by
 obtain⟨i0,hi0,hz0,hz1,hz2⟩:=info_parts zJB;exact AnyE.slices_Clone Tryz.cloneV i0 _ 3 32 hi0 hz0 hz1 hz2 rfl (by omega) Tryz.sizeOf233 b off n c news w hl (by unfold maxLen;omega) (by omega) hc h1
theorem sE {w:World} {g cap:Nat} {vs:List Ver} {B:Nat} (h:ownV w B (.slice (some ⟨g,0,none⟩) vs.length cap) vs) (q:Nat) (hq:q<=vs.length) (hlen:vs.length<=1000000) (c:Nat) (a:Nat) (ha:a=q*3∨q=vs.length) (m:Nat) (hm0:m=vs.length-q):
  Calls p_ 200 #[.slice (some ⟨g,a,none⟩) m c] w fun e w'=>∃ v',e=.returned v'/\ownV w' w.heap.size v' (vs.drop q)/\v'≠.slice none 0 0/\Below w.heap.size w w':=by
 subst hm0;have hl:(vs.drop q).length=vs.length-q:=List.length_drop;have hfl:((vs.drop q).flatMap nO).length=(vs.length-q)*3:=by rw[pN nO 3 kV,hl]
 refine(zMC g a (vs.length-q) c ((vs.drop q).flatMap nO) w hfl (by omega) (fun j u hj=>?_) (zH3 _)).mono ?_
 ·have hj3:j<(vs.length-q)*3:=by
   rcases Nat.lt_or_ge j ((vs.length-q)*3) with h'|h'
   ·exact h'
   ·rw[List.getElem?_eq_none (by omega)] at hj;cases hj
  have ha':a=q*3:=by
   rcases ha with e|e
   ·exact e
   ·subst e;simp at hj3
  subst ha';have hm:j / 3<vs.length-q:=Nat.div_lt_of_lt_mul (by omega);have hr:j % 3<3:=Nat.mod_lt _ (by omega);have ej:j=j / 3*3+j % 3:=by omega
  have e1:=nI nO 3 kV (vs.drop q) (j / 3) (j % 3) (by omega) hr;rw[<-ej,hj] at e1;have e2:=(dU kV h (q+j / 3) (j % 3) (by omega) hr).1;rw[List.getElem_drop] at e1;rw[show q*3+j=(q+j / 3)*3+j % 3 by omega,e2,<-e1]
 ·rintro e w' ⟨v',rfl,ho,hne,hb⟩;refine⟨v',rfl,?_,hne,hb⟩;unfold ownV;rw[hl];exact ho
def zE5 (w w':World) (v:Value) (vs:List Ver) (n:Int) (v':Value):Prop:=Below w.heap.size w w'/\((v'=v/\dN vs n=vs)∨ownV w' w.heap.size v' (dN vs n))
theorem zA4 (ao:Option Addr) (cap:Nat) (vs:List Ver) (n:Int) {B:Nat} (w:World) (hlen:vs.length<=1000000) (h:ownV w B (.slice ao vs.length cap) vs):
  Calls p_ 137 #[.slice ao vs.length cap,.int .i64 n] w fun e w'=>∃ v',e=.returned v'/\zE5 w w' (.slice ao vs.length cap) vs n v':=by
 have hI:jH w.heap.size w ao cap vs:=by
  obtain⟨ao',cap',e',hI,_⟩:=nF h;cases e';exact hI
 have HI:=hide hI;clear hI;rcases rS vs n with⟨hl,_⟩|⟨p,hp,hl,h1,h2⟩
 ·have HS:=hide (sN hl);have HL:=hide hl;clear hl;go_enter Tryz.func137,Tryz.ntmps137;go_wp2_with (go_at_call 199;refine(kO ao cap vs n _ hlen HI.out).mono ?_;rintro e w1 ⟨rfl,hb⟩;rw[HL.out])
  go_ret;exact⟨_,rfl,hb,.inl ⟨rfl,HS.out⟩⟩
 ·have hs:=sW hp hl;have HL:=hide hl;clear hl h2;rcases aX h with⟨_,h0⟩|⟨g,cap',hv,_,_,hc1,hc2⟩
  ·omega
  cases hv;have HO:=hide h;have i0:(0:Int)<=(p:Int):=by omega
  have i1:(p:Int)<(vs.length:Int):=by omega
  have i3:(vs.length:Int)<=(cap:Int):=by omega
  have i4:cap<=9223372036854775807:=by unfold maxLen at hc2;omega
  have c2:=(dU kV h p 2 hp (by omega)).1;simp only[nO,List.getElem?_cons_succ,List.getElem?_cons_zero] at c2;clear h hc2
  cases hg:vs[p].gone with
  | true=>
   rw[hg,if_pos rfl] at hs;rw[hg] at c2;have HS:=hide hs;clear hs hg h1;have i5:(p:Int)+1<=(vs.length:Int):=by omega
   have i6:(p:Int)+1<=(cap:Int):=by omega
   have i7:(0:Int)<=(p:Int)+1:=by omega
   have i8:¬((p:Int)+1<=0):=by omega
   by_cases hcp:cap=p+1
   ·subst hcp;go_enter Tryz.func137,Tryz.ntmps137;go_wp2_with (first
     | (go_at_call 199;refine(kO _ _ vs n _ hlen HI.out).mono ?_;rintro e w1 ⟨rfl,hb⟩;rw[HL.out];replace c2:=aA hb c2)
     | (go_at_call 200;refine(sE (bQ HO.out hb) (p+1) (by omega) hlen 0 0 (.inr (by omega)) 0 (by omega)).mono ?_;rintro e w2 ⟨v',rfl,ho,hne,hb2⟩;have HO2:=hide ho;have HB2:=hide (aB hb (n_ _) hb2);clear ho hne hb2))
    go_ret;exact⟨_,rfl,HB2.out,.inr (by rw[HS.out];exact ownsRow_base_a HO2.out hb.size)⟩
   ·go_enter Tryz.func137,Tryz.ntmps137;go_wp2_with (first
     | (go_at_call 199;refine(kO _ _ vs n _ hlen HI.out).mono ?_;rintro e w1 ⟨rfl,hb⟩;rw[HL.out];replace c2:=aA hb c2)
     | (go_at_call 200;refine(sE (bQ HO.out hb) (p+1) (by omega) hlen (cap-(p+1)) ((p+1)*3) (.inl rfl) (vs.length-(p+1)) rfl).mono ?_;rintro e w2 ⟨v',rfl,ho,hne,hb2⟩;have HO2:=hide ho;have HB2:=hide (aB hb (n_ _) hb2);clear ho hne hb2))
    go_ret;exact⟨_,rfl,HB2.out,.inr (by rw[HS.out];exact ownsRow_base_a HO2.out hb.size)⟩
  | false=>
   rw[hg,if_neg (by simp)] at hs;rw[hg] at c2;have HS:=hide hs;clear hs hg h1;by_cases h0:p=0
   ·subst h0;go_enter Tryz.func137,Tryz.ntmps137;go_wp2_with (first
     | (go_at_call 199;refine(kO _ cap vs n _ hlen HI.out).mono ?_;rintro e w1 ⟨rfl,hb⟩;rw[HL.out];replace c2:=aA hb c2))
    go_ret;exact⟨_,rfl,hb,.inl ⟨rfl,by rw[HS.out];rfl⟩⟩
   ·have i2:(p:Int)<=(vs.length:Int):=by omega
    have i6:(p:Int)<=(cap:Int):=by omega
    have i8:¬((p:Int)<=0):=by omega
    have i9:decide ((p:Int)<=0)=false:=by simpa using i8
    have hcp:¬cap=p:=by omega
    clear h0;go_enter Tryz.func137,Tryz.ntmps137;go_wp2_with (first
     | (go_at_call 199;refine(kO _ _ vs n _ hlen HI.out).mono ?_;rintro e w1 ⟨rfl,hb⟩;rw[HL.out];replace c2:=aA hb c2)
     | (go_at_call 200;refine(sE (bQ HO.out hb) p (by omega) hlen (cap-p) (p*3) (.inl rfl) (vs.length-p) rfl).mono ?_;rintro e w2 ⟨v',rfl,ho,hne,hb2⟩;have HO2:=hide ho;have HB2:=hide (aB hb (n_ _) hb2);clear ho hne hb2))
    go_ret;exact⟨_,rfl,HB2.out,.inr (by rw[HS.out];exact ownsRow_base_a HO2.out hb.size)⟩
end
section
open Go.RowKit Go.Joins Go.Shelf
attribute [local go_sem ↓] Go.wp_at_zero Go.wp_at_succ
theorem zBu {w:World} {B:Nat} {e:TypeId} {size:Nat} {v:Value} {n:Nat} {xs:List Value} (h:w.ownsRow B e size v n xs):∃ ao cap,v=.slice ao n cap:=by
  rcases aX h with⟨hv,h0⟩|⟨g,cap,hv,_⟩
  · exact⟨none,0,by rw[h0];exact hv⟩
  · exact⟨_,cap,hv⟩
structure zAd (w wr:World) (B vb mb:Nat) (now n:Int) (R:ByteArray->List Ver) (n0:Nat) (g0:ByteArray->Value) (kv:Value) (ss:List (List UInt8)) (k:Nat):Prop where
  vs:∃ n' D' g',n'<=n0+k/\VS wr B vb mb now n' D' g' (vacR R n ((ss.take k).map baL))/\(∀ j,j<w.heap.size->¬inVS vb mb g0 j->wr.heap[j]?=w.heap[j]?/\¬inVS vb mb g' j)/\(∀ j,kv.ownBlock=some j->¬inVS vb mb g' j)
  bel:Below B w wr
  keys:wr.ownsRow (w.heap.size+1) 9 1 kv ss.length (ss.map encStr)
def zMD (w w':World) (B vb mb:Nat) (now n:Int) (R:ByteArray->List Ver) (n0:Nat) (g:ByteArray->Value):Prop:=∃ K n' D' g',keysV R K/\(n'<=n0+n0/\n'<=n0+K.length)/\VS w' B vb mb now n' D' g' (vacR R n K)/\Below B w w'/\(∀ j,j<w.heap.size->¬inVS vb mb g j->w'.heap[j]?=w.heap[j]?/\¬inVS vb mb g' j)
theorem zAV {R:ByteArray->List Ver} {ss:List (List UInt8)} {k:Nat} (hK:keysV R (ss.map baL)) (hk:k<ss.length):baL ss[k]∉(ss.take k).map baL:=fun hm=>by
  obtain⟨x,hx,e⟩:=List.mem_map.1 hm
  obtain⟨i,hi,rfl⟩:=List.getElem_of_mem hx
  have hik:i<k:=by have:=List.length_take_le k ss;have:i<(ss.take k).length:=hi;rw[List.length_take] at this;omega
  have hnd:=List.pairwise_iff_getElem.1 hK.1 i k (by simp;omega) (by simpa using hk) hik
  simp only[List.getElem_map,List.getElem_take] at hnd e
  exact hnd e
theorem zKL {w wr W:World} {B vb mb n0 n' k:Nat} {now n:Int} {R:ByteArray->List Ver} {g0 g':ByteArray->Value} {D':DataW Value} {kv v':Value} {ss:List (List UInt8)}
    (hvs:VS wr B vb mb now n' D' g' (vacR R n ((ss.take k).map baL))) (hn':n'<=n0+k) (hfar:∀ j,j<w.heap.size->¬inVS vb mb g0 j->wr.heap[j]?=w.heap[j]?/\¬inVS vb mb g' j) (hkv:∀ j,kv.ownBlock=some j->¬inVS vb mb g' j) (hbel:Below B w wr) (hrow:wr.ownsRow (w.heap.size+1) 9 1 kv ss.length (ss.map encStr))
    (hk:k<ss.length) (hK:keysV R (ss.map baL)) (hB:B<=w.heap.size) (hn0:n0+k<=1000000) (hs:zE5 wr W (g' (baL ss[k])) (R (baL ss[k])) n v'):
    ((dN (R (baL ss[k])) n≠[]->∃ w4,(Instr.mapUpdate 217 (.map (some mb)) (.string (baL ss[k])) v').run p_ W=.ok () w4/\zAd w w4 B vb mb now n R n0 g0 kv ss (k+1))/\
     (dN (R (baL ss[k])) n=[]->∃ w4,(Builtin.delete_ #[217,9] 0 #[.map (some mb),.string (baL ss[k])]).run p_ W=.ok (.tuple #[]) w4/\zAd w w4 B vb mb now n R n0 g0 kv ss (k+1)))/\∃ ao cap,v'=.slice ao (dN (R (baL ss[k])) n).length cap:=by
  obtain⟨hbW,hcase⟩:=hs
  have hmem:baL ss[k]∈ss.map baL:=List.mem_map.2 ⟨_,List.getElem_mem hk,rfl⟩
  obtain⟨hks,hne⟩:=(hK.2 _).1 hmem
  have hnotin:=zAV hK hk
  have eR:vacR R n ((ss.take k).map baL) (baL ss[k])=R (baL ss[k]):=pV hnotin
  have eT:(ss.take (k+1)).map baL=(ss.take k).map baL++[baL ss[k]]:=by rw[List.take_succ_eq_append_getElem hk,List.map_append];rfl
  have hW:=hvs.on hbW
  have hBW:B<=W.heap.size:=Nat.le_trans (Nat.le_trans hB hbel.size) hbW.size
  have pack:∀ {w4:World} {n2:Nat} {D2:DataW Value} {g2:ByteArray->Value},n2<=n'+1->VS w4 B vb mb now n2 D2 g2 (vacR R n ((ss.take (k+1)).map baL))->Below B W w4->(∀ j,j<wr.heap.size->¬inVS vb mb g' j->w4.heap[j]?=W.heap[j]?/\¬inVS vb mb g2 j)->zAd w w4 B vb mb now n R n0 g0 kv ss (k+1):=fun {w4 n2 D2 g2} h1 h2 h3 h4=>
    { vs:=⟨n2,D2,g2,by omega,h2,fun j hj hn=>by
        obtain⟨a1,a2⟩:=hfar j hj hn
        have hj':=Nat.lt_of_lt_of_le hj hbel.size
        obtain⟨b1,b2⟩:=h4 j hj' a2
        exact⟨b1.trans ((hbW.block j hj').trans a1),b2⟩,fun j e=>(h4 j (l_ hrow j e).2 (hkv j e)).2⟩
      bel:=(hbel.trans (hbW.mono (Nat.le_trans hB hbel.size))).trans h3
      keys:=aI hrow fun j e=>by
        have hl:=(l_ hrow j e).2
        exact(h4 j hl (hkv j e)).1.trans (hbW.block j hl) }
  refine⟨⟨fun hsn=>?_,fun hsn=>?_⟩,?_⟩
  · obtain⟨w4,hrun,hm,hg⟩:=hW.own.update eX Tryz.underlying217 (by unfold maxLen;omega) (uH hks) (show RV v'=_ from rfl)
    refine⟨w4,hrun,?_⟩
    rcases hcase with⟨e,es⟩|ho
    · rw[e] at hm
      obtain⟨r1,r2,r3⟩:=hW.same hBW (by rw[eR];exact hne) hm hg
      have e3:vacR R n ((ss.take (k+1)).map baL)=vacR R n ((ss.take k).map baL):=by
        rw[eT,uR]
        funext x
        by_cases ex:x=baL ss[k]
        · rw[if_pos ex,es,ex,eR]
        · rw[if_neg ex]
      exact pack (n_ _) (by rw[e3];exact r1) r2 (fun j hj hn=>r3 j (Nat.lt_of_lt_of_le hj hbW.size) hn)
    · have hpos:0<(dN (R (baL ss[k])) n).length:=List.length_pos_iff.2 hsn
      rcases aX ho with⟨_,h0⟩|⟨gk,ck,hv,hlo,_⟩
      · omega
      have hgk:v'.ownBlock=some gk:=by rw[hv];rfl
      have hfresh:¬inVS vb mb g' gk:=fun e=>by have:=hvs.lt e;omega
      obtain⟨r1,r2,r3⟩:=hW.set hBW (ownsRow_base_a ho (Nat.le_trans hB hbel.size)) hgk hfresh hsn hm hg
      have e3:vacR R n ((ss.take (k+1)).map baL)=putG (vacR R n ((ss.take k).map baL)) (baL ss[k]) (dN (R (baL ss[k])) n):=by rw[eT,uR];rfl
      exact pack (n_ _) (by rw[e3];exact r1) r2 (fun j hj hn=>r3 j (Nat.lt_of_lt_of_le hj hbW.size) (by omega) hn)
  · obtain⟨w4,hrun,hm,hg⟩:=hW.own.drop eX Tryz.underlying217 (uH hks) 0
    refine⟨w4,hrun,?_⟩
    obtain⟨r1,r2,r3⟩:=hW.drop hBW hm hg.grown
    have e3:vacR R n ((ss.take (k+1)).map baL)=putG (vacR R n ((ss.take k).map baL)) (baL ss[k]) []:=by rw[eT,uR,hsn];rfl
    exact pack (Nat.le_succ _) (by rw[e3];exact r1) r2 (fun j hj hn=>r3 j (Nat.lt_of_lt_of_le hj hbW.size) hn)
  · rcases hcase with⟨e,es⟩|ho
    · obtain⟨ao,cap,e',_⟩:=nF (hvs.rows (baL ss[k]))
      rw[eR] at e'
      exact⟨ao,cap,by rw[e,e',es]⟩
    · exact zBu ho
theorem zGK {B vb mb n0:Nat} {now:Int} {D:DataW Value} {g:ByteArray->Value} {R:ByteArray->List Ver} (n:Int) (w:World) (h:VS w B vb mb now n0 D g R) (hB:B<=w.heap.size) (hn:n0<=400000) (hR:∀ key,(R key).length<=1000000):
    Calls p_ 70 #[.pointer (some ⟨vb,0,none⟩),.int .i64 n] w fun e w'=>e=.returned (.tuple #[])/\zMD w w' B vb mb now n R n0 g:=by
  have HV:=hide h
  have HRR:=hide hR
  have c1:=h.mp
  have hsz:=h.own.size_le
  have hown:=h.own
  have HOW:=hide hown
  clear h hR hown
  go_enter Tryz.func70,Tryz.ntmps70
  go_wp2_with (first
    | (go_at_call 136;refine(zJx _ _).mono ?_;rintro e w1 ⟨rfl,rfl⟩)
    | (go_at_call 135;refine(zDR mb n0 D w HOW.out (by omega)).mono ?_;rintro e w2 ⟨kv,ss,rfl,hp,hrow,hnil,hb2⟩;obtain⟨ka,kc,rfl⟩:=zBu hrow;have HP:=hide hp;have HROW:=hide hrow;have HB2:=hide hb2;clear hp hrow hb2 hnil))
  have HK:=hide (HV.out.keys HP.out)
  have hbw:Below w.heap.size w w2:=aB (a_ _ _) (n_ _) HB2.out
  have es1:(w.alloc (o_ #[Value.map (some mb)] 217)).heap.size=w.heap.size+1:=by simp
  have hsl:ss.length<=n0:=by
    have:=HP.out.length_eq
    have h2:(strKeys D).length=Maps.size D:=by
      obtain⟨es,hD,_⟩:=HV.out.own.entries eX
      rw[hD];simp[strKeys,Maps.size]
    omega
  have HA:Hid (zAd w w2 B vb mb now n R n0 g (.slice ka ss.length kc) ss 0):=
    { vs:=⟨n0,D,g,by omega,by rw[List.take_zero,List.map_nil,zJV];exact HV.out.on hbw,fun j hj hn=>⟨hbw.block j hj,hn⟩,fun j e hin=>by have a1:=HV.out.lt hin;have a2:=(l_ HROW.out j e).1;rw[es1] at a2;omega⟩
      bel:=hbw.mono hB
      keys:=by have:=HROW.out;rwa [es1] at this }
  clear hbw es1 c1 HB2 HROW HP
  go_loopw [14] (fun i wr=>∃ k:Nat,k<=ss.length/\i=.int .i64 k/\zAd w wr B vb mb now n R n0 g (.slice ka ss.length kc) ss k) (fun i _=>ss.length-(intOf i).toNat)
  case atStart=>exact⟨0,Nat.zero_le _,rfl,HA.out⟩
  case round=>
    obtain⟨k,hk,rfl,hA⟩:=hrel
    have HAK:=hide hA
    clear hA HA
    by_cases hlt:k<ss.length
    · have hlt':(k:Int)<(ss.length:Int):=by omega
      obtain⟨n',D',g',hn',hvs,hfar,hkv⟩:=HAK.out.vs
      have hks:=((HK.out.2 (baL ss[k])).1 (List.mem_map.2 ⟨_,List.getElem_mem hlt,rfl⟩)).1
      have hl:=hvs.looked hks
      have cm:=hvs.mp
      rcases aX HAK.out.keys with⟨_,h0⟩|⟨ka',kc',e,_⟩
      · omega
      cases e
      have ck:wr.cell? ⟨ka',k,none⟩=some (.string (baL ss[k])):=by
        have:=HAK.out.keys.cellAt k (by omega)
        rw[this,List.getElem?_map,List.getElem?_eq_getElem hlt]
        rfl
      have HN:=hide (fun W v' hs=>zKL (W:=W) (v':=v') hvs hn' hfar hkv HAK.out.bel HAK.out.keys hlt HK.out hB (by omega) hs)
      have eR:vacR R n ((ss.take k).map baL) (baL ss[k])=R (baL ss[k]):=pV (zAV HK.out hlt)
      have hrows:=hvs.rows (baL ss[k])
      rw[eR] at hrows
      have hRl:=HRR.out (baL ss[k])
      have HVS:=hide hvs
      clear hvs hfar hkv
      obtain⟨ao,cap,eg,_⟩:=nF hrows
      have HRW:=hide hrows
      clear hrows
      rw[eg] at hl HN HRW
      generalize baL ss[k]=key at *
      generalize R key=vs at *
      cases hsn:dN vs n with
      | nil=>
        have HSN:=hide hsn
        clear hsn
        go_wp2_with (first
          | (go_at_call 137;refine(zA4 ao cap vs n _ hRl HRW.out).mono ?_;rintro e w3 ⟨v',rfl,hsa⟩;obtain⟨⟨_,hdel⟩,ao',cap',ev⟩:=HN.out w3 v' hsa;rw[HSN.out] at ev;subst ev;obtain⟨w4,hrun4,hva⟩:=hdel HSN.out;have HVA:=hide hva;replace cm:=aA hsa.1 cm;clear hva hdel hsa))
        exact⟨⟨k+1,by omega,by go_num,HVA.out⟩,by simp[intOf];omega⟩
      | cons x xs=>
        have HSN:=hide hsn
        clear hsn
        go_wp2_with (first
          | (go_at_call 137;refine(zA4 ao cap vs n _ hRl HRW.out).mono ?_;rintro e w3 ⟨v',rfl,hsa⟩;obtain⟨⟨hset,_⟩,ao',cap',ev⟩:=HN.out w3 v' hsa;rw[HSN.out,List.length_cons] at ev;subst ev;obtain⟨w4,hrun4,hva⟩:=hset (by rw[HSN.out];simp);have HVA:=hide hva;replace cm:=aA hsa.1 cm;clear hva hset hsa))
        exact⟨⟨k+1,by omega,by go_num,HVA.out⟩,by simp[intOf];omega⟩
    · have ek:k=ss.length:=by omega
      subst ek
      have hlt':¬(ss.length:Int)<(ss.length:Int):=by omega
      obtain⟨n',D',g',hn',hvs,hfar,hkv⟩:=HAK.out.vs
      rw[List.take_length] at hvs
      have HV2:=hide hvs
      have HF2:=hide hfar
      clear hvs hfar hkv
      go_wp2
      go_end0
      exact⟨rfl,_,n',D',g',HK.out,⟨by omega,by rw[List.length_map];omega⟩,HV2.out,HAK.out.bel,HF2.out⟩
end
section
open Go.RowKit Go.Joins
attribute [local go_sem ↓] Go.wp_at_zero Go.wp_at_succ
section
variable {B:Nat} {m:EMem} {s:ESt}
theorem zC2 (w:World) (h:EK w B m s) (ok:EOk s) (hc:s.c<=150):
  Calls p_ 24 #[.pointer (some ⟨m.eb,0,none⟩)] w fun e w'=>e=.returned (.tuple #[])/\ActE w w' B m s (vacE s):=by
 have c1:=h.cell1;have hmn:=h.mn;have hnc:=ok.nc;have HO:Hid (∀ W,Below w.heap.size w W->Calls p_ 71 #[.pointer (some ⟨m.eb,0,none⟩)] W fun e w'=>e=.returned (.int .i64 (cI s:Int))/\w'=W):=fun W hb=>wN W (h.on hb);have HV:Hid (∀ W,Below w.heap.size w W->Calls p_ 70 #[.pointer (some ⟨m.vb,0,none⟩),.int .i64 (cI s:Int)] W fun e w'=>e=.returned (.tuple #[])/\ActE w w' B m s (vacE s)):=fun W hb=>by
  have hW:=h.on hb;refine(zGK (cI s:Int) W hW.vs hW.blo (by omega) (fun key=>by have:=ok.rl key;omega)).mono ?_;rintro e w' ⟨rfl,K,n',D',g',hK,hn',hv',hb',hf'⟩;have hKl:K.length<=2000:=by
   obtain⟨L,hL1,hL2⟩:=ok.kl;have:=zBQ hK.1 fun k hk=>hL2 k ((hK.2 k).1 hk).2;omega
  rw[zMn hK] at hv';obtain⟨q1,q2,_⟩:=hW.vers (c':=s.c+1) hv' hb' hf' (by omega);exact⟨rfl,_,q1,rfl,⟨rfl,fun _ _=>rfl⟩,(aG.on h.blo hb).trans q2⟩
 clear h;generalize cI s=old at *;generalize m.eb=eb at *;generalize m.vb=vb at *;go_enter Tryz.func24,Tryz.ntmps24
 go_region_with (first
  | (go_at_call 71;refine(HO.out _ (r_ _ _).drew).mono ?_;rintro e w2 ⟨rfl,rfl⟩)
  | (go_at_call 70;refine(HV.out _ (r_ _ _).drew).mono ?_;rintro e w2 ⟨rfl,ha⟩;have HR:=hide ha;clear ha)
  | fail)
 all_goals
  go_wp2;go_end0;exact⟨rfl,HR.out⟩
theorem zKv (w:World) (h:EK w B m s) (ok:EOk s):
  Calls p_ 26 #[.pointer (some ⟨m.eb,0,none⟩)] w fun e w'=>e=.returned (errV (chkR s.x).1)/\ActE w w' B m s (chkE s):=by
 have c0:=h.cell0;have HC:Hid (Calls p_ 73 #[.pointer (some ⟨m.sb,0,none⟩)] w fun e w'=>e=.returned (errV (chkR s.x).1)/\ActE w w' B m s (chkE s)):=by
  refine(zDC w h.sa ok.g).mono ?_;rintro e w' ⟨rfl,ha⟩;obtain⟨T',k1,k2,_⟩:=h.store ha;exact⟨rfl,_,k1,rfl,⟨rfl,fun _ _=>rfl⟩,k2⟩
 clear h;generalize errV (chkR s.x).1=ev at *;go_enter Tryz.func26,Tryz.ntmps26;go_wp2_with fail;refine HC.out.mono ?_;rintro e w1 ⟨rfl,ha⟩;have HR:=hide ha;clear ha;go_wp2;go_ret;exact⟨rfl,HR.out⟩
end
theorem VS.down {w:World} {B B' vb mb n:Nat} {now:Int} {D:DataW Value} {g:ByteArray->Value} {R:ByteArray->List Ver} (h:VS w B vb mb now n D g R) (hB:B'<=B):VS w B' vb mb now n D g R:=
 { h with rows:=fun key=>ownsRow_le (h.rows key) hB,lov:=Nat.le_trans hB h.lov,lom:=Nat.le_trans hB h.lom }
structure ENew (w w':World) (B eb db:Nat) (S:Nat->Prop) (s:ESt):Prop where
 ex:∃ m,EK w' B m s/\m.eb=eb/\m.db=db/\∀ k,allF m s.ses k->S k∨w.heap.size<=k
 bel:Below w.heap.size w w'
theorem zIf {B db:Nat} {S:Nat->Prop} {d:DSt} {area first u:Nat} {rows:List Chg} (w:World) (hk:DK w B db S d) (hr:cQ d area first u rows):
  Calls p_ 27 #[.pointer (some ⟨db,0,none⟩)] w fun e w'=>∃ eb,e=.returned (.tuple #[.pointer (some ⟨eb,0,none⟩),.nilIface])/\ENew w w' B eb db S (newE d area first u rows):=by
 have nn:=eG;have hfew:=hr.few;have hfine:=hr.fine;have hBw:=hk.lo;have hSlt:∀ k,S k->k<w.heap.size:=fun k e=>hk.lt e;have HO:=hide (zFO w hk hr);have HRL:Hid ((aS rows).length<=1000/\∀ r∈aS rows,r.1.size<=1000000):=by
  have ov:=yA hfine hfew;have h1:=ov.len;refine⟨by omega,fun r hr=>?_⟩;have:=ov.keys r hr;omega
 clear hk;go_enter Tryz.func27,Tryz.ntmps27;go_wp2_with fail;refine HO.out.mono ?_;rintro e w1 ⟨sb,rfl,hn1⟩;obtain⟨T,hsa,hT⟩:=hn1.sa;have hb1:=hn1.bel;have HRO:=hide (zBm w1 hsa (by show rows.length<=1000;omega));have HSA:=hide hsa;have HT:=hide hT;have HB1:=hide hb1;clear hn1 hsa hT hb1 HO;go_wp2_with fail;refine HRO.out.mono ?_;rintro e w2 ⟨rv,rfl,ho,hb2⟩;obtain⟨ra,rc,rfl,hheld⟩:=lV ho;have HNV:=hide (zMl (aS rows) ra rc w2 hheld HRL.out.1 HRL.out.2);have HB2:=hide hb2;clear ho hb2 hheld HRO;go_wp2_with fail;refine HNV.out.mono ?_;rintro e w3 ⟨vb,rfl,hb3,mb,D,g,hvs⟩;have HV:=hide hvs;have HB3:=hide hb3;clear hvs hb3 HNV;go_wp2;go_ret2;refine⟨_,rfl,?_⟩;have hbA:=a_ w3 (o_ #[.pointer (some ⟨sb,0,none⟩),.pointer (some ⟨vb,0,none⟩),.slice none 0 0,.pointer none,.pointer none,.pointer none,.pointer none] 124);have s1:=HB1.out.size;have s2:=HB2.out.size;have s3:=HB3.out.size;have hb13:=aB HB2.out (n_ _) HB3.out;have hb14:=aB hb13 (n_ _) hbA
 let m:EMem:=⟨w3.heap.size,sb,db,vb,mb,(aS rows).length,D,g,.slice none 0 0,[],fun _=>(0,.slice none 0 0,.slice none 0 0),T,fun _=>False⟩
 have hTlt:∀ k,T k->k<w1.heap.size:=fun k e=>HSA.out.lt e;have hVlo:∀ k,inVS vb mb g k->w2.heap.size<=k:=by
  rintro k (rfl|rfl|⟨key,e⟩)
  ·exact HV.out.lov
  ·exact HV.out.lom
  ·exact(l_ (HV.out.rows key) k e).1
 have hVlt:∀ k,inVS vb mb g k->k<w3.heap.size:=fun k e=>HV.out.lt e;have hH:∀ k,inH w3.heap.size (.slice none 0 0) [] k->k=w3.heap.size:=by
  rintro k (rfl|e|⟨p,hp,_⟩)
  ·rfl
  ·cases e
  ·cases hp
 refine⟨⟨m,⟨?_,(HSA.out.on hb14),?_,(fun i v hv=>by cases hv),rfl,?_,?_,fun _ _=>rfl⟩,rfl,rfl,?_⟩,?_⟩
 ·exact {
   cell:=aC _ _ _ 2
   soft:=aQ _ _ _ 2
   lo:=by show B<=w3.heap.size;omega
   own:=World.ownsRow_nil _ _ _ _
   keys:=by intro p hp;cases hp
   off:=by simp[m,Value.ownBlock]
   offk:=by intro p hp;cases hp
   apart:=by intro p hp;cases hp
   pair:=List.Pairwise.nil
   rest:=fun j=>⟨fun hj=>by
    show(w3.alloc _).cell? ⟨w3.heap.size,j,none⟩=_;rw[aC];have hj':j=0∨j=1∨j=3∨j=4∨j=5∨j=6∨7<=j:=by omega
    rcases hj' with rfl|rfl|rfl|rfl|rfl|rfl|h7
    ·rfl
    ·rfl
    ·rfl
    ·rfl
    ·rfl
    ·rfl
    ·unfold engX;rw[if_neg (by omega),if_neg (by omega),if_neg (by omega)];exact Array.getElem?_eq_none h7,aQ _ _ _ j⟩ }
 ·exact(HV.out.on hbA).down (by omega)
 ·have hlo:∀ i k,engF m (newE d area first u rows).ses i k->(i=0/\k=w3.heap.size)∨(i=1/\k<w1.heap.size)∨(i=2/\w2.heap.size<=k/\k<w3.heap.size):=by
   intro i k hk
   match i,hk with
   | 0,hk=>exact .inl ⟨rfl,hH k hk⟩
   | 1,hk=>exact .inr (.inl ⟨rfl,hTlt k hk⟩)
   | 2,hk=>exact .inr (.inr ⟨rfl,hVlo k hk,hVlt k hk⟩)
   | i+3,hk=>exact absurd rfl hk.1
  intro i j k h1 h2;rcases hlo i k h1 with⟨a,b⟩|⟨a,b⟩|⟨a,b,c⟩<;>rcases hlo j k h2 with⟨a',b'⟩|⟨a',b'⟩|⟨a',b',c'⟩<;>omega
 ·have:=HRL.out.1;show(aS rows).length<=2000*(0+1);omega
 ·rintro k ⟨i,hk⟩
  match i,hk with
  | 0,hk=>have:=hH k hk;exact .inr (by omega)
  | 1,hk=>exact HT.out k hk
  | 2,hk=>have:=hVlo k hk;exact .inr (by omega)
  | i+3,hk=>exact absurd rfl hk.1
 ·exact aB HB1.out (n_ _) hb14
theorem pX (W:World):(binOp .eql 42 .nilIface .nilIface).run p_ W=.ok (.bool true) W:=by kernel_rfl
theorem zGI (f:Nat) (w:World):Calls p_ 40 #[errV f] w fun e w'=>e=.returned (.int .i64 f)/\w'=w:=by
 have n0:=pX;have n1:=rD 114;by_cases h:f=0
 ·subst h;rw[aR];go_enter Tryz.func40,Tryz.ntmps40;go_wp2;go_ret;exact⟨rfl,rfl⟩
 ·have h1:=zDu (.int .i64 f);rw[aP h];go_enter Tryz.func40,Tryz.ntmps40;go_wp2;go_ret;exact⟨rfl,rfl⟩
theorem zGX (s:ESt) (i:Nat):(dX s i).ses i=some ⟨aS s.x.rows,s.now,[],[]⟩:=by
 show setS s.ses i _ i=_;exact hE _ _ _
theorem zHj (s:ESt) (i:Nat) (v:VwL) (chs:List Chg) (rds:Rws):(jU s i v chs rds).ses i=some ⟨v.P,v.n,chs,rds⟩:=by
 show setS s.ses i _ i=_;exact hE _ _ _
structure zDq (s:ESt) (n:Nat):Prop where
 ok:EOk s
 rows:s.x.rows=[]
 left:s.x.d.left=-1
 len:s.x.d.now.length=n
 used:s.x.used=0
 now:s.now=0
 c:s.c=0
 ds:s.ds=[]
 ses:∀ i,s.ses i=none
structure zL2 (w w':World) (n db eb:Nat):Prop where
 ex:∃ m s,EK w' w.heap.size m s/\m.eb=eb/\m.db=db/\zDq s n
 bel:Below w.heap.size w w'
theorem vC (n:Nat) (w:World) (h1:54<=n) (h2:n<=200):Calls p_ 15 #[.int .i64 (n:Int)] w fun e w'=>∃ db eb,e=.returned (.tuple #[.pointer (some ⟨db,0,none⟩),.pointer (some ⟨eb,0,none⟩),.bool true])/\zL2 w w' n db eb:=by
 have nn:=eG;have hlen:(qQ n).now.length=n:=by show(List.replicate n (bD 96)).length=n;simp
 have hfg:=zD1 (s:=qQ n) rfl rfl (by rw[hlen];exact h1);have HFG:=hide hfg;have HLEN:=hide hlen;clear hfg hlen;generalize aM (qQ n).now=fr at *;generalize hl:dC 0 [] (qQ n)=r at *;have HL:=hide hl;clear hl;go_enter Tryz.func15,Tryz.ntmps15;go_wp2_with fail;refine(zDe n _ (by omega) h2).mono ?_;rintro e w1 ⟨db,rfl,⟨S1,hk1⟩,hb1⟩;have HFO:=hide (zFF w1 hk1 (by rw[HLEN.out];exact h1));rw[HL.out,HFG.out.1,aR] at HFO;have HB1:=hide hb1;clear hk1 hb1;go_wp2_with fail;refine HFO.out.mono ?_;rintro e w2 ⟨rfl,S2,hk2,hs2⟩;have HOP:=hide (zIf w2 hk2 HFG.out.2.1);have HB2:=hide (HB1.out.trans hs2.bel);clear hk2 hs2 HFO;go_wp2_with fail;refine HOP.out.mono ?_;rintro e w3 ⟨eb,rfl,hn3⟩;have HN3:=hide hn3;clear hn3 HOP;go_wp2;go_ret3;obtain⟨m,hek,he1,he2,_⟩:=HN3.out.ex;exact⟨db,eb,rfl,⟨m,_,hek,he1,he2,EOk.new HFG.out.2.1,rfl,HFG.out.2.2.1,HFG.out.2.2.2.trans HLEN.out,rfl,rfl,rfl,rfl,fun _=>rfl⟩,aB HB2.out (n_ _) HN3.out.bel⟩
def wK:ByteArray:=⟨#[116,47,97]⟩
def wV:ByteArray:=⟨#[120]⟩
theorem zAp:aD ⟨wK,wV,false⟩=0:=by decide +kernel
theorem zFa:cH [] ⟨wK,wV,false⟩=0/\bG [] ⟨wK,wV,false⟩=[⟨wK,wV,false⟩]:=by
 have h:cH [] ⟨wK,wV,false⟩=0:=by
  unfold cH;rw[if_pos zAp];rfl
 exact⟨h,by unfold bG;rw[if_pos h];rfl⟩
theorem zIT {s:ESt} {n:Nat} (h:zDq s n) (hn:54<=n) {c:Chg} (hc:aD c=0) (hg:c.gone=false):comF s.x [c]=0/\(aK s.x.rows [c]).length=1:=by
 have hb:aK s.x.rows [c]=[c]:=by
  rw[h.rows];show([c].filter fQ)=[c];have:fQ c=true:=by unfold fQ;rw[hg];rfl
  rw[List.filter_cons_of_pos this];rfl
 refine⟨?_,by rw[hb];rfl⟩;unfold comF;have hd:jW [c]=0:=by
  unfold jW;rw[if_neg (by show ¬12<1;decide)];show(if aD c=0 then 0 else aD c)=0;rw[if_pos hc]
 rw[if_neg (by rw[hd];decide),if_neg];rw[hb,h.len];show ¬(40<1∨n-50<1+1);omega
theorem zHJ (w:World):Calls p_ 36 #[] w fun e w'=>e=.returned (.bool true)/\Below w.heap.size w w':=by
 have nn:=eG;have ne:=pX;go_enter Tryz.func36,Tryz.ntmps36;go_wp2_with fail;refine(vC 80 w (by decide) (by decide)).mono ?_;rintro e w1 ⟨db,eb,rfl,hst⟩;obtain⟨m,s,hek,rfl,rfl,fr⟩:=hst.ex;have HB1:=hide hst.bel;have HFR:=hide fr;have HBG:=hide (wB w1 hek (i:=0) (by decide) (fr.ses 0));clear hst hek;go_wp2_with fail;refine HBG.out.mono ?_;rintro e w2 ⟨rfl,m2,hek2,he2,_,hs2⟩;have ok2:=HFR.out.ok.begin 0;have hses2:(dX s 0).ses 0=some ⟨aS s.x.rows,s.now,[],[]⟩:=zGX s 0;have HDE:=hide (mT w2 hek2 (i:=0) (by decide) hses2);have hc2:(dX s 0).c=0:=HFR.out.c;have hpv:=hek2.pv ok2 hses2 (by rw[hc2];decide);have hpp:=zIB wK wV w2 hpv (by decide) (fun _=>by decide);rw[zFa.1,zFa.2,aR] at hpp;have HPU:=hide hpp;have HEK2:=hide hek2;have HB2:=hide (HB1.out.trans hs2.bel);rw[he2] at HDE;clear hek2 hs2 hpv hpp HBG HB1;go_wp2_with fail;refine HDE.out.mono ?_;rintro e w3 ⟨rfl,hw3⟩;rw[hw3];clear hw3 HDE;go_wp2_with fail;refine HPU.out.mono ?_;rintro e w4 ⟨rfl,S4',hp4,hs4⟩;obtain⟨x4,_,hek4,hst4⟩:=HEK2.out.view hses2 (by decide) hp4 hs4;have ok4:EOk (jU (dX s 0) 0 ⟨aS s.x.rows,s.now,[],[]⟩ [⟨wK,wV,false⟩] []):=ok2.view hses2 hp4.ok ⟨(ok2.ses 0 _ hses2).oq.rk,fun c hc=>by rw[List.mem_singleton.1 hc];exact zAp⟩;have hses4:(jU (dX s 0) 0 ⟨aS s.x.rows,s.now,[],[]⟩ [⟨wK,wV,false⟩] []).ses 0=some ⟨aS s.x.rows,s.now,[⟨wK,wV,false⟩],[]⟩:=zHj _ _ _ _ _;obtain⟨cf,cl⟩:=zIT HFR.out (by decide) zAp rfl;have hnev:=HFR.out.ok.g.never HFR.out.left [⟨wK,wV,false⟩];have hR0:(comR s.x [⟨wK,wV,false⟩]).1=0:=hnev.1.trans cf;have hrows:(comR s.x [⟨wK,wV,false⟩]).2.rows=aK s.x.rows [⟨wK,wV,false⟩]:=by
  rcases(HFR.out.ok.g.commit [⟨wK,wV,false⟩]).2 with⟨_,_,_,c,_⟩|⟨a,b,_⟩|⟨a,_⟩
  ·exact c
  ·exact absurd cf b
  ·rw[hR0] at a;cases a
 have hce:comE (jU (dX s 0) 0 ⟨aS s.x.rows,s.now,[],[]⟩ [⟨wK,wV,false⟩] []) 0=((s.now+1,0),endE (addE (jU (dX s 0) 0 ⟨aS s.x.rows,s.now,[],[]⟩ [⟨wK,wV,false⟩] []) [⟨wK,wV,false⟩]) 0):=by
  unfold comE;rw[hses4];dsimp only;rw[if_neg (by simp),if_neg (by rw[zHB];decide),if_neg (by show ¬(comR s.x _).1≠0;rw[hR0];decide)];rfl
 have hcm:=vX w4 hek4 ok4 (i:=0) (by decide) (by show s.c<=150;rw[HFR.out.c];decide);rw[hce] at hcm;dsimp only at hcm;have hn1:((s.now+1:Nat):Int)=1:=by rw[HFR.out.now];rfl
 rw[hn1,aR] at hcm;have HCM:=hide hcm;have HRW:Hid (∀ w5 m5,EK w5 w.heap.size m5 (endE (addE (jU (dX s 0) 0 ⟨aS s.x.rows,s.now,[],[]⟩ [⟨wK,wV,false⟩] []) [⟨wK,wV,false⟩]) 0)->Calls p_ 35 #[.pointer (some ⟨m5.eb,0,none⟩)] w5 fun e w'=>∃ ao cap,e=.returned (.slice ao 1 cap)/\Below w5.heap.size w5 w'):=fun w5 m5 h5=>by
  have hl1:(comR s.x [⟨wK,wV,false⟩]).2.rows.length=1:=by rw[hrows];exact cl
  refine(zBq w5 h5 (by show(comR s.x [⟨wK,wV,false⟩]).2.rows.length<=1000;omega)).mono ?_;rintro e w' ⟨v,rfl,ho,hb⟩;obtain⟨ao,cap,rfl,_⟩:=lV ho;refine⟨ao,cap,?_,hb⟩;have:(aS (endE (addE (jU (dX s 0) 0 ⟨aS s.x.rows,s.now,[],[]⟩ [⟨wK,wV,false⟩] []) [⟨wK,wV,false⟩]) 0).x.rows).length=1:=by
   show(aS (comR s.x [⟨wK,wV,false⟩]).2.rows).length=1;unfold aS;rw[List.length_map];exact hl1
  rw[this]
 have HB4:=hide (HB2.out.trans hst4.bel);have he4:m2.eb=m.eb:=he2;clear hn1 hek4 hst4 ok4 hses4 cf cl hnev hR0 hrows hce hcm HPU hp4 hs4 HEK2 ok2 hses2 hc2 HB2;have HCM':Hid (Calls p_ 20 #[.pointer (some ⟨m.eb,0,none⟩),.int .i64 0] w4 fun e w'=>e=.returned (.tuple #[.int .i64 1,.nilIface])/\Below w.heap.size w w'/\∃ m5,m5.eb=m.eb/\EK w' w.heap.size m5 (endE (addE (jU (dX s 0) 0 ⟨aS s.x.rows,s.now,[],[]⟩ [⟨wK,wV,false⟩] []) [⟨wK,wV,false⟩]) 0)):=by
  have h:=HCM.out;rw[show({ m2 with W:=updW m2.W 0 x4 }:EMem).eb=m.eb from he4] at h;refine h.mono ?_;rintro e w' ⟨rfl,m5,k1,k2,_,k4⟩;exact⟨rfl,HB4.out.trans k4.bel,m5,k2,k1⟩
 clear HCM HB4;generalize endE (addE (jU (dX s 0) 0 ⟨aS s.x.rows,s.now,[],[]⟩ [⟨wK,wV,false⟩] []) [⟨wK,wV,false⟩]) 0=s5 at *;go_wp2_with fail;refine HCM'.out.mono ?_;rintro e w5 ⟨rfl,hb5,m5,he5,hek5⟩;have HR5:=hide (HRW.out w5 m5 hek5);rw[he5] at HR5;have HB5:=hide hb5;clear HCM' hek5 hb5 HRW;go_wp2_with fail;refine HR5.out.mono ?_;rintro e w6 ⟨ao,cap,rfl,hb6⟩;have HB6:=hide (aB HB5.out (n_ _) hb6);clear hb6;go_wp2;go_ret;exact⟨rfl,HB6.out⟩
theorem vS (n:Int) (w:World) (h0:-9999999<=n) (h1:n<=9999999):Calls p_ 96 #[.int .i64 n] w fun e w'=>e=.returned (.string (decZ n))/\Below w.heap.size w w':=by
 by_cases hn:n<0
 ·have e:decZ n=⟨#[45]⟩++decB (-n).toNat:=if_pos hn;rw[e];have HD:∀ W,Hid (Calls p_ 96 #[.int .i64 (-n)] W fun e w'=>e=.returned (.string (decB (-n).toNat))/\Below W.heap.size W w'):=fun W=>by
   have:=iD (-n).toNat W (by omega);rw[show(((-n).toNat:Nat):Int)=-n by omega] at this;exact this
  have hw:wrap64 (-n)=-n:=by unfold wrap64;omega
  have hw2:wrap64 (0-n)=-n:=by unfold wrap64;omega
  have hw3:IntKind.i64.wrap (-n)=-n:=by rw[IntKind.wrap_i64];omega
  have hsz:=lH (n:=(-n).toNat) (by omega);generalize decB (-n).toNat=s at *;go_enter Tryz.func96,Tryz.ntmps96;go_wp2_with fail;refine((HD _).out).mono ?_;rintro e w1 ⟨rfl,hb⟩;go_wp2;go_ret;exact⟨rfl,hb⟩
 ·have e:decZ n=decB n.toNat:=if_neg hn;have:=iD n.toNat w (by omega);rw[show((n.toNat:Nat):Int)=n by omega] at this;rw[e];exact this
theorem eU (f:Nat) (w:World) (hf:f<=20):Calls p_ 95 #[errV f] w fun e w'=>e=.returned (.string (eI f))/\Below w.heap.size w w':=by
 have HN:=hide (zGI f w);have HD:=fun W=>hide (iD f W (by omega));have hsz:=lH (n:=f) (by omega);unfold eI;generalize decB f=s at *;generalize errV f=ev at *;go_enter Tryz.func95,Tryz.ntmps95;go_wp2_with fail;refine HN.out.mono ?_;rintro e w1 ⟨rfl,rfl⟩;go_wp2_with fail;refine((HD _).out).mono ?_;rintro e w2 ⟨rfl,hb⟩;go_wp2;go_ret;exact⟨rfl,hb⟩
theorem zDc (m:Msg) (w:World) (h:gU m):Calls p_ 97 #[mV m] w fun e w'=>e=.returned (.string (msgT m))/\Below w.heap.size w w':=by
 obtain⟨⟨a0,a1⟩,⟨b0,b1⟩,⟨c0,c1⟩,_,sz0⟩:=h;obtain⟨mk,mt,mu,md,em⟩:=m;dsimp only at a0 a1 b0 b1 c0 c1 sz0;have sz1:=jY (n:=mk) (by omega) (by omega);have sz2:=jY (n:=mt) (by omega) (by omega);have sz3:=jY (n:=mu) (by omega) (by omega);have HA:=fun W=>hide (vS mk W (by omega) (by omega));have HM:=fun W=>hide (vS mt W (by omega) (by omega));have HU:=fun W=>hide (vS mu W (by omega) (by omega));unfold msgT;dsimp only;have hb0:=a_ w (o_ #[.int .i64 mk,.int .i64 mt,.int .i64 mu,.string md] 99);have y0:(w.alloc (o_ #[.int .i64 mk,.int .i64 mt,.int .i64 mu,.string md] 99)).cell? ⟨w.heap.size,0,none⟩=some (.int .i64 mk):=aC _ _ _ 0;have y1:(w.alloc (o_ #[.int .i64 mk,.int .i64 mt,.int .i64 mu,.string md] 99)).cell? ⟨w.heap.size,1,none⟩=some (.int .i64 mt):=aC _ _ _ 1;have y2:(w.alloc (o_ #[.int .i64 mk,.int .i64 mt,.int .i64 mu,.string md] 99)).cell? ⟨w.heap.size,2,none⟩=some (.int .i64 mu):=aC _ _ _ 2;have y3:(w.alloc (o_ #[.int .i64 mk,.int .i64 mt,.int .i64 mu,.string md] 99)).cell? ⟨w.heap.size,3,none⟩=some (.string md):=aC _ _ _ 3;generalize decZ mk=sa at *;generalize decZ mt=sb at *;generalize decZ mu=sc at *;go_enter Tryz.func97,Tryz.ntmps97;go_wp2_with fail;generalize w.alloc (o_ #[.int .i64 mk,.int .i64 mt,.int .i64 mu,.string md] 99)=W at *;have n0:∀ m:OnW W,m.w.cell? ⟨w.heap.size,0,none⟩=some (.int .i64 mk):=fun m=>m.cell y0;have n1:∀ m:OnW W,m.w.cell? ⟨w.heap.size,1,none⟩=some (.int .i64 mt):=fun m=>m.cell y1;have n2:∀ m:OnW W,m.w.cell? ⟨w.heap.size,2,none⟩=some (.int .i64 mu):=fun m=>m.cell y2;have n3:∀ m:OnW W,m.w.cell? ⟨w.heap.size,3,none⟩=some (.string md):=fun m=>m.cell y3;have hne:Nonempty (OnW W):=OnW.some W;refine dE (by kernel_rfl) (by kernel_rfl) ?_
 repeat (go_big_quiet_step ((first
  | (go_at_call_of 96 (i_ k_ mk);exact fF (HA _).out)
  | (go_at_call_of 96 (i_ k_ mt);exact fF (HM _).out)
  | (go_at_call_of 96 (i_ k_ mu);exact fF (HU _).out))))
 refine wpQuiet_nil ?_;intro w3 hw3;replace hw3:=jG hw3;have hB:=aB hb0 (n_ _) hw3;go_wp2;go_ret;exact⟨rfl,hB⟩
end
end Go.Proofs.YtnboipekkahmnaaGreatDoor
