import Derived.Test.YtnboipekkahmnaaGreatDoorS17
set_option maxHeartbeats 8000000
set_option maxRecDepth 100000
namespace Go.Proofs.YtnboipekkahmnaaGreatDoor
open World renaming cell?_of_block→b_,cell?_setCell_other→t_,cell?_setCell_same→u_,ownsRow.lt→l_
open Go.RowKit.Below renaming heap_setCell→h_,refl→r_
open Nat renaming le_refl→n_
open Tryz renaming prog→p_
open Value renaming string→v_
open Go.Joins renaming below_alloc1→a_
section
open Go.RowKit Go.Joins
attribute [local go_sem ↓] Go.wp_at_zero Go.wp_at_succ
section
variable {w w':World} {B sb lb db:Nat} {S S' T:Nat->Prop} {v:Value} {x:SSt}
theorem zEV (l:List Chg) (ao:Option Addr) (cap:Nat) (w:World) (h:SA w B sb db T x) (hg:fA x) (hd:bW w ao l) (hap:apart T ao l) (hl:l.length<=100) (hsz:∀ c∈l,c.key.size<=1000/\c.val.size<=1000):
  Calls p_ 131 #[.pointer (some ⟨sb,0,none⟩),.slice ao l.length cap] w fun e w'=>e=.returned (errV (comR x l).1)/\ActS w w' B sb db T (comR x l).2:=by
 have hfew:=cQ.few hg;have h54:=cQ.n54 hg;have hus:=cQ.us hg;have hB:=h.blo;have HCK:=hide (zFX l ao cap w hd (by omega) (fun c hc=>by have:=hsz c hc;unfold maxLen;omega));have HSA:=hide h;have HGD:=hide hg;have HHD0:=hide hd;have HAP0:=hide hap;have HSZ:=hide hsz;clear h hg hd hap hsz;by_cases h1:jW l=0
 ·obtain⟨lb0,S0,v0,hsk0,hT0⟩:=HSA.out;have c0:=hsk0.hd.c0;have c3:=hsk0.hd.c3;have HSK0:=hide hsk0;have hm:=hsk0.lk.dk.many;have HD0:=hide h1;have hbl:=zGt x.rows l;have hl0:(l.length:Int)<=100:=by omega
  rw[h1,aR] at HCK;clear hsk0 h1 hT0;by_cases h2:40<(aK x.rows l).length∨x.d.now.length-50<l.length+1
  ·have ecom:comR x l=(8,x):=by
    have ef:comF x l=8:=by unfold comF;rw[if_neg (by rw[HD0.out];decide),if_pos h2]
    unfold comR;rw[ef,if_pos (by decide)]
   rw[ecom];clear ecom;have HE8:Hid (errV 8=.iface 114 (.int .i64 8)):=rfl;have H2:=hide h2;clear h2;go_enter Tryz.func131,Tryz.ntmps131;go_wp2_with fail;refine HCK.out.mono ?_;rintro e w1 ⟨rfl,hb1⟩;have HB1:=hide hb1;replace c0:=aA hb1 c0;replace c3:=aA hb1 c3;have HBH:=hide (lG x.rows l v0 ao cap B w1 (bQ HSK0.out.own hb1) (eA hb1 HHD0.out) (by omega) (by omega));clear hb1;go_wp2_with fail;refine HBH.out.mono ?_;rintro e w2 ⟨v2,rfl,ho2,hb2⟩;have HB2:=hide (aB HB1.out (n_ _) hb2);have HO2:=hide (dJ ho2 HB1.out.size);replace c0:=aA hb2 c0;replace c3:=aA hb2 c3;obtain⟨va,vc,rfl⟩:∃ va vc,v2=.slice va (aK x.rows l).length vc:=by
    rcases aX ho2 with⟨e,e2⟩|⟨g,cap',e,_⟩
    ·exact⟨none,0,by rw[e,e2]⟩
    ·exact⟨_,cap',e⟩
   have HLS:=hide (iK w2 (HSK0.out.lk.dk.on HB2.out) (by omega));have HRM:=hide (qF w2 (HSA.out.on HB2.out));have HSTD:Hid (∀ n,aG w (w2.drewN n) B T T):=fun n=>.on hB (below_drewN HB2.out n);clear ho2 hb2 HBH HCK HB1;generalize hn2e:(aK x.rows l).length=n2 at *;have HNE:=hide hn2e;clear hn2e;have h2:=H2.out;have HEND:=hide (HSA.out.stay HB2.out);by_cases h3:40<n2
   ·have h3':(40:Int)<(n2:Int):=by omega
    clear h2;go_wp2;go_ret;exact⟨by rw[HE8.out];rfl,HEND.out⟩
   ·have h3':¬(40:Int)<(n2:Int):=by omega
    have h4':((x.d.now.length-50:Nat):Int)<(l.length:Int)+1:=by omega
    clear h2 H2;generalize x.d.now.length-50=m at *;go_wp2_with fail;refine HLS.out.mono ?_;rintro e w3 ⟨rfl,rfl⟩;go_wp2;go_ret;exact⟨by rw[HE8.out];rfl,HEND.out⟩
  ·have HN2:Hid ((aK x.rows l).length<=40/\l.length+1<=x.d.now.length-50):=hide (by omega);have ef:comF x l=0:=by unfold comF;rw[if_neg (by rw[HD0.out];decide),if_neg h2]
   have ecom:comR x l=if (gO x l).1≠0 then gO x l else gM (gO x l).2 l (aK x.rows l):=by unfold comR;rw[if_neg (by rw[ef];decide)]
   rw[ecom];clear ecom ef h2;have h3':¬(40:Int)<((aK x.rows l).length:Int):=by have:=HN2.out;omega
   have h4':¬((x.d.now.length-50:Nat):Int)<(l.length:Int)+1:=by have:=HN2.out;omega
   have hrI:((x.d.now.length-50-x.used:Nat):Int)<=200:=by omega
   by_cases hroom:x.d.now.length-50-x.used<l.length+1
   ·have hroom':((x.d.now.length-50-x.used:Nat):Int)<(l.length:Int)+1:=by omega
    have e1:gO x l=chkR x:=if_pos hroom;rw[e1];clear e1 hroom;have HCP:Hid (∀ W,Below w.heap.size w W->Calls p_ 73 #[.pointer (some ⟨sb,0,none⟩)] W fun e w'=>e=.returned (errV (chkR x).1)/\ActS W w' B sb db T (chkR x).2):=fun W hb=>zDC W (HSA.out.on hb) HGD.out;by_cases hc0:(chkR x).1=0
    ·rw[if_neg (by rw[hc0];decide)];rw[hc0,aR] at HCP;clear hc0;generalize (chkR x).2=Y at *;obtain⟨R,hRe⟩:∃ R,addR 50 (Y.d.now.length-50) Y.first Y.used Y.d l=R:=⟨_,rfl⟩;have HRE:=hide hRe;have HAL:Hid (R.2.2.now.length=Y.d.now.length):=by rw[<-hRe];exact zCC 50 (Y.d.now.length-50) Y.first Y.used Y.d l
     unfold gM;rw[hRe];obtain⟨RW,hRW⟩:∃ RW,RW=if R.1=0 then aK x.rows l else Y.rows:=⟨_,rfl⟩;rw[<-hRW];have HRW:=hide hRW;clear hRe hRW;go_enter Tryz.func131,Tryz.ntmps131;go_wp2_with fail;refine HCK.out.mono ?_;rintro e w1 ⟨rfl,hb1⟩;have HB1:=hide hb1;replace c0:=aA hb1 c0;replace c3:=aA hb1 c3;have HBH:=hide (lG x.rows l v0 ao cap B w1 (bQ HSK0.out.own hb1) (eA hb1 HHD0.out) (by omega) (by omega));clear hb1;go_wp2_with fail;refine HBH.out.mono ?_;rintro e w2 ⟨v2,rfl,ho2,hb2⟩;have HB2:=hide (aB HB1.out (n_ _) hb2);have HO2:=hide (dJ ho2 HB1.out.size);replace c0:=aA hb2 c0;replace c3:=aA hb2 c3;obtain⟨va,vc,rfl⟩:∃ va vc,v2=.slice va (aK x.rows l).length vc:=by
      rcases aX ho2 with⟨e,e2⟩|⟨g,cap',e,_⟩
      ·exact⟨none,0,by rw[e,e2]⟩
      ·exact⟨_,cap',e⟩
     have HLS:=hide (iK w2 (HSK0.out.lk.dk.on HB2.out) (by omega));have HRM:=hide (qF w2 (HSA.out.on HB2.out));have HSTD:Hid (∀ n,aG w (w2.drewN n) B T T):=fun n=>.on hB (below_drewN HB2.out n);clear ho2 hb2 HBH HCK HB1;generalize hn2e:(aK x.rows l).length=n2 at *;have HNE:=hide hn2e;clear hn2e;generalize hrme:x.d.now.length-50-x.used=rm at *;clear hrme;generalize hme:x.d.now.length-50=m at *;have HME:=hide hme;clear hme;go_wp2_with fail;refine HLS.out.mono ?_;rintro e w3 ⟨rfl,rfl⟩;go_wp2_with fail;refine HRM.out.mono ?_;rintro e w4 ⟨rfl,nq,rfl⟩;go_wp2_with fail;refine(HCP.out _ (below_drewN HB2.out nq)).mono ?_;rintro e W ⟨rfl,TY,hsa5,hst5⟩;have hst6:=(HSTD.out nq).trans hst5;have HHD:=hide (HAP0.out.step HHD0.out hst6).2;have HA:=hide hsa5;have HSTW:=hide hst6;have hfar5:∀ k,Value.ownBlock (.slice va n2 vc)=some k->W.heap[k]?=w3.heap[k]?/\¬TY k:=fun k e=>hst5.far k (l_ HO2.out k e).2 (fun e2=>by have h1:=(l_ HO2.out k e).1;have h2:=HSA.out.lt e2;omega);have HOW:Hid (bO W w.heap.size (.slice va n2 vc) (aK x.rows l)):=aI HO2.out fun k e=>(hfar5 k e).1;have HAP:Hid (∀ k,Value.ownBlock (.slice va n2 vc)=some k->¬TY k):=fun k e=>(hfar5 k e).2;clear hsa5 hst5 hst6 hfar5 HCP HRM HLS HO2 c0 c3;obtain⟨lb5,S5,v5,hsk5,hT5⟩:=HA.out;have g1:=hsk5.hd.c1;have HSK5:=hide hsk5;have HT5:=hide hT5;have HAD:Hid (Calls p_ 194 #[.pointer (some ⟨lb5,0,none⟩),.slice ao l.length cap] W fun e w'=>e=.returned (errV R.1)/\pB W w' B lb5 db S5 50 (Y.d.now.length-50) Y.first R.2.1 R.2.2):=by
      have h1:=zDn l ao cap W hsk5.lk HHD.out HSZ.out (by omega);rw[HRE.out] at h1;exact h1
     clear hsk5 hT5;by_cases hr0:R.1=0
     ·rw[hr0,aR] at HAD;have HR0:=hide hr0;clear hr0;go_wp2_with fail;refine HAD.out.mono ?_;rintro e w8 ⟨rfl,S8,hlk8,hst8⟩;obtain⟨hsk8,hsv8⟩:=HSK5.out.added hlk8 hst8 HAL.out;have q3:=hsk8.hd.c3;have qf:=hsk8.hd.soft;have hown8:bO w8 w.heap.size (.slice va n2 vc) (aK x.rows l)/\∀ k,Value.ownBlock (.slice va n2 vc)=some k->¬inS sb lb5 v5 S8 k:=by
       have hap:=HAP.out;rw[HT5.out] at hap;exact⟨aI HOW.out fun k e=>(hsv8.far k (l_ HOW.out k e).2 (hap k e)).1,fun k e=>(hsv8.far k (l_ HOW.out k e).2 (hap k e)).2⟩
      have hfin:=hsk8.finish (by have h1:=HSTW.out;rw[HT5.out] at h1;exact h1.trans hsv8) hB hown8.1 hown8.2;have HFIN:=hide hfin;clear hlk8 hst8 hsk8 hsv8 hown8 hfin;go_wp2;go_ret;rw[HR0.out,HRW.out,if_pos HR0.out];exact⟨rfl,HFIN.out⟩
     ·have HER:Hid (errV R.1=.iface 114 (.int .i64 R.1)):=aP hr0;rw[HER.out] at HAD;have HR0:=hide hr0;clear hr0;go_wp2_with fail;refine HAD.out.mono ?_;rintro e w8 ⟨rfl,S8,hlk8,hst8⟩;obtain⟨hsk8,hsv8⟩:=HSK5.out.added hlk8 hst8 HAL.out;have HSK8:=hide hsk8;have HSV8:=hide hsv8;clear hlk8 hst8 hsk8 hsv8;go_wp2;go_ret;have h1:=HSTW.out;rw[HT5.out] at h1;rw[HRW.out,if_neg HR0.out];exact⟨by rw[HER.out];rfl,_,⟨lb5,S8,v5,HSK8.out,rfl⟩,h1.trans HSV8.out⟩
    ·have HER:Hid (errV (chkR x).1=.iface 114 (.int .i64 (chkR x).1)):=aP hc0;rw[if_pos hc0];rw[HER.out] at HCP;clear hc0;go_enter Tryz.func131,Tryz.ntmps131;go_wp2_with fail;refine HCK.out.mono ?_;rintro e w1 ⟨rfl,hb1⟩;have HB1:=hide hb1;replace c0:=aA hb1 c0;replace c3:=aA hb1 c3;have HBH:=hide (lG x.rows l v0 ao cap B w1 (bQ HSK0.out.own hb1) (eA hb1 HHD0.out) (by omega) (by omega));clear hb1;go_wp2_with fail;refine HBH.out.mono ?_;rintro e w2 ⟨v2,rfl,ho2,hb2⟩;have HB2:=hide (aB HB1.out (n_ _) hb2);have HO2:=hide (dJ ho2 HB1.out.size);replace c0:=aA hb2 c0;replace c3:=aA hb2 c3;obtain⟨va,vc,rfl⟩:∃ va vc,v2=.slice va (aK x.rows l).length vc:=by
      rcases aX ho2 with⟨e,e2⟩|⟨g,cap',e,_⟩
      ·exact⟨none,0,by rw[e,e2]⟩
      ·exact⟨_,cap',e⟩
     have HLS:=hide (iK w2 (HSK0.out.lk.dk.on HB2.out) (by omega));have HRM:=hide (qF w2 (HSA.out.on HB2.out));have HSTD:Hid (∀ n,aG w (w2.drewN n) B T T):=fun n=>.on hB (below_drewN HB2.out n);clear ho2 hb2 HBH HCK HB1;generalize hn2e:(aK x.rows l).length=n2 at *;have HNE:=hide hn2e;clear hn2e;generalize hrme:x.d.now.length-50-x.used=rm at *;clear hrme;generalize hme:x.d.now.length-50=m at *;have HME:=hide hme;clear hme;go_wp2_with fail;refine HLS.out.mono ?_;rintro e w3 ⟨rfl,rfl⟩;go_wp2_with fail;refine HRM.out.mono ?_;rintro e w4 ⟨rfl,nq,rfl⟩;go_wp2_with fail;refine(HCP.out _ (below_drewN HB2.out nq)).mono ?_;rintro e W ⟨rfl,TY,hsa5,hst5⟩;have HST6:=hide ((HSTD.out nq).trans hst5);have HA:=hide hsa5;clear hsa5 hst5;go_wp2;go_ret;exact⟨by rw[HER.out];rfl,TY,HA.out,HST6.out⟩
   ·have hroom':¬((x.d.now.length-50-x.used:Nat):Int)<(l.length:Int)+1:=by omega
    have e1:gO x l=(0,x):=if_neg hroom;rw[e1,if_neg (by show ¬0≠0;decide)];clear e1 hroom;show Calls _ _ _ _ fun e w'=>e=.returned (errV (gM x l (aK x.rows l)).1)/\ActS w w' B sb db T (gM x l (aK x.rows l)).2;obtain⟨R,hRe⟩:∃ R,addR 50 (x.d.now.length-50) x.first x.used x.d l=R:=⟨_,rfl⟩;have HRE:=hide hRe;have HAL:Hid (R.2.2.now.length=x.d.now.length):=by rw[<-hRe];exact zCC 50 (x.d.now.length-50) x.first x.used x.d l
    unfold gM;rw[hRe];obtain⟨RW,hRW⟩:∃ RW,RW=if R.1=0 then aK x.rows l else x.rows:=⟨_,rfl⟩;rw[<-hRW];have HRW:=hide hRW;clear hRe hRW;go_enter Tryz.func131,Tryz.ntmps131;go_wp2_with fail;refine HCK.out.mono ?_;rintro e w1 ⟨rfl,hb1⟩;have HB1:=hide hb1;replace c0:=aA hb1 c0;replace c3:=aA hb1 c3;have HBH:=hide (lG x.rows l v0 ao cap B w1 (bQ HSK0.out.own hb1) (eA hb1 HHD0.out) (by omega) (by omega));clear hb1;go_wp2_with fail;refine HBH.out.mono ?_;rintro e w2 ⟨v2,rfl,ho2,hb2⟩;have HB2:=hide (aB HB1.out (n_ _) hb2);have HO2:=hide (dJ ho2 HB1.out.size);replace c0:=aA hb2 c0;replace c3:=aA hb2 c3;obtain⟨va,vc,rfl⟩:∃ va vc,v2=.slice va (aK x.rows l).length vc:=by
     rcases aX ho2 with⟨e,e2⟩|⟨g,cap',e,_⟩
     ·exact⟨none,0,by rw[e,e2]⟩
     ·exact⟨_,cap',e⟩
    have HLS:=hide (iK w2 (HSK0.out.lk.dk.on HB2.out) (by omega));have HRM:=hide (qF w2 (HSA.out.on HB2.out));have HSTD:Hid (∀ n,aG w (w2.drewN n) B T T):=fun n=>.on hB (below_drewN HB2.out n);clear ho2 hb2 HBH HCK HB1;generalize hn2e:(aK x.rows l).length=n2 at *;have HNE:=hide hn2e;clear hn2e;generalize hrme:x.d.now.length-50-x.used=rm at *;clear hrme;generalize hme:x.d.now.length-50=m at *;have HME:=hide hme;clear hme;go_wp2_with fail;refine HLS.out.mono ?_;rintro e w3 ⟨rfl,rfl⟩;go_wp2_with fail;refine HRM.out.mono ?_;rintro e w4 ⟨rfl,nq,rfl⟩;have HHD:=hide (eA (below_drewN HB2.out nq) HHD0.out);have HA:=hide (HSA.out.on (below_drewN HB2.out nq));have HSTW:=hide (HSTD.out nq);have HOW:Hid (bO (w3.drewN nq) w.heap.size (.slice va n2 vc) (aK x.rows l)):=HO2.out;have HAP:Hid (∀ k,Value.ownBlock (.slice va n2 vc)=some k->¬T k):=fun k e e2=>by have h1:=(l_ HO2.out k e).1;have h2:=HSA.out.lt e2;omega
    clear HRM HLS HO2 c0 c3 HSTD;generalize w3.drewN nq=W at *;obtain⟨lb5,S5,v5,hsk5,hT5⟩:=HA.out;have g1:=hsk5.hd.c1;have HSK5:=hide hsk5;have HT5:=hide hT5;have HAD:Hid (Calls p_ 194 #[.pointer (some ⟨lb5,0,none⟩),.slice ao l.length cap] W fun e w'=>e=.returned (errV R.1)/\pB W w' B lb5 db S5 50 m x.first R.2.1 R.2.2):=by
     have h1:=zDn l ao cap W hsk5.lk HHD.out HSZ.out (by omega);rw[HME.out] at h1;rw[HRE.out] at h1;exact h1
    clear hsk5 hT5;by_cases hr0:R.1=0
    ·rw[hr0,aR] at HAD;have HR0:=hide hr0;clear hr0;go_wp2_with fail;refine HAD.out.mono ?_;rintro e w8 ⟨rfl,S8,hlk8,hst8⟩;rw[<-HME.out] at hlk8;obtain⟨hsk8,hsv8⟩:=HSK5.out.added hlk8 hst8 HAL.out;have q3:=hsk8.hd.c3;have qf:=hsk8.hd.soft;have hown8:bO w8 w.heap.size (.slice va n2 vc) (aK x.rows l)/\∀ k,Value.ownBlock (.slice va n2 vc)=some k->¬inS sb lb5 v5 S8 k:=by
      have hap:=HAP.out;rw[HT5.out] at hap;exact⟨aI HOW.out fun k e=>(hsv8.far k (l_ HOW.out k e).2 (hap k e)).1,fun k e=>(hsv8.far k (l_ HOW.out k e).2 (hap k e)).2⟩
     have hfin:=hsk8.finish (by have h1:=HSTW.out;exact aG.trans (by have h2:=h1;rw[<-HT5.out];exact h2) hsv8) hB hown8.1 hown8.2;have HFIN:=hide hfin;clear hlk8 hst8 hsk8 hsv8 hown8 hfin;go_wp2;go_ret;rw[HR0.out,HRW.out,if_pos HR0.out];exact⟨rfl,HFIN.out⟩
    ·have HER:Hid (errV R.1=.iface 114 (.int .i64 R.1)):=aP hr0;rw[HER.out] at HAD;have HR0:=hide hr0;clear hr0;go_wp2_with fail;refine HAD.out.mono ?_;rintro e w8 ⟨rfl,S8,hlk8,hst8⟩;rw[<-HME.out] at hlk8;obtain⟨hsk8,hsv8⟩:=HSK5.out.added hlk8 hst8 HAL.out;have HSK8:=hide hsk8;have HSV8:=hide hsv8;clear hlk8 hst8 hsk8 hsv8;go_wp2;go_ret;have h1:=HSTW.out;replace h1:aG w W B T (inS sb lb5 v5 S5):=by rw[<-HT5.out];exact h1
     rw[HRW.out,if_neg HR0.out];exact⟨by rw[HER.out];rfl,_,⟨lb5,S8,v5,HSK8.out,rfl⟩,h1.trans HSV8.out⟩
 ·have ecom:comR x l=(jW l,x):=by
   have ef:comF x l=jW l:=by unfold comF;rw[if_pos h1]
   unfold comR;rw[ef,if_pos h1]
  rw[ecom];have HER:Hid (errV (jW l)=.iface 114 (.int .i64 (jW l))):=aP h1;rw[HER.out] at HCK;clear h1 ecom;go_enter Tryz.func131,Tryz.ntmps131;go_wp2_with fail;refine HCK.out.mono ?_;rintro e w1 ⟨rfl,hb1⟩;have HEND:=hide (HSA.out.stay hb1);clear hb1;go_wp2;go_ret;exact⟨by rw[HER.out];rfl,HEND.out⟩
end
section
variable {w w':World} {B sb lb db:Nat} {S S' T:Nat->Prop} {v:Value} {x:SSt}
theorem SA.low (h:SA w B sb db T x) {k:Nat} (hk:T k):B<=k:=by
 obtain⟨lb,S,v,h1,rfl⟩:=h;rcases hk with rfl|rfl|hk|hk
 ·exact h1.lo
 ·exact h1.lk.lo
 ·exact(l_ h1.own k hk).1
 ·exact h1.lk.dk.low hk
theorem SA.kept (h:SA w B sb db T x) (hs:w.heap.size<=w'.heap.size) (hk:∀ k,T k->w'.heap[k]?=w.heap[k]?):SA w' B sb db T x:=by
 obtain⟨lb,S,v,h1,rfl⟩:=h;refine⟨lb,S,v,⟨h1.hd.kept (hk sb (.inl rfl)),⟨h1.lk.dk.kept hs fun k e=>hk k (.inr (.inr (.inr e))),h1.lk.hd.kept (hk lb (.inr (.inl rfl))),h1.lk.nl,h1.lk.lo,h1.lk.us,h1.lk.fit,h1.lk.f1⟩,aI h1.own fun k e=>hk k (.inr (.inr (.inl e))),h1.ns,h1.nl,h1.nv,h1.lo⟩,rfl⟩
theorem SNew.sa {w0:World} (h:SNew w0 w' B sb db S x):∃ T,SA w' B sb db T x/\∀ k,T k->S k∨w0.heap.size<=k:=by
 obtain⟨lb,v,h1,h2,h3⟩:=h.ex;refine⟨_,⟨lb,S,v,h1,rfl⟩,fun k e=>?_⟩;rcases e with rfl|rfl|e|e
 ·exact .inr h.new
 ·exact .inr h2
 ·exact .inr (h3 k e)
 ·exact .inl e
end
end
section
open Go.RowKit Go.Joins
def sQ (p:aU×Value):List Value:=[.int .i64 p.1.n,p.2]
theorem qX (p:aU×Value):(sQ p).length=2:=rfl
def rowD (dv:List (aU×Value)):List Value:=dv.flatMap sQ
structure bP (w:World) (B hb:Nat) (Xc:Nat->Option Value) (v:Value) (dv:List (aU×Value)):Prop where
 cell:w.cell? ⟨hb,2,none⟩=some v
 soft:w.frozen? ⟨hb,2,none⟩=false
 lo:B<=hb
 own:w.ownsRow B 207 2 v dv.length (rowD dv)
 keys:∀ p∈dv,w.ownsRow B 9 1 p.2 p.1.keys.length (p.1.keys.map v_)
 off:v.ownBlock≠some hb
 offk:∀ p∈dv,p.2.ownBlock≠some hb
 apart:∀ p∈dv,p.2.ownBlock=none∨p.2.ownBlock≠v.ownBlock
 pair:dv.Pairwise fun p q=>p.2.ownBlock=none∨p.2.ownBlock≠q.2.ownBlock
 rest:∀ j,(j≠2->w.cell? ⟨hb,j,none⟩=Xc j)/\w.frozen? ⟨hb,j,none⟩=false
theorem bP.lt {w:World} {B hb:Nat} {Xc:Nat->Option Value} {v:Value} {dv:List (aU×Value)} (h:bP w B hb Xc v dv):hb<w.heap.size:=World.block_lt_of_cell? w ⟨hb,2,none⟩ h.cell
theorem bP.on {w w':World} {B hb:Nat} {Xc:Nat->Option Value} {v:Value} {dv:List (aU×Value)} (h:bP w B hb Xc v dv) (hb':Below w.heap.size w w'):bP w' B hb Xc v dv where
 cell:=aA hb' h.cell
 soft:=aE hb' h.lt h.soft
 lo:=h.lo
 own:=bQ h.own hb'
 keys:=fun p hp=>bQ (h.keys p hp) hb'
 off:=h.off
 offk:=h.offk
 apart:=h.apart
 pair:=h.pair
 rest:=fun j=>⟨fun hj=>(b_ (w:=w) (hb'.block hb h.lt)).trans ((h.rest j).1 hj),(World.frozen?_of_block (w:=w) (hb'.block hb h.lt)).trans (h.rest j).2⟩
theorem bP.form {w:World} {B hb:Nat} {Xc:Nat->Option Value} {v:Value} {dv:List (aU×Value)} (h:bP w B hb Xc v dv):
  (v=.slice none 0 0/\dv=[])∨∃ g cap,v=.slice (some ⟨g,0,none⟩) dv.length cap/\B<=g/\g≠hb/\dv.length<=cap/\cap<=9223372036854775807/\
   ∀ i (hi:i<dv.length),w.cell? ⟨g,i*2,none⟩=some (.int .i64 dv[i].1.n)/\w.cell? ⟨g,i*2+1,none⟩=some dv[i].2/\w.frozen? ⟨g,i*2+1,none⟩=false:=by
 rcases aX h.own with⟨hv,h0⟩|⟨g,cap,hv,h1,h2,h3,h4⟩
 ·exact .inl ⟨hv,List.length_eq_zero_iff.1 h0⟩
 ·refine .inr ⟨g,cap,hv,h1,fun e=>h.off (by rw[hv,e];rfl),h3,by unfold maxLen at h4;omega,fun i hi=>?_⟩;have ho:=h.own;rw[hv] at ho;have a:=dU qX ho i 0 hi (by omega);have b:=dU qX ho i 1 hi (by omega);exact⟨a.1,b.1,b.2⟩
theorem zHo {w:World} {B:Nat} {v:Value} {ks:List ByteArray} (h:w.ownsRow B 9 1 v ks.length (ks.map v_)):
  (v=.slice none 0 0/\ks=[])∨∃ g cap,v=.slice (some ⟨g,0,none⟩) ks.length cap/\ks.length<=cap/\cap<=9223372036854775807/\∀ i (hi:i<ks.length),w.cell? ⟨g,i,none⟩=some (.string ks[i]):=by
 rcases aX h with⟨hv,h0⟩|⟨g,cap,hv,h1,h2,h3,h4⟩
 ·exact .inl ⟨hv,List.length_eq_zero_iff.1 h0⟩
 ·refine .inr ⟨g,cap,hv,h3,by unfold maxLen at h4;omega,fun i hi=>?_⟩;rw[hv] at h;have:=h.cellAt i (by omega);rw[this];simp[hi]
def inH (hb:Nat) (v:Value) (dv:List (aU×Value)) (k:Nat):Prop:=k=hb∨v.ownBlock=some k∨∃ p∈dv,p.2.ownBlock=some k
theorem zM7 {w:World} {B hb:Nat} {Xc:Nat->Option Value} {v:Value} {dv:List (aU×Value)} (h:bP w B hb Xc v dv) {k:Nat} (hk:inH hb v dv k):k<w.heap.size:=by
 rcases hk with rfl|e|⟨p,hp,e⟩
 ·exact h.lt
 ·exact(h.own.lt k e).2
 ·exact((h.keys p hp).lt k e).2
theorem bP.kept {w w':World} {B hb:Nat} {Xc:Nat->Option Value} {v:Value} {dv:List (aU×Value)} (h:bP w B hb Xc v dv) (hk:∀ k,inH hb v dv k->w'.heap[k]?=w.heap[k]?):bP w' B hb Xc v dv where
 cell:=(b_ (w:=w) (hk hb (.inl rfl))).trans h.cell
 soft:=(World.frozen?_of_block (w:=w) (hk hb (.inl rfl))).trans h.soft
 lo:=h.lo
 own:=aI h.own fun k e=>hk k (.inr (.inl e))
 keys:=fun p hp=>aI (h.keys p hp) fun k e=>hk k (.inr (.inr ⟨p,hp,e⟩))
 off:=h.off
 offk:=h.offk
 apart:=h.apart
 pair:=h.pair
 rest:=fun j=>⟨fun hj=>(b_ (w:=w) (hk hb (.inl rfl))).trans ((h.rest j).1 hj),(World.frozen?_of_block (w:=w) (hk hb (.inl rfl))).trans (h.rest j).2⟩
def cmpI (x y:Int):Int:=if x<y then -1 else if y<x then 1 else 0
theorem zLT (x y:Int) (w:World):Calls p_ 245 #[.int .i64 x,.int .i64 y] w fun e w'=>e=.returned (.int .i64 (cmpI x y))/\w'=w:=by
 rcases Int.lt_trichotomy x y with h|h|h
 ·have e:cmpI x y=-1:=by simp[cmpI,h]
  have E:=hide e;clear e;go_enter Tryz.func245,Tryz.ntmps245;go_wp2;go_ret;exact⟨iJ E.out.symm,rfl⟩
 ·have e:cmpI x y=0:=by simp[cmpI,h]
  have E:=hide e;have h1:¬x<y:=by omega
  have h2:¬y<x:=by omega
  clear e h;go_enter Tryz.func245,Tryz.ntmps245;go_wp2;go_ret;exact⟨iJ E.out.symm,rfl⟩
 ·have e:cmpI x y=1:=by simp[cmpI,h];omega
  have E:=hide e;have h1:¬x<y:=by omega
  clear e;go_enter Tryz.func245,Tryz.ntmps245;go_wp2;go_ret;exact⟨iJ E.out.symm,rfl⟩
theorem pU (x y:Int) (v:Value) (w:World):Calls p_ 244 #[.agg #[.int .i64 x,v],.int .i64 y] w fun e w'=>e=.returned (.int .i64 (cmpI x y))/\Below w.heap.size w w':=by
 go_enter Tryz.func244,Tryz.ntmps244;go_wp2_with (go_at_call 245;refine(zLT _ _ _).mono ?_;rintro e w1 ⟨rfl,rfl⟩)
 go_ret;exact⟨rfl,a_ _ _⟩
theorem zK6 {x y:Int} (h:x<y):cmpI x y=-1:=by simp[cmpI,h]
theorem zMF {x y:Int} (h:y<=x):0<=cmpI x y/\cmpI x y<=1:=by
 unfold cmpI;rw[if_neg (by omega)];split<;>omega
theorem zMc (x y:Int):(cmpI x y==0)=(x==y):=by
 rw[Bool.eq_iff_iff];simp only[beq_iff_eq];unfold cmpI;split
 ·omega
 ·split<;>omega
def zN (w:World) (g:Nat) (dv:List (aU×Value)):Prop:=∀ i (hi:i<dv.length),w.cell? ⟨g,i*2,none⟩=some (.int .i64 dv[i].1.n)/\w.cell? ⟨g,i*2+1,none⟩=some dv[i].2
theorem zBy {w w':World} {g:Nat} {dv:List (aU×Value)} (hb:Below w.heap.size w w') (h:zN w g dv):zN w' g dv:=fun i hi=>⟨aA hb (h i hi).1,aA hb (h i hi).2⟩
def ofDV (dv:List (aU×Value)):List aU:=dv.map (·.1)
theorem zK9 {dv:List (aU×Value)} {n:Int} {i:Nat} (hp:posD (ofDV dv) n=i) (hi:i<dv.length):iN (ofDV dv) n=(dv[i].1.n==n):=by
 unfold iN;rw[hp,List.getElem?_eq_getElem (by simpa[ofDV] using hi)];simp[ofDV]
theorem zLp {dv:List (aU×Value)} {n:Int} {i:Nat} (hp:posD (ofDV dv) n=i) (hi:dv.length<=i):iN (ofDV dv) n=false:=by
 unfold iN;rw[hp,List.getElem?_eq_none (by simpa[ofDV] using hi)]
theorem zEI (dv:List (aU×Value)) (g cap:Nat) (n:Int) (w:World) (hl:zN w g dv) (hr:gS (ofDV dv)) (hn:dv.length<=1000000):
  Calls p_ 243 #[.slice (some ⟨g,0,none⟩) dv.length cap,.int .i64 n,.func (Fn.func 244) #[] #[]] w
   fun e w'=>e=.returned (.tuple #[.int .i64 (posD (ofDV dv) n),.bool (iN (ofDV dv) n)])/\Below w.heap.size w w':=by
 have HR:=hide hr;clear hr;go_enter Tryz.func243,Tryz.ntmps243;go_wp2
 go_loopw [9,10] (fun i j wr=>∃ p q:Nat,p<=q/\q<=dv.length/\i=.int .i64 p/\j=.int .i64 q/\(∀ m (hm:m<dv.length),m<p->dv[m].1.n<n)/\(∀ m (hm:m<dv.length),q<=m->n<=dv[m].1.n)/\Below w.heap.size w wr) (fun i j _=>(intOf j).toNat-(intOf i).toNat)
 case atStart=>exact⟨0,dv.length,Nat.zero_le _,n_ _,rfl,rfl,fun m hm h=>by omega,fun m hm h=>by omega,r_ _ _⟩
 case round=>
  obtain⟨p,q,hpq,hq,rfl,rfl,h1,h2,hB⟩:=hrel;have H1:=hide h1;have H2:=hide h2;clear h1 h2;by_cases hlt:p<q
  ·have hlt':(p:Int)<(q:Int):=by omega
   obtain⟨m,em⟩:∃ m,m=(p+q) / 2:=⟨_,rfl⟩;have hm:m<dv.length:=by omega
   have b1:p<=m:=by omega
   have b2:m<q:=by omega
   obtain⟨c0,c1⟩:=zBy hB hl m hm;have hmi:((p:Int)+(q:Int)) / 2=(m:Int):=by omega
   clear em;by_cases hc:dv[m].1.n<n
   ·have hcm:=zK6 hc;have N1:Hid (∀ k (hk:k<dv.length),k<m+1->dv[k].1.n<n):=fun k hk hk'=>by
     rcases Nat.lt_or_ge k m with h|h
     ·have h3:=nW HR.out (i:=k) (j:=m) (by simpa[ofDV] using hm) h;simp[ofDV] at h3;omega
     ·have e:k=m:=by omega
      subst e;exact hc
    clear hc;go_wp2_with (go_at_call 244;refine(pU _ _ _ _).mono ?_;rintro e w1 ⟨rfl,hb⟩;replace hB:=aB hB (n_ _) hb;clear hb)
    go_roundw
    case rel=>exact⟨m+1,q,by omega,hq,by go_num,rfl,N1.out,H2.out,hB⟩
    case measure=>simp[intOf];omega
   ·obtain⟨k0,k1⟩:=zMF (x:=dv[m].1.n) (y:=n) (by omega);have N2:Hid (∀ k (hk:k<dv.length),m<=k->n<=dv[k].1.n):=fun k hk hk'=>by
     rcases Nat.lt_or_ge m k with h|h
     ·have h3:=nW HR.out (i:=m) (j:=k) (by simpa[ofDV] using hk) h;simp[ofDV] at h3;omega
     ·have e:k=m:=by omega
      subst e;omega
    have hcf:¬cmpI dv[m].1.n n<0:=by omega
    clear hc;go_wp2_with (go_at_call 244;refine(pU _ _ _ _).mono ?_;rintro e w1 ⟨rfl,hb⟩;replace hB:=aB hB (n_ _) hb;clear hb)
    go_roundw
    case rel=>exact⟨p,m,by omega,by omega,rfl,rfl,H1.out,N2.out,hB⟩
    case measure=>simp[intOf];omega
  ·have hlt':¬(p:Int)<(q:Int):=by omega
   have epq:p=q:=by omega
   subst epq;have HP:=hide (zFd (ds:=ofDV dv) (n:=n) (i:=p) (by simpa[ofDV] using hq) (fun m hm h=>by simpa[ofDV] using H1.out m (by simpa[ofDV] using hm) h) (fun m hm h=>by simpa[ofDV] using H2.out m (by simpa[ofDV] using hm) h));by_cases hp:p<dv.length
   ·have HK:=hide (zK9 HP.out hp);have hp':(p:Int)<(dv.length:Int):=by omega
    obtain⟨c0,c1⟩:=zBy hB hl p hp;have HC:=hide (zMc dv[p].1.n n);go_wp2_with (go_at_call 244;refine(pU _ _ _ _).mono ?_;rintro e w1 ⟨rfl,hb⟩;replace hB:=aB hB (n_ _) hb;clear hb)
    go_ret2;exact⟨by rw[HP.out,HK.out,<-HC.out];rfl,hB⟩
   ·have HK:=hide (zLp HP.out (by omega));have hp':¬(p:Int)<(dv.length:Int):=by omega
    go_wp2;go_ret2;exact⟨by rw[HP.out,HK.out];rfl,hB⟩
theorem zEm (n:Int) (w:World):
  Calls p_ 243 #[.slice none 0 0,.int .i64 n,.func (Fn.func 244) #[] #[]] w
   fun e w'=>e=.returned (.tuple #[.int .i64 0,.bool false])/\w'=w:=by
 go_enter Tryz.func243,Tryz.ntmps243;go_wp2;refine wp_loop_rounds 1 ?_;rw[rounds_succ];go_wp2;go_ret2;exact⟨rfl,rfl⟩
theorem bP.deeds {w:World} {B hb:Nat} {Xc:Nat->Option Value} {v:Value} {dv:List (aU×Value)} (h:bP w B hb Xc v dv) {g cap:Nat} (hv:v=.slice (some ⟨g,0,none⟩) dv.length cap):zN w g dv:=by
 rcases h.form with⟨h1,_⟩|⟨g',cap',h1,_,_,_,_,h2⟩
 ·rw[h1] at hv;cases hv
 ·rw[h1] at hv;cases hv;exact fun i hi=>⟨(h2 i hi).1,(h2 i hi).2.1⟩
theorem tP (dv:List (aU×Value)) (B hb:Nat) {Xc:Nat->Option Value} (v:Value) (n:Int) (w:World) (h:bP w B hb Xc v dv) (hr:gS (ofDV dv)) (hn:dv.length<=1000000):
  Calls p_ 187 #[.pointer (some ⟨hb,2,none⟩),.int .i64 n] w fun e w'=>e=.returned (.tuple #[.int .i64 (posD (ofDV dv) n),.bool (iN (ofDV dv) n)])/\Below w.heap.size w w':=by
 have c:=h.cell;have HR:=hide hr;rcases h.form with⟨rfl,rfl⟩|⟨g,cap,rfl,_,_,_,_,_⟩
 ·clear hr;go_enter Tryz.func187,Tryz.ntmps187;go_wp2_with (go_at_call 243;refine(zEm _ _).mono ?_;rintro e w1 ⟨rfl,rfl⟩)
  go_ret2;exact⟨rfl,r_ _ _⟩
 ·have hd:=h.deeds rfl;clear hr;go_enter Tryz.func187,Tryz.ntmps187;go_wp2_with (go_at_call 243;refine(zEI dv g cap n _ hd HR.out hn).mono ?_;rintro e w1 ⟨rfl,hb⟩)
  go_ret2;exact⟨rfl,hb⟩
theorem lY (dv:List (aU×Value)) (B hb:Nat) {Xc:Nat->Option Value} (v:Value) (n:Int) (w:World) (h:bP w B hb Xc v dv) (hr:gS (ofDV dv)) (hn:dv.length<=1000000):
  Calls p_ 126 #[.pointer (some ⟨hb,2,none⟩),.int .i64 n] w fun e w'=>e=.returned (.int .i64 (cR (ofDV dv) n))/\Below w.heap.size w w':=by
 have hp:posD (ofDV dv) n<=1000000:=Nat.le_trans (zE3 _ _) (by simpa[ofDV] using hn)
 cases hk:iN (ofDV dv) n with
 | true=>
  have HA:=hide (show cR (ofDV dv) n=posD (ofDV dv) n+1 by simp[cR,hk]);have HR:=hide hr;have HK:=hide hk;clear hr hk;go_enter Tryz.func126,Tryz.ntmps126;go_wp2_with (go_at_call 187;refine(tP dv B hb v n _ h HR.out hn).mono ?_;rintro e w1 ⟨rfl,hb⟩;rw[HK.out])
  go_ret;exact⟨iJ (by rw[HA.out];omega),hb⟩
 | false=>
  have HA:=hide (show cR (ofDV dv) n=posD (ofDV dv) n by simp[cR,hk]);have HR:=hide hr;have HK:=hide hk;clear hr hk;go_enter Tryz.func126,Tryz.ntmps126;go_wp2_with (go_at_call 187;refine(tP dv B hb v n _ h HR.out hn).mono ?_;rintro e w1 ⟨rfl,hb⟩;rw[HK.out])
  go_ret;exact⟨iJ (by rw[HA.out]),hb⟩
structure EMem where
 eb:Nat
 sb:Nat
 db:Nat
 vb:Nat
 mb:Nat
 many:Nat
 D:DataW Value
 g:ByteArray->Value
 hv:Value
 dv:List (aU×Value)
 W:Nat->Nat×Value×Value
 Ts:Nat->Prop
 Q:Nat->Prop
def sesV (m:EMem) (f:Nat->Option VwL) (i:Nat):Value:=match f i with
 | none=>.pointer none
 | some _=>.pointer (some ⟨(m.W i).1,0,none⟩)
def engX (m:EMem) (f:Nat->Option VwL):Nat->Option Value:=fun j=>
 if j=0 then some (.pointer (some ⟨m.sb,0,none⟩)) else if j=1 then some (.pointer (some ⟨m.vb,0,none⟩)) else if 3<=j/\j<7 then some (sesV m f (j-3)) else none
def engF (m:EMem) (f:Nat->Option VwL):Nat->Nat->Prop
 | 0=>inH m.eb m.hv m.dv
 | 1=>m.Ts
 | 2=>inVS m.vb m.mb m.g
 | i+3=>fun k=>f i≠none/\inVW (m.W i).1 (m.W i).2.1 (m.W i).2.2 k
def allF (m:EMem) (f:Nat->Option VwL) (k:Nat):Prop:=∃ i,engF m f i k
structure EK (w:World) (B:Nat) (m:EMem) (s:ESt):Prop where
 hi:bP w B m.eb (engX m s.ses) m.hv m.dv
 sa:SA w B m.sb m.db m.Ts s.x
 vs:VS w B m.vb m.mb s.now m.many m.D m.g s.R
 vw:∀ i v,s.ses i=some v->VW w B (m.W i).1 m.vb v.n (m.W i).2.1 (m.W i).2.2 v.chs v.rds
 ds:ofDV m.dv=s.ds
 ap:∀ i j k,engF m s.ses i k->engF m s.ses j k->i=j
 mn:m.many<=2000*(s.c+1)
 s4:S4 s
def updF (F:Nat->Nat->Prop) (a:Nat) (S:Nat->Prop):Nat->Nat->Prop:=fun i=>if i=a then S else F i
theorem wZ {F:Nat->Nat->Prop} {w w':World} {a:Nat} {S':Nat->Prop} (hap:∀ i j k,F i k->F j k->i=j) (hlt:∀ i k,F i k->k<w.heap.size) (hfar:∀ k,k<w.heap.size->¬F a k->w'.heap[k]?=w.heap[k]?/\¬S' k):
  (∀ i j k,updF F a S' i k->updF F a S' j k->i=j)/\(∀ i k,i≠a->F i k->w'.heap[k]?=w.heap[k]?):=by
 have hf:∀ i k,i≠a->F i k->w'.heap[k]?=w.heap[k]?/\¬S' k:=fun i k hi hk=>hfar k (hlt i k hk) fun e=>hi (hap i a k hk e);refine⟨fun i j k hi hj=>?_,fun i k hi hk=>(hf i k hi hk).1⟩;unfold updF at hi hj;split at hi
 ·split at hj
  ·rename_i e1 e2;rw[e1,e2]
  ·rename_i e1 e2;exact absurd hi (hf j k e2 hj).2
 ·split at hj
  ·rename_i e1 e2;exact absurd hj (hf i k e1 hi).2
  ·exact hap i j k hi hj
theorem zAm {F:Nat->Nat->Prop} {w w':World} {B a:Nat} {S':Nat->Prop} (hb:Below B w w') (hfar:∀ k,k<w.heap.size->¬F a k->w'.heap[k]?=w.heap[k]?/\¬S' k):
  aG w w' B (fun k=>∃ i,F i k) (fun k=>∃ i,updF F a S' i k):=⟨hb,fun k hk hn=>by
 obtain⟨h1,h2⟩:=hfar k hk fun e=>hn ⟨a,e⟩;refine⟨h1,fun ⟨i,hi⟩=>?_⟩;unfold updF at hi;split at hi
 ·exact h2 hi
 ·exact hn ⟨i,hi⟩⟩
section
variable {w w':World} {B:Nat} {m:EMem} {s:ESt}
theorem EK.lt (h:EK w B m s) {i k:Nat} (hk:engF m s.ses i k):k<w.heap.size:=by
 match i,hk with
 | 0,hk=>exact zM7 h.hi hk
 | 1,hk=>exact h.sa.lt hk
 | 2,hk=>exact h.vs.lt hk
 | i+3,⟨h1,h2⟩=>
  cases hv:s.ses i with
  | none=>exact absurd hv h1
  | some v=>exact(h.vw i v hv).lt h2
theorem EK.low (h:EK w B m s) {i k:Nat} (hk:engF m s.ses i k):B<=k:=by
 match i,hk with
 | 0,hk=>
  rcases hk with rfl|e|⟨p,hp,e⟩
  ·exact h.hi.lo
  ·exact(h.hi.own.lt k e).1
  ·exact((h.hi.keys p hp).lt k e).1
 | 1,hk=>exact h.sa.low hk
 | 2,hk=>
  rcases hk with rfl|rfl|⟨key,e⟩
  ·exact h.vs.lov
  ·exact h.vs.lom
  ·exact(l_ (h.vs.rows key) k e).1
 | i+3,⟨h1,h2⟩=>
  cases hv:s.ses i with
  | none=>exact absurd hv h1
  | some v=>exact(h.vw i v hv).low h2
theorem EK.blo (h:EK w B m s):B<=w.heap.size:=h.sa.blo
theorem EK.kept (h:EK w B m s) (hs:w.heap.size<=w'.heap.size) (hk:∀ k,allF m s.ses k->w'.heap[k]?=w.heap[k]?):EK w' B m s where
 hi:=h.hi.kept fun k e=>hk k ⟨0,e⟩
 sa:=h.sa.kept hs fun k e=>hk k ⟨1,e⟩
 vs:=h.vs.kept fun k e=>hk k ⟨2,e⟩
 vw:=fun i v hv=>(h.vw i v hv).kept fun k e=>hk k ⟨i+3,by rw[hv];exact nofun,e⟩
 ds:=h.ds
 ap:=h.ap
 mn:=h.mn
 s4:=h.s4
theorem EK.on (h:EK w B m s) (hb:Below w.heap.size w w'):EK w' B m s:=h.kept hb.size fun k ⟨_,e⟩=>hb.block k (h.lt e)
theorem EK.hist (h:EK w B m s) {v':Value} {dv':List (aU×Value)} (hH:bP w' B m.eb (engX m s.ses) v' dv') (hb:Below B w w') (hf:∀ j,j<w.heap.size->¬inH m.eb m.hv m.dv j->w'.heap[j]?=w.heap[j]?/\¬inH m.eb v' dv' j) {ds':List aU} (hd:ofDV dv'=ds'):
  EK w' B { m with hv:=v',dv:=dv' } { s with ds:=ds' }/\aG w w' B (allF m s.ses) (allF { m with hv:=v',dv:=dv' } s.ses)/\∀ i k,i≠0->engF m s.ses i k->w'.heap[k]?=w.heap[k]?:=by
 have eF:engF { m with hv:=v',dv:=dv' } s.ses=updF (engF m s.ses) 0 (inH m.eb v' dv'):=by
  funext i
  match i with
  | 0=>rfl
  | 1=>rfl
  | 2=>rfl
  | i+3=>rfl
 obtain⟨f1,f2⟩:=wZ (F:=engF m s.ses) (a:=0) (S':=inH m.eb v' dv') h.ap (fun i k e=>h.lt e) hf;refine⟨⟨hH,h.sa.kept hb.size fun k e=>f2 1 k (by decide) e,h.vs.kept fun k e=>f2 2 k (by decide) e,fun i v hv=>(h.vw i v hv).kept fun k e=>f2 (i+3) k (by omega) ⟨by rw[hv];exact nofun,e⟩,hd,?_,h.mn,h.s4⟩,?_,f2⟩
 ·show ∀ i j k,engF { m with hv:=v',dv:=dv' } s.ses i k->engF { m with hv:=v',dv:=dv' } s.ses j k->i=j;rw[eF];exact f1
 ·have:=zAm (F:=engF m s.ses) (a:=0) (S':=inH m.eb v' dv') hb hf;unfold allF;rw[eF];exact this
theorem EK.store (h:EK w B m s) {x':SSt} (ha:ActS w w' B m.sb m.db m.Ts x'):
  ∃ T',EK w' B { m with Ts:=T' } { s with x:=x' }/\aG w w' B (allF m s.ses) (allF { m with Ts:=T' } s.ses)/\∀ i k,i≠1->engF m s.ses i k->w'.heap[k]?=w.heap[k]?:=by
 obtain⟨T',hsa,hst⟩:=ha;have eF:engF { m with Ts:=T' } s.ses=updF (engF m s.ses) 1 T':=by
  funext i
  match i with
  | 0=>rfl
  | 1=>rfl
  | 2=>rfl
  | i+3=>rfl
 obtain⟨f1,f2⟩:=wZ (F:=engF m s.ses) (a:=1) (S':=T') h.ap (fun i k e=>h.lt e) hst.far;refine⟨T',⟨h.hi.kept fun k e=>f2 0 k (by decide) e,hsa,h.vs.kept fun k e=>f2 2 k (by decide) e,fun i v hv=>(h.vw i v hv).kept fun k e=>f2 (i+3) k (by omega) ⟨by rw[hv];exact nofun,e⟩,h.ds,?_,h.mn,h.s4⟩,?_,f2⟩
 ·show ∀ i j k,engF { m with Ts:=T' } s.ses i k->engF { m with Ts:=T' } s.ses j k->i=j;rw[eF];exact f1
 ·have:=zAm (F:=engF m s.ses) (a:=1) (S':=T') hst.bel hst.far;unfold allF;rw[eF];exact this
theorem EK.vers (h:EK w B m s) {n':Nat} {D':DataW Value} {g':ByteArray->Value} {R':ByteArray->List Ver} {now':Nat} {c':Nat} (hv':VS w' B m.vb m.mb (now':Int) n' D' g' R') (hb:Below B w w') (hf:∀ j,j<w.heap.size->¬inVS m.vb m.mb m.g j->w'.heap[j]?=w.heap[j]?/\¬inVS m.vb m.mb g' j) (hn:n'<=2000*(c'+1)):
  EK w' B { m with many:=n',D:=D',g:=g' } { s with now:=now',R:=R',c:=c' }/\aG w w' B (allF m s.ses) (allF { m with many:=n',D:=D',g:=g' } s.ses)/\∀ i k,i≠2->engF m s.ses i k->w'.heap[k]?=w.heap[k]?:=by
 have eF:engF { m with many:=n',D:=D',g:=g' } s.ses=updF (engF m s.ses) 2 (inVS m.vb m.mb g'):=by
  funext i
  match i with
  | 0=>rfl
  | 1=>rfl
  | 2=>rfl
  | i+3=>rfl
 obtain⟨f1,f2⟩:=wZ (F:=engF m s.ses) (a:=2) (S':=inVS m.vb m.mb g') h.ap (fun i k e=>h.lt e) hf;refine⟨⟨h.hi.kept fun k e=>f2 0 k (by decide) e,h.sa.kept hb.size fun k e=>f2 1 k (by decide) e,hv',fun i v hv=>(h.vw i v hv).kept fun k e=>f2 (i+3) k (by omega) ⟨by rw[hv];exact nofun,e⟩,h.ds,?_,hn,h.s4⟩,?_,f2⟩
 ·show ∀ i j k,engF { m with many:=n',D:=D',g:=g' } s.ses i k->engF { m with many:=n',D:=D',g:=g' } s.ses j k->i=j;rw[eF];exact f1
 ·have:=zAm (F:=engF m s.ses) (a:=2) (S':=inVS m.vb m.mb g') hb hf;unfold allF;rw[eF];exact this
end
def updW (f:Nat->Nat×Value×Value) (i:Nat) (x:Nat×Value×Value):Nat->Nat×Value×Value:=fun j=>if j=i then x else f j
theorem qH (f:Nat->Nat×Value×Value) (i:Nat) (x:Nat×Value×Value):updW f i x i=x:=if_pos rfl
theorem oV {f:Nat->Nat×Value×Value} {i j:Nat} (x:Nat×Value×Value) (h:j≠i):updW f i x j=f j:=if_neg h
theorem qW {m:EMem} {f:Nat->Option VwL} {i:Nat} {x:Nat×Value×Value} {v:VwL}:engF { m with W:=updW m.W i x } (setS f i (some v))=updF (engF m f) (i+3) (inVW x.1 x.2.1 x.2.2):=by
 funext j
 match j with
 | 0=>exact(if_neg (by omega)).symm
 | 1=>exact(if_neg (by omega)).symm
 | 2=>exact(if_neg (by omega)).symm
 | j+3=>
  unfold updF;by_cases e:j=i
  ·subst e;rw[if_pos rfl];funext k;show(setS f j (some v) j≠none/\inVW (updW m.W j x j).1 (updW m.W j x j).2.1 (updW m.W j x j).2.2 k)=_;rw[hE,qH];exact propext ⟨fun h=>h.2,fun h=>⟨nofun,h⟩⟩
  ·rw[if_neg (by omega)];funext k;show(setS f i (some v) j≠none/\inVW (updW m.W i x j).1 (updW m.W i x j).2.1 (updW m.W i x j).2.2 k)=_;rw[hU _ e,oV _ e];rfl
theorem zA1 {m:EMem} {f:Nat->Option VwL} {i:Nat}:engF m (setS f i none)=updF (engF m f) (i+3) (fun _=>False):=by
 funext j
 match j with
 | 0=>exact(if_neg (by omega)).symm
 | 1=>exact(if_neg (by omega)).symm
 | 2=>exact(if_neg (by omega)).symm
 | j+3=>
  unfold updF;by_cases e:j=i
  ·subst e;rw[if_pos rfl];funext k;show(setS f j none j≠none/\inVW _ _ _ k)=_;rw[hE];exact propext ⟨fun h=>absurd rfl h.1,fun h=>h.elim⟩
  ·rw[if_neg (by omega)];funext k;show(setS f i none j≠none/\inVW _ _ _ k)=_;rw[hU _ e];rfl
theorem kI {m:EMem} {f:Nat->Option VwL} {i:Nat} (h:f i=none):sesV m f i=.pointer none:=by unfold sesV;rw[h]
theorem kE {m:EMem} {f:Nat->Option VwL} {i:Nat} {v:VwL} (h:f i=some v):sesV m f i=.pointer (some ⟨(m.W i).1,0,none⟩):=by unfold sesV;rw[h]
theorem tK {m:EMem} {f:Nat->Option VwL} {i:Nat} {x:Nat×Value×Value} {v:VwL}:sesV { m with W:=updW m.W i x } (setS f i (some v)) i=.pointer (some ⟨x.1,0,none⟩):=by
 unfold sesV;rw[hE];dsimp only;rw[qH]
theorem zAJ {m:EMem} {f:Nat->Option VwL} {i j:Nat} {x:Nat×Value×Value} {o:Option VwL} (h:j≠i):sesV { m with W:=updW m.W i x } (setS f i o) j=sesV m f j:=by
 unfold sesV;rw[hU _ h];dsimp only;rw[oV _ h]
theorem lQ {m:EMem} {f:Nat->Option VwL} {i:Nat} (h:i<4):engX m f (3+i)=some (sesV m f i):=by
 unfold engX;rw[if_neg (by omega),if_neg (by omega),if_pos (by omega)];congr 2;omega
theorem zDk {m m':EMem} {f f':Nat->Option VwL} {i:Nat} (h1:m'.sb=m.sb) (h2:m'.vb=m.vb) (h3:∀ j,j≠i->sesV m' f' j=sesV m f j) {j:Nat} (hj:j≠3+i):engX m' f' j=engX m f j:=by
 unfold engX;rw[h1,h2];split
 ·rfl
 ·split
  ·rfl
  ·split
   ·rw[h3 _ (by omega)]
   ·rfl
theorem zDm {m:EMem} {f:Nat->Option VwL} {i j:Nat} {x:Nat×Value×Value} {o:Option VwL} (hj:j≠3+i):engX { m with W:=updW m.W i x } (setS f i o) j=engX m f j:=zDk (m:=m) (m':={ m with W:=updW m.W i x }) (f:=f) (f':=setS f i o) (i:=i) rfl rfl (fun _ h=>zAJ h) hj
section
variable {w w':World} {B:Nat} {m:EMem} {s:ESt}
theorem EK.cell (h:EK w B m s) {i:Nat} (hi:i<4):w.cell? ⟨m.eb,3+i,none⟩=some (sesV m s.ses i):=((h.hi.rest (3+i)).1 (by omega)).trans (lQ hi)
theorem EK.cell0 (h:EK w B m s):w.cell? ⟨m.eb,0,none⟩=some (.pointer (some ⟨m.sb,0,none⟩)):=(h.hi.rest 0).1 (by decide)
theorem EK.cell1 (h:EK w B m s):w.cell? ⟨m.eb,1,none⟩=some (.pointer (some ⟨m.vb,0,none⟩)):=(h.hi.rest 1).1 (by decide)
theorem EK.ebF (_h:EK w B m s):engF m s.ses 0 m.eb:=.inl rfl
theorem zBO {X X':Nat->Option Value} {eb j:Nat} {v u:Value} {dv:List (aU×Value)} (h:bP w B eb X v dv) (hj:j≠2) (hX:X' j=some u) (hc:∃ u0,X j=some u0) (hX2:∀ k,k≠j->X' k=X k):bP (w.setCell ⟨eb,j,none⟩ u) B eb X' v dv where
 cell:=(t_ _ _ _ _ (by simp<;>omega)).trans h.cell
 soft:=by rw[World.frozen?_setCell];exact h.soft
 lo:=h.lo
 own:=aI h.own fun k e=>h_ _ _ _ _ fun e'=>h.off (by rw[e,e'])
 keys:=fun p hp=>aI (h.keys p hp) fun k e=>h_ _ _ _ _ fun e'=>h.offk p hp (by rw[e,e'])
 off:=h.off
 offk:=h.offk
 apart:=h.apart
 pair:=h.pair
 rest:=fun k=>⟨fun hk=>by
  by_cases e:k=j
  ·subst e;obtain⟨u0,hu⟩:=hc;rw[hX];exact u_ _ _ _ (((h.rest k).1 hk).trans hu)
  ·rw[hX2 k e];exact(t_ _ _ _ _ (by simp<;>omega)).trans ((h.rest k).1 hk),by rw[World.frozen?_setCell];exact(h.rest k).2⟩
theorem EK.drop (h:EK w B m s) {i:Nat} (hi:i<4):EK (w.setCell ⟨m.eb,3+i,none⟩ (.pointer none)) B m (nU s i)/\aG w (w.setCell ⟨m.eb,3+i,none⟩ (.pointer none)) B (allF m s.ses) (allF m (nU s i).ses):=by
 have hs:∀ k,k≠m.eb->(w.setCell ⟨m.eb,3+i,none⟩ (.pointer none)).heap[k]?=w.heap[k]?:=fun k hk=>h_ _ _ _ _ hk;have hne:∀ i k,i≠0->engF m s.ses i k->k≠m.eb:=fun i k hi hk e=>hi (h.ap i 0 k hk (by rw[e];exact h.ebF));have hX:bP (w.setCell ⟨m.eb,3+i,none⟩ (.pointer none)) B m.eb (engX m (setS s.ses i none)) m.hv m.dv:=zBO h.hi (by omega) (by rw[lQ hi,kI (hE _ _ _)]) ⟨_,lQ hi⟩ fun k hk=>zDk rfl rfl (fun j hj=>by unfold sesV;rw[hU _ hj]) hk;refine⟨⟨hX,h.sa.kept (by simp) fun k e=>hs k (hne 1 k (by decide) e),h.vs.kept fun k e=>hs k (hne 2 k (by decide) e),fun j v hv=>?_,h.ds,?_,h.mn,h.s4.set hi none⟩,?_⟩
 ·have hv':=zBn hv;exact(h.vw j v hv').kept fun k e=>hs k (hne (j+3) k (by omega) ⟨by rw[hv'];exact nofun,e⟩)
 ·show ∀ a b k,engF m (setS s.ses i none) a k->engF m (setS s.ses i none) b k->a=b;rw[zA1];intro a b k ha hb;unfold updF at ha hb;split at ha
  ·exact ha.elim
  ·split at hb
   ·exact hb.elim
   ·exact h.ap a b k ha hb
 ·refine⟨(r_ B w).setCell (p:=⟨m.eb,3+i,none⟩) h.hi.lo _,fun k hk hn=>⟨hs k fun e=>hn ⟨0,by rw[e];exact h.ebF⟩,?_⟩⟩;rintro⟨a,ha⟩;have ha':engF m (setS s.ses i none) a k:=ha;rw[zA1] at ha';unfold updF at ha';split at ha'
  ·exact ha'
  ·exact hn ⟨a,ha'⟩
theorem EK.begun (h:EK w B m s) {w1:World} {i wb:Nat} (hi:i<4) (h0:s.ses i=none) (hv:VW w1 w.heap.size wb m.vb s.now (.slice none 0 0) (.slice none 0 0) [] []) (hb:Below w.heap.size w w1):
  EK (w1.setCell ⟨m.eb,3+i,none⟩ (.pointer (some ⟨wb,0,none⟩))) B { m with W:=updW m.W i (wb,.slice none 0 0,.slice none 0 0) } (dX s i)/\aG w (w1.setCell ⟨m.eb,3+i,none⟩ (.pointer (some ⟨wb,0,none⟩))) B (allF m s.ses) (allF { m with W:=updW m.W i (wb,.slice none 0 0,.slice none 0 0) } (dX s i).ses):=by
 have h1:=h.on hb;have hs:∀ k,k≠m.eb->(w1.setCell ⟨m.eb,3+i,none⟩ (.pointer (some ⟨wb,0,none⟩))).heap[k]?=w1.heap[k]?:=fun k hk=>h_ _ _ _ _ hk;have hne:∀ i k,i≠0->engF m s.ses i k->k≠m.eb:=fun i k hi hk e=>hi (h.ap i 0 k hk (by rw[e];exact h.ebF));have hin:∀ k,inVW wb (.slice none 0 0) (.slice none 0 0) k->w.heap.size<=k:=fun k e=>hv.low e;have hX:bP (w1.setCell ⟨m.eb,3+i,none⟩ (.pointer (some ⟨wb,0,none⟩))) B m.eb (engX { m with W:=updW m.W i (wb,.slice none 0 0,.slice none 0 0) } (setS s.ses i (some ⟨aS s.x.rows,s.now,[],[]⟩))) m.hv m.dv:=zBO h1.hi (by omega) (by
   rw[lQ hi,tK]) ⟨_,lQ hi⟩ fun k hk=>zDm hk
 refine⟨⟨hX,h1.sa.kept (by simp) fun k e=>hs k (hne 1 k (by decide) e),h1.vs.kept fun k e=>hs k (hne 2 k (by decide) e),fun j v hj=>?_,h.ds,?_,h.mn,h.s4.set hi _⟩,?_⟩
 ·have hj':setS s.ses i (some ⟨aS s.x.rows,s.now,[],[]⟩) j=some v:=hj;show VW _ B (updW m.W i _ j).1 m.vb v.n (updW m.W i _ j).2.1 (updW m.W i _ j).2.2 v.chs v.rds;by_cases e:j=i
  ·subst e;rw[hE] at hj';cases hj';rw[qH];refine(hv.down h.blo).kept fun k e=>hs k fun e'=>?_;have:=hin k e;have:=h.lt h.ebF;omega
  ·rw[hU _ e] at hj';rw[oV _ e];exact(h1.vw j v hj').kept fun k e=>hs k (hne (j+3) k (by omega) ⟨by rw[hj'];exact nofun,e⟩)
 ·show ∀ a b k,engF { m with W:=updW m.W i (wb,.slice none 0 0,.slice none 0 0) } (setS s.ses i _) a k->engF { m with W:=updW m.W i (wb,.slice none 0 0,.slice none 0 0) } (setS s.ses i _) b k->a=b;rw[qW];intro a b k ha hb';unfold updF at ha hb';split at ha
  ·split at hb'
   ·rename_i e1 e2;rw[e1,e2]
   ·have:=hin k ha;have:=h.lt hb';omega
  ·split at hb'
   ·have:=hin k hb';have:=h.lt ha;omega
   ·exact h.ap a b k ha hb'
 ·refine⟨(hb.mono h.blo).setCell (p:=⟨m.eb,3+i,none⟩) h.hi.lo _,fun k hk hn=>⟨(hs k fun e=>hn ⟨0,by rw[e];exact h.ebF⟩).trans (hb.block k hk),?_⟩⟩;rintro⟨a,ha⟩;have ha':engF { m with W:=updW m.W i (wb,.slice none 0 0,.slice none 0 0) } (setS s.ses i (some ⟨aS s.x.rows,s.now,[],[]⟩)) a k:=ha;rw[qW] at ha';unfold updF at ha';split at ha'
  ·have:=hin k ha';omega
  ·exact hn ⟨a,ha'⟩
def snE (B:Nat) (m:EMem) (s:ESt) (n:Nat):Sn:=⟨n,B,m.vb,m.mb,m.many,s.now,m.D,m.g,s.R⟩
def inPV (m:EMem) (i k:Nat):Prop:=inVW (m.W i).1 (m.W i).2.1 (m.W i).2.2 k∨inVS m.vb m.mb m.g k
theorem EK.pv (h:EK w B m s) (ok:EOk s) {i:Nat} {v:VwL} (hv:s.ses i=some v) (hc:s.c<=190):PV w B (m.W i).1 (inPV m i) v.P (snE B m s v.n) v.chs v.rds:=by
 have ho:=ok.ses i v hv;have hn:=h.mn;refine⟨_,_,h.vs,h.vw i v hv,rfl,fun k h1 h2=>?_,ho.say,by show m.many<=1000000;omega,fun key=>by have:=ok.rl key;have:=ok.nc;show(s.R key).length<=1000000;omega,ho.ov,h.blo⟩;have:=h.ap (i+3) 2 k ⟨by rw[hv];exact nofun,h2⟩ h1;omega
theorem EK.view (h:EK w B m s) {i:Nat} {v:VwL} (hv:s.ses i=some v) (hi:i<4) {S':Nat->Prop} {chs:List Chg} {rds:Rws} (hp:PV w' B (m.W i).1 S' v.P (snE B m s v.n) chs rds) (hst:aG w w' B (inPV m i) S'):
  ∃ x,x.1=(m.W i).1/\EK w' B { m with W:=updW m.W i x } (jU s i v chs rds)/\aG w w' B (allF m s.ses) (allF { m with W:=updW m.W i x } (jU s i v chs rds).ses):=by
 obtain⟨cv,rv,hvs,hvw,hS,hap,_⟩:=hp;subst hS;have hvn:engF m s.ses (i+3)=inVW (m.W i).1 (m.W i).2.1 (m.W i).2.2:=by
  funext k;exact propext ⟨fun h=>h.2,fun h=>⟨by rw[hv];exact nofun,h⟩⟩
 have hfar:∀ a k,a≠i+3->a≠2->engF m s.ses a k->w'.heap[k]?=w.heap[k]?/\¬(inVW (m.W i).1 cv rv k∨inVS m.vb m.mb m.g k):=fun a k h1 h2 hk=>by
  refine hst.far k (h.lt hk) ?_;rintro(e|e)
  ·exact h1 (h.ap a (i+3) k hk (by rw[hvn];exact e))
  ·exact h2 (h.ap a 2 k hk e)
 have hX:engX { m with W:=updW m.W i ((m.W i).1,cv,rv) } (setS s.ses i (some ⟨v.P,v.n,chs,rds⟩))=engX m s.ses:=by
  funext j;by_cases e:j=3+i
  ·subst e;rw[lQ hi,lQ hi,tK,kE hv]
  ·exact zDm e
 refine⟨((m.W i).1,cv,rv),rfl,⟨?_,h.sa.kept hst.bel.size fun k e=>(hfar 1 k (by omega) (by decide) e).1,hvs,fun j u hj=>?_,h.ds,?_,h.mn,h.s4.set hi _⟩,?_⟩
 ·show bP w' B m.eb (engX { m with W:=updW m.W i ((m.W i).1,cv,rv) } (setS s.ses i (some ⟨v.P,v.n,chs,rds⟩))) m.hv m.dv;rw[hX];exact h.hi.kept fun k e=>(hfar 0 k (by omega) (by decide) e).1
 ·have hj':setS s.ses i (some ⟨v.P,v.n,chs,rds⟩) j=some u:=hj;show VW _ B (updW m.W i _ j).1 m.vb u.n (updW m.W i _ j).2.1 (updW m.W i _ j).2.2 u.chs u.rds;by_cases e:j=i
  ·subst e;rw[hE] at hj';cases hj';rw[qH];exact hvw
  ·rw[hU _ e] at hj';rw[oV _ e];exact(h.vw j u hj').kept fun k e'=>(hfar (j+3) k (by omega) (by omega) ⟨by rw[hj'];exact nofun,e'⟩).1
 ·show ∀ a b k,engF { m with W:=updW m.W i ((m.W i).1,cv,rv) } (setS s.ses i (some ⟨v.P,v.n,chs,rds⟩)) a k->engF { m with W:=updW m.W i ((m.W i).1,cv,rv) } (setS s.ses i (some ⟨v.P,v.n,chs,rds⟩)) b k->a=b;rw[qW];have key:∀ a k,a≠i+3->engF m s.ses a k->¬inVW (m.W i).1 cv rv k:=fun a k ha hk e=>by
   by_cases e2:a=2
   ·subst e2;exact hap k hk e
   ·exact(hfar a k ha e2 hk).2 (.inl e)
  intro a b k ha hb';unfold updF at ha hb';split at ha
  ·split at hb'
   ·rename_i e1 e2;rw[e1,e2]
   ·rename_i e1 e2;exact absurd ha (key b k e2 hb')
  ·split at hb'
   ·rename_i e1 e2;exact absurd hb' (key a k e1 ha)
   ·exact h.ap a b k ha hb'
 ·refine⟨hst.bel,fun k hk hn=>?_⟩;obtain⟨q1,q2⟩:=hst.far k hk fun e=>hn (e.elim (fun e=>⟨i+3,by rw[hvn];exact e⟩) fun e=>⟨2,e⟩);refine⟨q1,?_⟩;rintro⟨a,ha⟩;have ha':engF { m with W:=updW m.W i ((m.W i).1,cv,rv) } (setS s.ses i (some ⟨v.P,v.n,chs,rds⟩)) a k:=ha;rw[qW] at ha';unfold updF at ha';split at ha'
  ·exact q2 (.inl ha')
  ·exact hn ⟨a,ha'⟩
end
def zOv (s:ESt) (m' m:EMem):Prop:=m'.db=m.db/\∀ j,s.ses j≠none->(m'.W j).1=(m.W j).1
def ActE (w w':World) (B:Nat) (m:EMem) (s s':ESt):Prop:=∃ m',EK w' B m' s'/\m'.eb=m.eb/\zOv s m' m/\aG w w' B (allF m s.ses) (allF m' s'.ses)
section
variable {w w' w1:World} {B:Nat} {m m1:EMem} {s s1 s':ESt}
theorem EK.stay (h:EK w B m s) (hb:Below w.heap.size w w'):ActE w w' B m s s:=⟨m,h.on hb,rfl,⟨rfl,fun _ _=>rfl⟩,.on h.blo hb⟩
end
def lO (x:ActL):List Value:=[.string x.kind,.int .i64 x.a,.int .i64 x.b,.int .i64 x.c,.int .u64 x.k,.string x.s,.string x.t,.slice x.ca x.chs.length x.cc,.slice x.sa x.sps.length x.sc]
theorem zN7 (x:ActL):(lO x).length=9:=rfl
theorem zHw (x:ActL):∀ u∈lO x,u.oneCell'=true:=by
 intro u hu;simp only[lO,List.mem_cons,List.not_mem_nil,or_false] at hu;rcases hu with rfl|rfl|rfl|rfl|rfl|rfl|rfl|rfl|rfl<;>rfl
def zLN (w:World) (N:Nat) (v:Value) (l:List ActL):Prop:=w.ownsRow N 39 9 v l.length (l.flatMap lO)
def zHb (w:World) (N:Nat) (v:Value) (l:List ByteArray):Prop:=w.ownsRow N 9 1 v l.length (l.map v_)
structure DVal where
 d:jR
 av:Value
 sv:Value
def noV:DVal:=⟨noD,.slice none 0 0,.slice none 0 0⟩
def oF (x:DVal):List Value:=[.int .i64 (x.d.at_:Int),.bool x.d.reads,x.av,x.sv]
theorem zN2 (x:DVal):(oF x).length=4:=rfl
def zLP (w:World) (N:Nat) (v:Value) (l:List DVal):Prop:=w.ownsRow N 73 4 v l.length (l.flatMap oF)
def dH (T:Nat->Prop) (pb:Nat) (L:Nat->Prop) (cur:Nat->DVal) (ov:Value):Nat->Nat->Prop
 | 0=>T
 | 1=>fun k=>k=pb
 | 2=>fun k=>ov.ownBlock=some k
 | n+3=>fun k=>n<8/\L (n / 2)/\(if n % 2=0 then (cur (n / 2)).av.ownBlock=some k else (cur (n / 2)).sv.ownBlock=some k)
def qJ (w:World) (N:Nat) (x:DVal):Prop:=zLN w N x.av x.d.acts/\zHb w N x.sv x.d.said
structure PM (w:World) (N pb:Nat) (T:Nat->Prop) (L:Nat->Prop) (cur:Nat->DVal) (ov:Value) (outs:List DVal):Prop where
 cells:∀ i,i<4->w.cell? ⟨pb,i*4,none⟩=some (.int .i64 ((cur i).d.at_:Int))/\w.cell? ⟨pb,i*4+1,none⟩=some (.bool (cur i).d.reads)/\w.cell? ⟨pb,i*4+2,none⟩=some (cur i).av/\w.cell? ⟨pb,i*4+3,none⟩=some (cur i).sv
 soft:∀ j,w.frozen? ⟨pb,j,none⟩=false
 plo:N<=pb
 rows:∀ i,i<4->L i->qJ w N (cur i)
 out:zLP w N ov outs
 kept:∀ x∈outs,qJ w N x
 ap:∀ a b k,dH T pb L cur ov a k->dH T pb L cur ov b k->a=b
 kap:∀ x∈outs,∀ k,(x.av.ownBlock=some k∨x.sv.ownBlock=some k)->∀ a,¬dH T pb L cur ov a k
 tlt:∀ k,T k->k<w.heap.size
 wlo:N<=w.heap.size
theorem gZ {w w':World} {N:Nat} {x:DVal} (h:qJ w N x) (hk:∀ k,(x.av.ownBlock=some k∨x.sv.ownBlock=some k)->w'.heap[k]?=w.heap[k]?):qJ w' N x:=
 ⟨aI h.1 fun k e=>hk k (.inl e),aI h.2 fun k e=>hk k (.inr e)⟩
theorem pW {w:World} {N:Nat} {x:DVal} (h:qJ w N x) {k:Nat} (hk:x.av.ownBlock=some k∨x.sv.ownBlock=some k):N<=k/\k<w.heap.size:=
 hk.elim (fun e=>l_ h.1 k e) fun e=>l_ h.2 k e
section
variable {w w':World} {N pb:Nat} {T T':Nat->Prop} {L:Nat->Prop} {cur:Nat->DVal} {ov:Value} {outs:List DVal}
theorem PM.pblt (h:PM w N pb T L cur ov outs):pb<w.heap.size:=World.block_lt_of_cell? _ _ (h.cells 0 (by decide)).1
theorem PM.lt (h:PM w N pb T L cur ov outs) {a k:Nat} (hk:dH T pb L cur ov a k):k<w.heap.size:=by
 match a,hk with
 | 0,hk=>exact h.tlt k hk
 | 1,hk=>have e:k=pb:=hk;rw[e];exact h.pblt
 | 2,hk=>exact(l_ h.out k hk).2
 | n+3,⟨h1,h2,h3⟩=>
  have hr:=h.rows (n / 2) (by omega) h2;split at h3
  ·exact(pW hr (.inl h3)).2
  ·exact(pW hr (.inr h3)).2
theorem fP {i k:Nat} (hi:i<4) (hL:L i) (hk:(cur i).av.ownBlock=some k):dH T pb L cur ov (2*i+3) k:=by
 have e1:2*i / 2=i:=by omega
 have e2:2*i % 2=0:=by omega
 show 2*i<8/\L (2*i / 2)/\_;rw[e1,e2];exact⟨by omega,hL,hk⟩
theorem gH {i k:Nat} (hi:i<4) (hL:L i) (hk:(cur i).sv.ownBlock=some k):dH T pb L cur ov (2*i+1+3) k:=by
 have e1:(2*i+1) / 2=i:=by omega
 have e2:(2*i+1) % 2=1:=by omega
 show 2*i+1<8/\L ((2*i+1) / 2)/\_;rw[e1,e2];exact⟨by omega,hL,hk⟩
theorem zDS {n k:Nat} (h:dH T pb L cur ov (n+3) k):n<8/\L (n / 2)/\((n=2*(n / 2)/\(cur (n / 2)).av.ownBlock=some k)∨(n=2*(n / 2)+1/\(cur (n / 2)).sv.ownBlock=some k)):=by
 obtain⟨h1,h2,h3⟩:=h;refine⟨h1,h2,?_⟩;split at h3
 ·exact .inl ⟨by omega,h3⟩
 ·exact .inr ⟨by omega,h3⟩
theorem PM.part (h:PM w N pb T L cur ov outs) {B:Nat} {S S':Nat->Prop} (hst:aG w w' B S S') (hS:∀ k,S k->T k) (hT:∀ k,T' k->T k/\¬S k∨S' k) (hlt:∀ k,S' k->k<w'.heap.size):PM w' N pb T' L cur ov outs:=by
 have hb:=hst.bel;have far:∀ k,k<w.heap.size->¬T k->w'.heap[k]?=w.heap[k]?/\¬T' k:=fun k hk hn=>by
  obtain⟨a,b⟩:=hst.far k hk fun e=>hn (hS k e);exact⟨a,fun e=>(hT k e).elim (fun e=>hn e.1) b⟩
 have oth:∀ a k,a≠0->dH T pb L cur ov a k->w'.heap[k]?=w.heap[k]?/\¬T' k:=fun a k ha hk=>far k (h.lt hk) fun e=>ha (h.ap a 0 k hk e);have hpb:=(oth 1 pb (by decide) rfl).1;have same:∀ a k,a≠0->dH T' pb L cur ov a k->dH T pb L cur ov a k:=fun a k ha hk=>by
  match a,ha,hk with
  | 1,_,hk=>exact hk
  | 2,_,hk=>exact hk
  | n+3,_,hk=>exact hk
 exact {
  cells:=fun i hi=>⟨(b_ (w:=w) hpb).trans (h.cells i hi).1,(b_ (w:=w) hpb).trans (h.cells i hi).2.1,(b_ (w:=w) hpb).trans (h.cells i hi).2.2.1,(b_ (w:=w) hpb).trans (h.cells i hi).2.2.2⟩
  soft:=fun j=>(World.frozen?_of_block (w:=w) hpb).trans (h.soft j)
  plo:=h.plo
  rows:=fun i hi hL=>gZ (h.rows i hi hL) fun k e=>e.elim (fun e=>(oth (2*i+3) k (by omega) (fP hi hL e)).1) fun e=>(oth (2*i+1+3) k (by omega) (gH hi hL e)).1
  out:=aI h.out fun k e=>(oth 2 k (by decide) e).1
  kept:=fun x hx=>gZ (h.kept x hx) fun k e=>(far k (pW (h.kept x hx) e).2 (h.kap x hx k e 0)).1
  ap:=fun a b k ha hb'=>by
   by_cases e1:a=0
   ·by_cases e2:b=0
    ·omega
    ·subst e1;exact absurd ha (oth b k e2 (same b k e2 hb')).2
   ·by_cases e2:b=0
    ·subst e2;exact absurd hb' (oth a k e1 (same a k e1 ha)).2
    ·exact h.ap a b k (same a k e1 ha) (same b k e2 hb')
  kap:=fun x hx k hk a ha=>by
   by_cases e1:a=0
   ·subst e1;exact(far k (pW (h.kept x hx) hk).2 (h.kap x hx k hk 0)).2 ha
   ·exact h.kap x hx k hk a (same a k e1 ha)
  tlt:=fun k hk=>(hT k hk).elim (fun e=>Nat.lt_of_lt_of_le (h.tlt k e.1) hb.size) fun e=>hlt k e
  wlo:=Nat.le_trans h.wlo hb.size }
theorem PM.engine (h:PM w N pb T L cur ov outs) {B:Nat} (hst:aG w w' B T T') (hlt:∀ k,T' k->k<w'.heap.size):PM w' N pb T' L cur ov outs:=h.part hst (fun _ e=>e) (fun _ e=>.inr e) hlt
theorem PM.on (h:PM w N pb T L cur ov outs) (hb:Below w.heap.size w w'):PM w' N pb T L cur ov outs:=h.engine (.on h.wlo hb) fun k e=>Nat.lt_of_lt_of_le (h.tlt k e) hb.size
theorem PM.less (h:PM w N pb T L cur ov outs) {L':Nat->Prop} (hL:∀ i,L' i->L i):PM w N pb T L' cur ov outs:=by
 have same:∀ a k,dH T pb L' cur ov a k->dH T pb L cur ov a k:=fun a k hk=>by
  match a,hk with
  | 0,hk=>exact hk
  | 1,hk=>exact hk
  | 2,hk=>exact hk
  | n+3,⟨h1,h2,h3⟩=>exact⟨h1,hL _ h2,h3⟩
 exact { h with
  rows:=fun i hi hl=>h.rows i hi (hL i hl)
  ap:=fun a b k ha hb=>h.ap a b k (same a k ha) (same b k hb)
  kap:=fun x hx k hk a ha=>h.kap x hx k hk a (same a k ha) }
end
end
end Go.Proofs.YtnboipekkahmnaaGreatDoor
