import Derived.Test.YtnboipekkahmnaaGreatDoorR24
import Derived.Test.YtnboipekkahmnaaGreatDoorRows
import Derived.Deep.SlicePairs
set_option maxHeartbeats 8000000
set_option maxRecDepth 100000
namespace Go.Proofs.YtnboipekkahmnaaGreatDoor
open Obj renaming cells→o_
open World renaming ownsRow.lt→l_
open Nat renaming le_refl→n_
open Go.Proofs.Tryz renaming prog→p_
open Go.Joins renaming below_alloc1→a_
section
open Go.RowKit Go.Joins Go.Shelf
attribute [local go_sem ↓] Go.wp_at_zero Go.wp_at_succ
theorem zNJ {w0 w:World} {B n:Nat} {m:EMem} {s:ESt} (h:RunE w0 w B m s n):Calls p_ 35 #[.pointer (some ⟨m.eb,0,none⟩)] w fun e w'=>∃ v,e=.returned v/\wX w' B (allF m s.ses) v (aS s.x.rows)/\Below w.heap.size w w':=by
 refine(zBq w h.ek (by have:=h.fit.ok.few;omega)).mono ?_;rintro e w' ⟨v,rfl,ho,hb⟩;refine⟨v,rfl,⟨ownsRow_le ho h.ek.blo,fun k e ⟨j,hj⟩=>?_⟩,hb⟩;have h1:=(l_ ho k e).1;have h2:=h.ek.lt hj;omega
theorem topReader_walk (l:List ActL) (ao:Option Addr) (cap:Nat) (l2:List ActL) (ao2:Option Addr) (cap2:Nat) (sf st key:ByteArray) (w:World) (hL:Laid w) (hd:iM w ao l) (hd2:iM w ao2 l2):
  Calls p_ 6 #[.slice ao l.length cap,.slice ao2 l2.length cap2,.agg #[.string sf,.string st],.string key] w fun e w'=>e=.returned (.bool true)/\Below w.heap.size w w':=by
 have nn:=eG;have ne:=pX;have n1:=bM 114;have n2:=rD 114;have hbx:=a_ w (o_ #[.string sf,.string st] 80);have HL:=hide (iL hL hbx);have HD:=hide (zHR hbx hd);have HDD:=hide (zHR hbx hd2);have HBX:=hide hbx;have s0:(w.alloc (o_ #[.string sf,.string st] 80)).cell? ⟨w.heap.size,0,none⟩=some (.string sf):=by rw[aC];rfl
 have s1:(w.alloc (o_ #[.string sf,.string st] 80)).cell? ⟨w.heap.size,1,none⟩=some (.string st):=by rw[aC];rfl
 have S0:=hide s0;have S1:=hide s1;clear hL hd hd2 hbx s0 s1;go_enter Tryz.func6,Tryz.ntmps6;go_wp2_with fail;generalize w.alloc (o_ #[.string sf,.string st] 80)=w0 at *;generalize hbk:w.heap.size=bk at *;refine(zHJ w0).mono ?_;rintro e w1 ⟨rfl,hb1⟩;have HB1:=hide hb1;have HD1:=hide (zHR hb1 HD.out);have HDD1:=hide (zHR hb1 HDD.out);have HF:Hid (∀ w',Below w0.heap.size w0 w'->Below w.heap.size w w'):=fun w' hb=>by
  rw[hbk];exact aB HBX.out (Nat.le_of_eq hbk.symm) hb
 have s0:=aA hb1 S0.out;have s1:=aA hb1 S1.out;clear hb1;go_wp2_with fail;refine(zCZ l 40 cap ao w1 HD1.out (by omega)).mono ?_;rintro e w2 ⟨rfl,hw2⟩;rw[hw2];clear hw2;cases hlA:gT l 40
 ·go_wp2;go_ret;exact⟨rfl,HF.out _ HB1.out⟩
 obtain⟨hll,hli⟩:=zIQ HD.out hlA;have HLI:=hide hli;clear hlA hli;go_wp2_with fail;refine(zCZ l2 60 cap2 ao2 w1 HDD1.out (by omega)).mono ?_;rintro e w2 ⟨rfl,hw2⟩;rw[hw2];clear hw2;cases hlA:gT l2 60
 ·go_wp2;go_ret;exact⟨rfl,HF.out _ HB1.out⟩
 obtain⟨hll2,hli2⟩:=zIQ HDD.out hlA;have HLI2:=hide hli2;clear hlA hli2;have hbs:=a_ w1 (o_ #[.string sf,.string st] 80);have HLS:=hide (vD [(sf,st)] (some ⟨w1.heap.size,0,none⟩) 1 (w1.alloc (o_ #[.string sf,.string st] 80)) (.inr ⟨_,_,rfl,fun i hi=>by
  have e:i=0:=by simpa using hi
  subst e;exact⟨by rw[aC];rfl,by rw[aC];rfl⟩⟩) (by simp[maxLen]))
 have HB2:=hide (aB HB1.out (n_ _) hbs);clear hbs;go_wp2_with fail;refine HLS.out.mono ?_;rintro e w2 ⟨rfl,hw2⟩;rw[hw2];clear hw2 HLS w2;generalize w1.alloc (o_ #[.string sf,.string st] 80)=w2 at *;cases hls:iA [(sf,st)]
 ·go_wp2;go_ret;exact⟨rfl,HF.out _ HB2.out⟩
 by_cases hk60:(60:Int)<(key.size:Int)
 ·go_wp2;go_ret;exact⟨rfl,HF.out _ HB2.out⟩
 have d1:decide ((60:Int)<(key.size:Int))=false:=decide_eq_false hk60;have d4:decide (60<key.size)=false:=decide_eq_false (by omega);go_wp2_with fail;clear d1 d4 s0 s1;refine(zEi 120 w0 w2 (by decide) (by decide) HL.out HB2.out).mono ?_;rintro e w3 ⟨db,eb,rfl,m,s,hrun,rfl,rfl,fr⟩;have HPL:=hide (zK0 l ao cap hrun HD.out HLI.out (by omega) (by rw[fr.c];omega));have hcp:=(hrun.fit.play l).2;rw[fr.c] at hcp;generalize w2.heap.size=B at *;clear hrun fr HB1 HB2 HD1 HDD1;go_wp2_with fail;refine HPL.out.mono ?_;rintro e w4 ⟨ov,rfl,m4,hA4,_⟩;have HR4:=hide hA4.run;have HE4:=hide hA4.eb;clear hA4 HPL;generalize (hO s l).e=s4 at *;go_wp2_with fail
 go_loopw [12] (fun iv wr=>∃ (k:Nat) (m':EMem) (s':ESt),k<=4/\iv=.int .i64 (k:Int)/\RunE w0 wr B m' s' 120/\m'.eb=m.eb/\(∀ j,j<k->s'.ses j=none)/\s'.c<=40) (fun iv _=>4-(intOf iv).toNat)
 case atStart=>exact⟨0,m4,s4,by omega,rfl,HR4.out,HE4.out,fun j hj=>by omega,by omega⟩
 case round=>
  obtain⟨k,m',s',hk,rfl,hR,heb,hno,hcc⟩:=hrel;clear HR4 HE4;have HR:=hide hR;have HNO:=hide hno;clear hR hno;by_cases hlt:k<4
  ·have hlt':(k:Int)<4:=by omega
   have HAB:=hide (zIn HR.out hlt (by omega));rw[heb] at HAB;obtain⟨a1,a2,a3,_⟩:=zGf s' k;have HNO2:Hid (∀ j,j<k+1->(dS s' k).2.ses j=none):=fun j hj=>by
    by_cases e:j=k
    ·subst e;exact a1
    ·exact a2 j (HNO.out j (by omega))
   have hc2:(dS s' k).2.c<=40:=by omega
   clear a1 a2 a3;generalize dS s' k=A at *;go_wp2_with fail;refine HAB.out.mono ?_;rintro e w5 ⟨rfl,m5,hA5⟩;have HR5:=hide hA5.run;have HE5:=hide (hA5.eb.trans heb);clear hA5 HAB;generalize errV A.1=ev at *;go_wp2_with fail;exact⟨⟨k+1,m5,A.2,by omega,by go_num,HR5.out,HE5.out,HNO2.out,hc2⟩,by simp[intOf];omega⟩
  ·have ek:k=4:=by omega
   subst ek;rw[show((4:Nat):Int)=4 from rfl];have HRW:=hide (zNJ HR.out);rw[heb] at HRW;have h3:=HNO.out 3 (by decide);go_wp2_with fail;refine HRW.out.mono ?_;rintro e w5 ⟨rv,rfl,hrv,hb5⟩;have HBG:=hide (zNI (HR.out.on hb5) (i:=3) (by decide) h3);rw[heb] at HBG;have HRV:=hide hrv;have hsm:=zND HR.out.fit.ok;have HOV:=hide (HR.out.fit.ok.few);clear hrv hb5 HRW HNO h3;go_wp2_with fail;refine HBG.out.mono ?_;rintro e w6 ⟨rfl,m6,hA6⟩;have hv6:=zGX s' 3;have HDE:=hide (mT w6 hA6.run.ek (i:=3) (by decide) hv6);have he6:=hA6.eb.trans heb;rw[he6] at HDE;have HO6:Hid (OthI w0 w6 B m6 (dX s' 3) rv (.slice none 0 0) (aS s'.x.rows) []):=⟨hA6.run,HRV.out.step hA6.st,World.ownsRow_nil _ _ _ _,(fun k e=>by cases e),(fun k e=>by cases e)⟩;have hc6:(dX s' 3).c<=40:=hcc;have HV6:=hide hv6;clear hA6 HBG hv6 HRV HR;generalize dX s' 3=s6 at *;generalize aS s'.x.rows=rows at *;go_wp2_with fail;refine HDE.out.mono ?_;rintro e w7 ⟨rfl,hw7⟩;rw[hw7];clear hw7 HDE;generalize hwb:(m6.W 3).1=wb at *;go_wp2_with fail
   go_loopw [16,17] (fun ov iv wr=>∃ (k:Nat) (o:List ActL),k<=l2.length/\iv=.int .i64 (k:Int)/\o=(l2.take k).filter (fun x=>decide (sesX x≠3))/\OthI w0 wr B m6 s6 rv ov rows o) (fun _ iv _=>l2.length-(intOf iv).toNat)
   case atStart=>exact⟨0,[],Nat.zero_le _,rfl,rfl,HO6.out⟩
   case round=>
    obtain⟨k,o,hk,rfl,ho,hI⟩:=hrel;clear HO6;have HI:=hide hI;have HOE:=hide ho;clear hI ho;have hol:o.length<=k:=by
     rw[HOE.out];refine Nat.le_trans (List.length_filter_le _ _) ?_;rw[List.length_take];omega
    by_cases hlt:k<l2.length
    ·have hlt':(k:Int)<(l2.length:Int):=by omega
     have hk0:(0:Int)<=(k:Int):=by omega
     have htk:l2.take (k+1)=l2.take k++[l2[k]]:=List.take_succ_eq_append_getElem hlt;rcases HI.out.run.acts HDD.out with e|⟨b,off,e,hc⟩
     ·rw[e] at hlt;simp at hlt
     subst e;have hx:=hc k hlt;clear hc;generalize l2[k]=x at *;have hse:=zL3 x;have x0:=hx.kind;have x1:=hx.a;have x2:=hx.b;have x3:=hx.c;have x4:=hx.k;have x5:=hx.s;have x6:=hx.t;have x7:=hx.cl;have x8:=hx.sl;clear hx;by_cases h3:sesX x=3
     ·have e3:((sesX x:Int) != 3)=false:=by rw[h3];rfl
      have ho2:o=(l2.take (k+1)).filter (fun x=>decide (sesX x≠3)):=by
       rw[htk,List.filter_append,<-HOE.out];simp[h3]
      have HO2:=hide ho2;clear ho2;clear x0 x1 x2 x4 x5 x6 x7 x8 htk;go_wp2_with fail;exact⟨⟨k+1,o,by omega,by go_num,HO2.out,HI.out⟩,by simp[intOf];omega⟩
     ·have e3:((sesX x:Int) != 3)=true:=by simp;omega
      have ho2:o++[x]=(l2.take (k+1)).filter (fun x=>decide (sesX x≠3)):=by
       rw[htk,List.filter_append,<-HOE.out];simp[h3]
      have HO2:=hide ho2;clear ho2;obtain⟨i0,hi0,hz0,hz1,hz2⟩:=info_parts zK1;have hbA:=a_ wr (o_ #[.string x.kind,.int .i64 x.a,.int .i64 x.b,.int .i64 x.c,.int .u64 x.k,.string x.s,.string x.t,.slice x.ca x.chs.length x.cc,.slice x.sa x.sps.length x.sc] 39);have HIA:=hide (HI.out.on hbA);have HNW:Hid (∀ j u,(lO x)[j]?=some u->(wr.alloc (o_ #[.string x.kind,.int .i64 x.a,.int .i64 x.b,.int .i64 x.c,.int .u64 x.k,.string x.s,.string x.t,.slice x.ca x.chs.length x.cc,.slice x.sa x.sps.length x.sc] 39)).cell? ((⟨wr.heap.size,0,none⟩:Addr).add j)=some u):=World.news_of_block (cs:=(lO x).toArray) (t:=39) (fr:=(0,0)) (heap_alloc_new wr _);have HOW:Hid ((wr.alloc (o_ #[.string x.kind,.int .i64 x.a,.int .i64 x.b,.int .i64 x.c,.int .u64 x.k,.string x.s,.string x.t,.slice x.ca x.chs.length x.cc,.slice x.sa x.sps.length x.sc] 39)).ownsRow B 39 9 u16 o.length (o.flatMap lO)):=HIA.out.ho;have hBz:=HI.out.run.ek.blo;have HT:Hid (∀ g gc w5,jI (wr.alloc (o_ #[.string x.kind,.int .i64 x.a,.int .i64 x.b,.int .i64 x.c,.int .u64 x.k,.string x.s,.string x.t,.slice x.ca x.chs.length x.cc,.slice x.sa x.sps.length x.sc] 39)) w5 u16 g->w5.ownsRow B 39 9 (.slice (some ⟨g,0,none⟩) (o.length+1) gc) (o.length+1) (o.flatMap lO++lO x)->OthI w0 w5 B m6 s6 rv (.slice (some ⟨g,0,none⟩) (o.length+1) gc) rows (o++[x])):=fun g gc w5 hg hw=>by
       have e1:(o++[x]).length=o.length+1:=by simp
       have:=HIA.out.more (x:=x) (cap:=gc) hg (by
        unfold zLN;rw[e1,List.flatMap_append];simpa using hw)
       rw[e1] at this;exact this
      clear hbA HI htk;go_wp2_with (at_builtin;refine wpList_append_lies _ rfl _ _ _ rfl B 39 i0 _ 9 128 Tryz.underlying22 hi0 hz0 hz1 hz2 rfl (by omega) u16 o.length (o.flatMap lO) rfl HOW.out ⟨wr.heap.size,0,none⟩ 1 1 (lO x) rfl rfl HNW.out (zHw x) (by omega) (by unfold maxLen;omega) (by omega) (by simp;omega) _ rfl ?_;intro g gc w5 ho5 hg5 hat5 hlt5)
      have HRN:=hide (HT.out g gc w5 ⟨hg5,hat5⟩ ho5);clear ho5 hg5 hat5 hlt5 HT;go_wp2_with fail;exact⟨⟨k+1,o++[x],by omega,by go_num,HO2.out,HRN.out⟩,by simp[intOf];omega⟩
    ·have ek:k=l2.length:=by omega
     subst ek;have hlt':¬(l2.length:Int)<(l2.length:Int):=by omega
     have hxo:∀ x∈o,fT x/\3≠sesX x/\bW w0 x.ca x.chs/\bY w0 x.sa x.sps/\x.sps.length<=maxLen/\-9223372036854775808<=x.a/\x.a<=9223372036854775807:=fun x hx=>by
      rw[HOE.out,List.take_length,List.mem_filter] at hx;obtain⟨b,off,ha⟩:=zBU HDD.out hx.1;exact⟨HLI2.out x hx.1,fun e=>of_decide_eq_true hx.2 e.symm,ha.hc,ha.hs,ha.ns,ha.ai⟩
     obtain⟨oa,oc,e16,hpl⟩:=zNN HI.out HV6.out hxo (by omega) (by omega);rw[he6] at hpl;have HPL:=hide hpl;clear hxo hpl HI HOE;subst e16;go_wp2_with fail;refine HPL.out.mono ?_;rintro e w8 ⟨u,rfl,m8,s8,hR8,he8,hc8,hv8,hw8,hrv8⟩;have s0:=aA hR8.bel S0.out;have s1:=aA hR8.bel S1.out;have HSC:=hide (zNx (sf,st) hR8 hv8 (by omega) rfl rfl);rw[hw8,hwb] at HSC;have HRV:=hide hrv8;have he9:=he8;clear hR8 hrv8 HPL;dsimp only at HSC;go_wp2_with fail;refine HSC.out.mono ?_;rintro e w9 ⟨ia,ic,rfl,hh9,m9,r,hA9,hw9⟩;have HRV9:=hide (HRV.out.step hA9.st);have HH9:=hide hh9;have HR9:=hide hA9.run;have he10:=hA9.eb.trans he9;have hwb9:=hw9;have hc9:(jU s8 3 ⟨rows,s'.now,[],[]⟩ [] [r]).c<=190:=by show s8.c<=190;omega
     have HV9:=hide (zHj s8 3 ⟨rows,s'.now,[],[]⟩ [] [r]);replace s0:=aA hA9.run.bel S0.out;replace s1:=aA hA9.run.bel S1.out;clear hA9 hh9 HSC HRV hw9;obtain⟨ra,rc,erv,hhr,_⟩:=HRV9.out.form;subst erv;have HIN:=hide (zNT rows ra rc (sf,st) w9 hhr (by omega));have hil:=zEx rows (sf,st);clear hhr;dsimp only at HIN;go_wp2_with fail;refine HIN.out.mono ?_;rintro e w10 ⟨iv,rfl,hoi,hb10⟩;obtain⟨ja,jc,ejv,hhj⟩:=lV hoi;subst ejv;have HSR:=hide (zIs (inR rows (sf,st)) ia ja ic jc w10 (lX hb10 HH9.out) hhj (by omega));have HR10:=hide (HR9.out.on hb10);have HRV10:=hide (HRV9.out.on hb10);clear hoi hb10 hhj HIN HH9 HR9 HRV9;generalize inR rows (sf,st)=ir at *;go_wp2_with fail;refine HSR.out.mono ?_;rintro e w11 ⟨rfl,hb11⟩;have HGE:=hide (zNC key (HR10.out.on hb11) HV9.out hc9 rfl rfl (by unfold maxLen;omega));rw[hwb9] at HGE;have HRV11:=hide (HRV10.out.on hb11);clear hb11 HSR HR10 HRV10 s0 s1;dsimp only at HGE;have HCM:Hid (∀ W mm rr,RunE w0 W B mm (jU (jU s8 3 ⟨rows,s'.now,[],[]⟩ [] [r]) 3 ⟨rows,s'.now,[],[r]⟩ [] rr) 120->mm.eb=m.eb->Calls p_ 20 #[.pointer (some ⟨m.eb,0,none⟩),.int .i64 3] W fun e w'=>∃ nn,e=.returned (.tuple #[.int .i64 nn,.nilIface])/\Below w0.heap.size w0 w'):=fun W mm rr h he=>by
      have hv:=zHj (jU s8 3 ⟨rows,s'.now,[],[]⟩ [] [r]) 3 ⟨rows,s'.now,[],[r]⟩ [] rr;have q:=zNE h (i:=3) (by decide) (by show s8.c<=150;omega);rw[he,zNB hv rfl,aR] at q;refine q.mono ?_;rintro e w' ⟨rfl,m9,hA⟩;exact⟨_,rfl,hA.run.bel⟩
     generalize jU s8 3 ⟨rows,s'.now,[],[]⟩ [] [r]=s9 at *;cases hkl:keyL key.data.toList
     ·rw[hkl] at HGE;have HE3:Hid (errV 3=.iface 114 (.int .i64 3)):=rfl;simp only[Bool.false_eq_true,if_false] at HGE;rw[HE3.out] at HGE;go_wp2_with fail;refine HGE.out.mono ?_;rintro e w12 ⟨rfl,m12,rr,hA12⟩;have HRV12:=(HRV11.out.step hA12.st).form;obtain⟨ra2,rc2,e2,hhr,_⟩:=HRV12;cases e2;have HVA:=hide (zD0 rows ra rc key w12 hhr (by omega));have HR12:=hide hA12.run;have he12:=hA12.eb.trans he10;clear hA12 hhr HGE;generalize valR rows key=vv at *;go_wp2_with fail;refine HVA.out.mono ?_;rintro e w13 ⟨rfl,hb13⟩;have HC:=hide (HCM.out w13 m12 rr (HR12.out.on hb13) he12);clear hb13 HVA HR12 HCM;go_wp2_with fail;refine HC.out.mono ?_;rintro e w14 ⟨nn',rfl,hb14⟩;have HB14:=hide (HF.out _ hb14);clear hb14;go_wp2;go_ret;exact⟨rfl,HB14.out⟩
     ·rw[hkl] at HGE;simp only[if_true] at HGE;have HVQ:=fun W (hh:bY W ra rows)=>hide (zD0 rows ra rc key W hh (by omega));generalize valR rows key=vv at *;obtain⟨vx,vi⟩:=vv;dsimp only at HGE HVQ;go_wp2_with fail;refine HGE.out.mono ?_;rintro e w12 ⟨rfl,m12,rr,hA12⟩;obtain⟨ra2,rc2,e2,hhr,_⟩:=(HRV11.out.step hA12.st).form;cases e2;have HVA:=HVQ w12 hhr;have HR12:=hide hA12.run;have he12:=hA12.eb.trans he10;clear hA12 hhr HGE HVQ;go_wp2_with fail;refine HVA.out.mono ?_;rintro e w13 ⟨rfl,hb13⟩;have HC:=hide (HCM.out w13 m12 rr (HR12.out.on hb13) he12);clear hb13 HVA HR12 HCM;go_wp2_with fail;refine HC.out.mono ?_;rintro e w14 ⟨nn',rfl,hb14⟩;have HB14:=hide (HF.out _ hb14);clear hb14;go_wp2;go_ret;exact⟨rfl,HB14.out⟩
end
section
open Go.ChangeShapes Go.WideShapes Go.ChangeAt Go.RowKit
theorem Tryz.own:ownKnob Tryz.prog.godebug=none:=by kernel_rfl
theorem Tryz.laidOut:laidOutB p_=true:=by kernel_rfl
theorem yO {H:Type} {enc:TypeId×Value->H} {P:Program} (hl:laidOutB P=true) {W W':World} (hb:Below W.heap.size W W'):
  ∀ (ts:List TypeId) (vs:List Value) (ds:List (DataW H)) (ps:List MemPlace),(∀ t∈ts,P.readableRec t=true/\t<P.types.size)->
   DataW.TrodAll enc P W 0 (fun _=>true) true ts vs ds ps->(∀ x∈ps,x.block<W.heap.size)->
   DataW.TrodAll enc P W' 0 (fun b=>decide (b<W.heap.size)) true ts vs ds ps
 | [],vs,ds,ps,_,h,_=>by
  obtain⟨rfl,rfl,rfl⟩:=trodAll_nil h;exact trodAll_mk0
 | t::ts,vs,ds,ps,hr,h,hlt=>by
  obtain⟨v,vs',d,ds',p,q,rfl,rfl,rfl,h0,r0⟩:=trodAll_cons h;exact trodAll_cons_mk (Below.trod hl (hr t (by simp)).1 (hr t (by simp)).2 h0 hb (fun x hx=>hlt x (by simp[hx])))
   (yO hl hb ts vs' ds' q (fun t' ht=>hr t' (by simp[ht])) r0 (fun x hx=>hlt x (by simp[hx])))
theorem zKX {H:Type} {enc:TypeId×Value->H} {P:Program} {f:Func} {s:ChangeSpec} {tb:TypeId} {W W':World} {args:Array Value} {ds gs:List (DataW H)} {before:List MemPlace}
  (hl:laidOutB P=true) (hrt:f.resultTypes=#[tb]) (htb:P.underlying tb=some .bool) (hv:s.vars=[])
  (hrd:∀ t∈f.params.toList,P.readableRec t=true/\t<P.types.size)
  (hW:DataW.Whole enc P f.params.toList s.vars false W args.toList ds gs before) (hs:s.fn H (ds++gs)={ results:=[.lit (.bool true)],args:=ds }) (hb:Below W.heap.size W W'):
  s.post enc P f false true false false W args (.bool true) W':=by
 have hlt:∀ x∈before,x.block<W.heap.size:=fun x hx=>hW.lt x hx;have hW':=hW;obtain⟨p,q,hA,hV,rfl,_,_⟩:=hW;rw[hv] at hV;obtain⟨rfl,rfl⟩:=trodVars_none hV;refine⟨ds,[],p++[],[],p,[],hW',?_,?_,?_,hb.frame _,fun h=>by cases h⟩
 ·rw[hs,hrt];exact trodAll_mk1 (shut_bool htb true)
 ·rw[hs];exact yO hl hb _ _ _ _ hrd hA (fun x hx=>hlt x (by simp[hx]))
 ·rw[hs,hv];rfl
end
section
open Go.ChangeShapes Go.WideShapes Go.ChangeAt Go.RowKit Go.Joins Go.Deep
section
variable {H:Type} {enc:TypeId×Value->H} {w:World} {base:Nat} {held:Bool}
theorem dY {P:Program} {spare:Nat->Bool} {n i:Nat} {t:TypeId} {fs:Array Field} {cs:List Value} {xs:List (DataW H×List MemPlace)} (hxl:xs.length=fs.size)
  (hf:∀ (i:Nat) (f:Field),fs[i]?=some f->DataW.trod enc P w base spare held n f.type ((cs.drop f.offset).take (P.cellsOf f.type))=xs[i]?) {f:Field} (hi:fs[i]?=some f) (ho:f.offset=i) (hc:P.cellsOf f.type=1) (ht:f.type=t) (hl:i<cs.length):
  ∃ v y,cs[i]?=some v/\DataW.trod enc P w base spare held n t [v]=some y:=by
 have h:=hf i f hi;have hx:i<xs.length:=by rw[hxl];exact(Array.getElem?_eq_some_iff.1 hi).1
 rw[ho,hc,ht,List.getElem?_eq_getElem hx] at h;have e:(cs.drop i).take 1=[cs[i]]:=by
  rw[List.drop_eq_getElem_cons hl];rfl
 rw[e] at h;exact⟨_,_,List.getElem?_eq_getElem hl,h⟩
theorem zFG {a:Int} (h:(Lit.int .i64 a).wf=true):-9223372036854775808<=a/\a<=9223372036854775807:=by
 simpa[Lit.wf,IntKind.min,IntKind.signed,IntKind.bits] using h
theorem zH9 {v:Value} {fuel:Nat} {x:DataW H×List MemPlace} (h:DataW.trod enc p_ w base (fun _=>true) held fuel 36 [v]=some x):∃ (ao:Option Addr) (cap:Nat) (l:List Chg),v=.slice ao l.length cap/\bW w ao l:=by
 rcases open_slice Tryz.underlying36 h with⟨hcs,_⟩|⟨a,len,cap,m,n,D,Pl,hcs,_,hl,hm,hmm,_,hx⟩
 ·simp at hcs;subst hcs;exact⟨_,_,[],rfl,.inl rfl⟩
 ·simp at hcs;subst hcs;simp only[if_true] at hmm;by_cases h0:len=0
  ·subst h0;exact⟨_,_,[],rfl,.inl rfl⟩
  ·obtain⟨b,off,spot⟩:=a;have hc3:Tryz.prog.cellsOf 133=3:=by kernel_rfl
   have hspot:spot=none:=by
    obtain⟨cs,h1,_⟩:=hx 0 (by omega);rw[hc3] at h1;obtain⟨_,hlen,hcell⟩:=World.cells?_some h1;have e0:=(hcell 0 (by omega)).trans (List.getElem?_eq_getElem (by omega));simpa[Addr.add] using World.cell?_spot e0
   subst hspot;have each:∀ i,i<len->∃ c:Chg,w.cell? ⟨b,off+i*3,none⟩=some (.string c.key)/\w.cell? ⟨b,off+i*3+1,none⟩=some (.string c.val)/\w.cell? ⟨b,off+i*3+2,none⟩=some (.bool c.gone):=by
    intro i hi;obtain⟨cs,h1,h2⟩:=hx i (by omega);rw[hc3] at h1;obtain⟨_,hlen,hcell⟩:=World.cells?_some h1;obtain⟨xs,k,hk,hxy,_,hxl,hf⟩:=DataW.trod_struct Tryz.underlying133 h2;obtain⟨v0,y0,e0,g0⟩:=dY (i:=0) (t:=9) hxl hf rfl rfl (by kernel_rfl) rfl (by omega);obtain⟨v1,y1,e1,g1⟩:=dY (i:=1) (t:=9) hxl hf rfl rfl (by kernel_rfl) rfl (by omega);obtain⟨v2,y2,e2,g2⟩:=dY (i:=2) (t:=4) hxl hf rfl rfl (by kernel_rfl) rfl (by omega);obtain⟨s0,q0,_,_⟩:=DataW.trod_string Tryz.underlying9 g0;obtain⟨s1,q1,_,_⟩:=DataW.trod_string Tryz.underlying9 g1;obtain⟨b2,q2,_⟩:=DataW.trod_bool Tryz.underlying4 g2;simp at q0 q1 q2;subst q0 q1 q2;have c0:=(hcell 0 (by omega)).trans e0;have c1:=(hcell 1 (by omega)).trans e1;have c2:=(hcell 2 (by omega)).trans e2;rw[add_add,add_plain] at c0 c1 c2;exact⟨⟨s0,s1,b2⟩,by simpa using c0,by simpa[Nat.add_assoc] using c1,by simpa[Nat.add_assoc] using c2⟩
   haveI:Inhabited Chg:=⟨⟨ByteArray.empty,ByteArray.empty,false⟩⟩
   obtain⟨q,hq⟩:=choose_lt each;refine⟨_,cap,(List.range len).map q,by simp,.inr ⟨b,off,rfl,?_⟩⟩;intro i hi;have hi':i<len:=by simpa using hi
   simpa using hq i hi'
theorem zGZ {v:Value} {fuel:Nat} {x:DataW H×List MemPlace} (h:DataW.trod enc p_ w base (fun _=>true) held fuel 37 [v]=some x):
  ∃ (ao:Option Addr) (cap:Nat) (l:List (ByteArray×ByteArray)),v=.slice ao l.length cap/\bY w ao l/\l.length<=maxLen/\(ao=none->cap=0/\l=[]):=by
 rcases open_slice Tryz.underlying37 h with⟨hcs,_⟩|⟨a,len,cap,m,n,D,Pl,hcs,_,hl,hm,hmm,_,hx⟩
 ·simp at hcs;subst hcs;exact⟨_,_,[],rfl,.inl rfl,Nat.zero_le _,fun _=>⟨rfl,rfl⟩⟩
 ·simp at hcs;subst hcs;simp only[if_true] at hmm;by_cases h0:len=0
  ·subst h0;exact⟨_,_,[],rfl,.inl rfl,Nat.zero_le _,fun h=>by cases h⟩
  ·obtain⟨b,off,spot⟩:=a;have hc3:Tryz.prog.cellsOf 80=2:=by kernel_rfl
   have hspot:spot=none:=by
    obtain⟨cs,h1,_⟩:=hx 0 (by omega);rw[hc3] at h1;obtain⟨_,hlen,hcell⟩:=World.cells?_some h1;have e0:=(hcell 0 (by omega)).trans (List.getElem?_eq_getElem (by omega));simpa[Addr.add] using World.cell?_spot e0
   subst hspot;have each:∀ i,i<len->∃ c:ByteArray×ByteArray,w.cell? ⟨b,off+i*2,none⟩=some (.string c.1)/\w.cell? ⟨b,off+i*2+1,none⟩=some (.string c.2):=by
    intro i hi;obtain⟨cs,h1,h2⟩:=hx i (by omega);rw[hc3] at h1;obtain⟨_,hlen,hcell⟩:=World.cells?_some h1;obtain⟨xs,k,hk,hxy,_,hxl,hf⟩:=DataW.trod_struct Tryz.underlying80 h2;obtain⟨v0,y0,e0,g0⟩:=dY (i:=0) (t:=9) hxl hf rfl rfl (by kernel_rfl) rfl (by omega);obtain⟨v1,y1,e1,g1⟩:=dY (i:=1) (t:=9) hxl hf rfl rfl (by kernel_rfl) rfl (by omega);obtain⟨s0,q0,_,_⟩:=DataW.trod_string Tryz.underlying9 g0;obtain⟨s1,q1,_,_⟩:=DataW.trod_string Tryz.underlying9 g1;simp at q0 q1;subst q0 q1;have c0:=(hcell 0 (by omega)).trans e0;have c1:=(hcell 1 (by omega)).trans e1;rw[add_add,add_plain] at c0 c1;exact⟨(s0,s1),by simpa using c0,by simpa[Nat.add_assoc] using c1⟩
   haveI:Inhabited (ByteArray×ByteArray):=⟨(ByteArray.empty,ByteArray.empty)⟩
   obtain⟨q,hq⟩:=choose_lt each;refine⟨_,cap,(List.range len).map q,by simp,.inr ⟨b,off,rfl,?_⟩,by simp;omega,fun h=>by cases h⟩;intro i hi;have hi':i<len:=by simpa using hi
   simpa using hq i hi'
theorem zH6 {v:Value} {fuel:Nat} {x:DataW H×List MemPlace} (h:DataW.trod enc p_ w base (fun _=>true) held fuel 22 [v]=some x):
  ∃ (ao:Option Addr) (cap:Nat) (l:List ActL),v=.slice ao l.length cap/\iM w ao l:=by
 rcases open_slice Tryz.underlying22 h with⟨hcs,_⟩|⟨a,len,cap,m,n,D,Pl,hcs,_,hl,hm,hmm,_,hx⟩
 ·simp at hcs;subst hcs;exact⟨_,_,[],rfl,.inl rfl⟩
 ·simp at hcs;subst hcs;simp only[if_true] at hmm;by_cases h0:len=0
  ·subst h0;exact⟨_,_,[],rfl,.inl rfl⟩
  ·obtain⟨b,off,spot⟩:=a;have hc9:Tryz.prog.cellsOf 39=9:=by kernel_rfl
   have hspot:spot=none:=by
    obtain⟨cs,h1,_⟩:=hx 0 (by omega);rw[hc9] at h1;obtain⟨_,hlen,hcell⟩:=World.cells?_some h1;have e0:=(hcell 0 (by omega)).trans (List.getElem?_eq_getElem (by omega));simpa[Addr.add] using World.cell?_spot e0
   subst hspot;have each:∀ i,i<len->∃ c:ActL,vI w b (off+i*9) c:=by
    intro i hi;obtain⟨cs,h1,h2⟩:=hx i (by omega);rw[hc9] at h1;obtain⟨_,hlen,hcell⟩:=World.cells?_some h1;obtain⟨xs,k,hk,hxy,_,hxl,hf⟩:=DataW.trod_struct Tryz.underlying39 h2;obtain⟨v0,y0,e0,g0⟩:=dY (i:=0) (t:=9) hxl hf rfl rfl (by kernel_rfl) rfl (by omega);obtain⟨v1,y1,e1,g1⟩:=dY (i:=1) (t:=3) hxl hf rfl rfl (by kernel_rfl) rfl (by omega);obtain⟨v2,y2,e2,g2⟩:=dY (i:=2) (t:=3) hxl hf rfl rfl (by kernel_rfl) rfl (by omega);obtain⟨v3,y3,e3,g3⟩:=dY (i:=3) (t:=3) hxl hf rfl rfl (by kernel_rfl) rfl (by omega);obtain⟨v4,y4,e4,g4⟩:=dY (i:=4) (t:=35) hxl hf rfl rfl (by kernel_rfl) rfl (by omega);obtain⟨v5,y5,e5,g5⟩:=dY (i:=5) (t:=9) hxl hf rfl rfl (by kernel_rfl) rfl (by omega);obtain⟨v6,y6,e6,g6⟩:=dY (i:=6) (t:=9) hxl hf rfl rfl (by kernel_rfl) rfl (by omega);obtain⟨v7,y7,e7,g7⟩:=dY (i:=7) (t:=36) hxl hf rfl rfl (by kernel_rfl) rfl (by omega);obtain⟨v8,y8,e8,g8⟩:=dY (i:=8) (t:=37) hxl hf rfl rfl (by kernel_rfl) rfl (by omega);obtain⟨s0,q0,_,_⟩:=DataW.trod_string Tryz.underlying9 g0;obtain⟨s1,q1,_,w1⟩:=DataW.trod_int Tryz.underlying3 g1;obtain⟨s2,q2,_,_⟩:=DataW.trod_int Tryz.underlying3 g2;obtain⟨s3,q3,_,_⟩:=DataW.trod_int Tryz.underlying3 g3;obtain⟨s4,q4,_,_⟩:=DataW.trod_int Tryz.underlying35 g4;obtain⟨s5,q5,_,_⟩:=DataW.trod_string Tryz.underlying9 g5;obtain⟨s6,q6,_,_⟩:=DataW.trod_string Tryz.underlying9 g6;obtain⟨ca,cc,chs,q7,h7⟩:=zH9 g7;obtain⟨sa,sc,sps,q8,h8,n8,_⟩:=zGZ g8;simp at q0 q1 q2 q3 q4 q5 q6;subst q0 q1 q2 q3 q4 q5 q6 q7 q8;have c0:=(hcell 0 (by omega)).trans e0;have c1:=(hcell 1 (by omega)).trans e1;have c2:=(hcell 2 (by omega)).trans e2;have c3:=(hcell 3 (by omega)).trans e3;have c4:=(hcell 4 (by omega)).trans e4;have c5:=(hcell 5 (by omega)).trans e5;have c6:=(hcell 6 (by omega)).trans e6;have c7:=(hcell 7 (by omega)).trans e7;have c8:=(hcell 8 (by omega)).trans e8;rw[add_add,add_plain,<-Nat.add_assoc] at c0 c1 c2 c3 c4 c5 c6 c7 c8;exact⟨⟨s0,s1,s2,s3,s4,s5,s6,ca,cc,chs,sa,sc,sps⟩,⟨c0,c1,c2,c3,c4,c5,c6,c7,c8,h7,h8,n8,zFG w1⟩⟩
   haveI:Inhabited ActL:=⟨⟨ByteArray.empty,0,0,0,0,ByteArray.empty,ByteArray.empty,none,0,[],none,0,[]⟩⟩
   obtain⟨q,hq⟩:=choose_lt each;refine⟨_,cap,(List.range len).map q,by simp,.inr ⟨b,off,rfl,?_⟩⟩;intro i hi;have hi':i<len:=by simpa using hi
   simpa using hq i hi'
end
theorem zCl {H:Type} {enc:TypeId×Value->H} {W:World} {base:Nat} {v:Value} {d:DataW H} {p:List MemPlace}
  (hv:Value.okWide p_ W .any base 22 v) (h:DataW.Trod enc p_ W 0 (fun _=>true) true 22 v d p):∃ (ao:Option Addr) (cap:Nat) (l:List ActL),v=.slice ao l.length cap/\iM W ao l/\l.length<=cap:=by
 obtain⟨a0,len,cap,rfl⟩:=okWide_slice Tryz.underlying22 hv;obtain⟨fuel,hf⟩:=h;have hf':DataW.trod enc p_ W 0 (fun _=>true) true fuel 22 [.slice a0 len cap]=some (d,p):=by simpa[Value.cells] using hf
 have hc:len<=cap:=by
  rcases open_slice Tryz.underlying22 hf' with⟨e,_⟩|⟨a,l,c,m,n,D,Pl,e,_,hl,_⟩
  ·simp at e;omega
  ·simp at e;omega
 obtain⟨ao,c,l,e,hl⟩:=zH6 hf';have e':=e;simp at e';exact⟨ao,c,l,e,hl,by omega⟩
end
end Go.Proofs.YtnboipekkahmnaaGreatDoor
