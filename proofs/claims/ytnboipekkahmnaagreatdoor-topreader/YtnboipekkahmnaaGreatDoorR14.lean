import Derived.Test.YtnboipekkahmnaaGreatDoorR13
import Derived.Deep.Upon
set_option maxHeartbeats 8000000
set_option maxRecDepth 100000
namespace Go.Proofs.YtnboipekkahmnaaGreatDoor
open Obj renaming cells→o_
open World renaming cell?_of_block→b_,cell?_setCell_other→t_,cell?_setCell_same→u_,ownsRow.lt→l_
open Go.RowKit.Below renaming refl→r_
open Nat renaming le_refl→n_
open Tryz renaming prog→p_
open Value renaming string→v_,int→i_
open Go.Joins renaming below_alloc1→a_
section
open Go.RowKit Go.Joins Go.Shelf
attribute [local go_sem ↓] Go.wp_at_zero Go.wp_at_succ
def qK (f:Nat):Nat:=if f=0 then 6 else if f=5 then 0 else f
theorem zJu (a b:Int) (W:World):(binOp .eql 42 (.iface 114 (.int .i64 a)) (.iface 114 (.int .i64 b))).run p_ W=.ok (.bool (a==b)) W:=by
 kernel_rfl
theorem zDo (name:ByteArray) {B wb:Nat} {S:Nat->Prop} {P:Rws} {since:Sn} {chs:List Chg} {rds:Rws} (w:World) (h:QV w B wb S P since chs rds) (hn:name.size<=1000):
  Calls p_ 110 #[.pointer (some ⟨wb,0,none⟩),.string name] w fun e w'=>e=.returned (errV (qK (aN P chs rds name).2.2.2))/\ActQ w w' B wb S P since chs (bC chs rds name):=by
 have n1:=rD 114;have n2:=zJu;have HQ:=hide h;have HF:=hide (kK name w h hn);clear h;generalize aN P chs rds name=q at *;obtain⟨qx,qy,qd,er⟩:=q;dsimp only at HF ⊢;by_cases h0:er=0
 ·subst h0;go_enter Tryz.func110,Tryz.ntmps110;go_wp2_with (first
   | (go_at_call 83;refine HF.out.mono ?_;rintro e w1 ⟨rfl,ha⟩;have HA:=hide ha;clear ha;rw[bX])
   | fail)
  go_ret;exact⟨rfl,HA.out.post (a_ _ _)⟩
 ·by_cases h5:er=5
  ·subst h5;clear h0;have HER:Hid (errV 5=.iface 114 (.int .i64 5)):=rfl;go_enter Tryz.func110,Tryz.ntmps110;go_wp2_with (first
    | (go_at_call 83;refine HF.out.mono ?_;rintro e w1 ⟨rfl,ha⟩;have HA:=hide ha;clear ha;rw[HER.out])
    | fail)
   go_ret;exact⟨rfl,HA.out.post (a_ _ _)⟩
  ·have em:qK er=er:=by unfold qK;rw[if_neg h0,if_neg h5]
   rw[em,bJ h0];have HER:=hide (bJ h0);have e5:((er:Int)==5)=false:=by simp;omega
   clear h0 h5 em;go_enter Tryz.func110,Tryz.ntmps110;go_wp2_with (first
    | (go_at_call 83;refine HF.out.mono ?_;rintro e w1 ⟨rfl,ha⟩;have HA:=hide ha;clear ha;rw[HER.out])
    | fail)
   go_ret;exact⟨rfl,HA.out.post (a_ _ _)⟩
open Classical in
def fD (P:Rws) (chs:List Chg) (rds:Rws) (name:ByteArray) (tries:Int) (dead:ByteArray):Nat×List Chg×Rws:=
 if qK (aN P chs rds name).2.2.2=0 then
  if eqS dead name=true then (3,chs,bC chs rds name)
  else if dead.toList.isEmpty=true then (rA chs name 0 tries dead,qL chs name 0 tries dead,bC chs rds name)
  else if (aN P chs (bC chs rds name) dead).2.2.2=0 then (rA chs name 0 tries dead,qL chs name 0 tries dead,bC chs (bC chs rds name) dead)
  else ((aN P chs (bC chs rds name) dead).2.2.2,chs,bC chs (bC chs rds name) dead)
 else (qK (aN P chs rds name).2.2.2,chs,bC chs rds name)
theorem zEK (name:ByteArray) (tries:Int) (dead:ByteArray) {B wb:Nat} {S:Nat->Prop} {P:Rws} {since:Sn} {chs:List Chg} {rds:Rws} (w:World) (h:QV w B wb S P since chs rds) (hn:name.size<=1000) (hd:dead.size<=1000):
  Calls p_ 48 #[.pointer (some ⟨wb,0,none⟩),.string name,.int .i64 tries,.string dead] w fun e w'=>e=.returned (errV (fD P chs rds name tries dead).1)/\ActQ w w' B wb S P since (fD P chs rds name tries dead).2.1 (fD P chs rds name tries dead).2.2:=by
 have n1:=bM 114;have HM:=hide (zDo name w h hn);have HF:=hide (fun (S1:Nat->Prop) (W:World) (hW:QV W B wb S1 P since chs (bC chs rds name))=>kK dead W hW hd);unfold fD;clear h;generalize aN P chs (bC chs rds name) dead=q2 at *;generalize qK (aN P chs rds name).2.2.2=f1 at *;generalize hr2:bC chs (bC chs rds name) dead=rds2 at *;generalize bC chs rds name=rds1 at *;obtain⟨qx,qy,qd,er⟩:=q2;dsimp only at HF ⊢;clear hr2;by_cases h1:f1=0
 ·subst h1;rw[if_pos rfl];have HE1:=hide bX
  cases hdn:eqS dead name with
  | true=>
   have hdn':(dead.toList==name.toList)=true:=hdn;rw[if_pos rfl];clear hdn;go_enter Tryz.func48,Tryz.ntmps48;go_wp2_with (first
    | (go_at_call 110;refine HM.out.mono ?_;rintro e w1 ⟨rfl,ha⟩;obtain⟨S1,hq1,hs1⟩:=ha;have HQ1:=hide hq1;have HS1:=hide hs1;clear hq1 hs1;rw[HE1.out])
    | fail)
   go_ret;exact⟨rfl,S1,HQ1.out,HS1.out⟩
  | false=>
   have hdn':(dead.toList==name.toList)=false:=hdn;rw[if_neg (by simp)];clear hdn
   cases hde:dead.toList.isEmpty with
   | true=>
    have hde':(dead.toList==[])=true:=by rw[List.isEmpty_iff.1 hde];rfl
    rw[if_pos rfl];clear hde;go_enter Tryz.func48,Tryz.ntmps48;go_wp2_with (first
     | (go_at_call 110;refine HM.out.mono ?_;rintro e w1 ⟨rfl,ha⟩;obtain⟨S1,hq1,hs1⟩:=ha;have HQ1:=hide hq1;have HS1:=hide hs1;clear hq1 hs1;rw[HE1.out])
     | (go_at_call 111;refine(oK name 0 tries dead _ HQ1.out hn hd).mono ?_;rintro e w3 ⟨rfl,ha⟩;have HA:=hide (ActQ.after HS1.out ha);clear ha)
     | fail)
    go_ret;exact⟨rfl,HA.out⟩
   | false=>
    have hde':(dead.toList==[])=false:=by cases e:dead.toList with|nil=>rw[e] at hde;cases hde|cons a l=>rfl
    rw[if_neg (by simp)];clear hde;by_cases h2:er=0
    ·subst h2;rw[if_pos rfl];have HE2:=hide bX;go_enter Tryz.func48,Tryz.ntmps48;go_wp2_with (first
      | (go_at_call 110;refine HM.out.mono ?_;rintro e w1 ⟨rfl,ha⟩;obtain⟨S1,hq1,hs1⟩:=ha;have HQ1:=hide hq1;have HS1:=hide hs1;clear hq1 hs1;rw[HE1.out])
      | (go_at_call 83;refine(HF.out _ _ HQ1.out).mono ?_;rintro e w2 ⟨rfl,ha⟩;obtain⟨S2,hq2,hs2⟩:=ha;have hbA:=a_ w2 (o_ #[.int .i64 qx,.int .i64 qy,.string qd] 145);have HQ2:=hide (hq2.on hbA);have HS2:=hide ((HS1.out.trans hs2).trans (.on hq2.pv.lo hbA));clear hq2 hs2 hbA;rw[HE2.out])
      | (go_at_call 111;refine(oK name 0 tries dead _ HQ2.out hn hd).mono ?_;rintro e w3 ⟨rfl,ha⟩;have HA:=hide (ActQ.after HS2.out ha);clear ha)
      | fail)
     go_ret;exact⟨rfl,HA.out⟩
    ·rw[if_neg h2];have HE2:=hide (bJ h2);clear h2;go_enter Tryz.func48,Tryz.ntmps48;go_wp2_with (first
      | (go_at_call 110;refine HM.out.mono ?_;rintro e w1 ⟨rfl,ha⟩;obtain⟨S1,hq1,hs1⟩:=ha;have HQ1:=hide hq1;have HS1:=hide hs1;clear hq1 hs1;rw[HE1.out])
      | (go_at_call 83;refine(HF.out _ _ HQ1.out).mono ?_;rintro e w2 ⟨rfl,ha⟩;obtain⟨S2,hq2,hs2⟩:=ha;have hbA:=a_ w2 (o_ #[.int .i64 qx,.int .i64 qy,.string qd] 145);have HQ2:=hide (hq2.on hbA);have HS2:=hide ((HS1.out.trans hs2).trans (.on hq2.pv.lo hbA));clear hq2 hs2 hbA;rw[HE2.out])
      | fail)
     go_ret;exact⟨HE2.out▸rfl,_,HQ2.out,HS2.out⟩
 ·rw[if_neg h1];have HE1:=hide (bJ h1);clear h1;go_enter Tryz.func48,Tryz.ntmps48;go_wp2_with (first
   | (go_at_call 110;refine HM.out.mono ?_;rintro e w1 ⟨rfl,ha⟩;obtain⟨S1,hq1,hs1⟩:=ha;have HQ1:=hide hq1;have HS1:=hide hs1;clear hq1 hs1;rw[HE1.out])
   | fail)
  go_ret;exact⟨HE1.out▸rfl,S1,HQ1.out,HS1.out⟩
abbrev Msg:=Int×Int×Int×ByteArray×Nat
abbrev mV (x:Msg):Value:=.agg #[.int .i64 x.1,.int .i64 x.2.1,.int .i64 x.2.2.1,.string x.2.2.2.1]
abbrev noM (f:Nat):Msg:=(0,0,0,⟨#[]⟩,f)
def yH (t:ByteArray×Bool×Nat) (n tries:Int):Msg:=
 if t.2.2=0 then if t.2.1=true then if (mOf t.1 n).2.2.2.2=0 then if (mOf t.1 n).2.1=tries then mOf t.1 n else noM 11 else noM (mOf t.1 n).2.2.2.2 else noM 11 else noM t.2.2
def dQ (P:Rws) (chs:List Chg) (rds:Rws) (name:ByteArray) (n tries:Int):Msg×Rws:=
 if (aN P chs rds name).2.2.2=0 then
  if n<0∨999999<n∨tries<1 then (noM 1,bC chs rds name)
  else (yH (getP chs (bC chs rds name) P (msgB name (cP n))) n tries,getL chs (bC chs rds name) (msgB name (cP n)))
 else (noM (aN P chs rds name).2.2.2,bC chs rds name)
theorem zBw (name:ByteArray) (n tries:Int) {B wb:Nat} {S:Nat->Prop} {P:Rws} {since:Sn} {chs:List Chg} {rds:Rws} (w:World) (h:QV w B wb S P since chs rds) (hn:name.size<=1000):
  Calls p_ 119 #[.pointer (some ⟨wb,0,none⟩),.string name,.int .i64 n,.int .i64 tries] w fun e w'=>e=.returned (.tuple #[mV (dQ P chs rds name n tries).1,errV (dQ P chs rds name n tries).1.2.2.2.2])/\ActQ w w' B wb S P since chs (dQ P chs rds name n tries).2:=by
 have HX:=hide (BoxQ.start h #[i_ .i64 0,i_ .i64 0,i_ .i64 0,v_ ⟨#[]⟩] 99);have HLO:=hide h.pv.lo;have hqs:=tD (name:=name) (cP n) hn;have n1:=bM 114;have HF:=hide (fun (W:World) (hW:QV W B wb S P since chs rds)=>kK name W hW hn);have HGS:=hide (uU h.ok (bC chs rds name) (msgB name (cP n)));have HGT:=hide (fun (S1:Nat->Prop) (W:World) (hW:QV W B wb S1 P since chs (bC chs rds name))=>zCw (msgB name (cP n)) W hW hqs);have r0:(w.alloc (o_ #[.int .i64 0,.int .i64 0,.int .i64 0,.string ⟨#[]⟩] 99)).cell? ⟨w.heap.size,0,none⟩=some (i_ .i64 0):=by simp
 have r1:(w.alloc (o_ #[.int .i64 0,.int .i64 0,.int .i64 0,.string ⟨#[]⟩] 99)).cell? ⟨w.heap.size,1,none⟩=some (i_ .i64 0):=by simp
 have r2:(w.alloc (o_ #[.int .i64 0,.int .i64 0,.int .i64 0,.string ⟨#[]⟩] 99)).cell? ⟨w.heap.size,2,none⟩=some (i_ .i64 0):=by simp
 have r3:(w.alloc (o_ #[.int .i64 0,.int .i64 0,.int .i64 0,.string ⟨#[]⟩] 99)).cell? ⟨w.heap.size,3,none⟩=some (v_ ⟨#[]⟩):=by simp
 unfold dQ;clear h;generalize aN P chs rds name=q at *;generalize getP chs (bC chs rds name) P (msgB name (cP n))=t at *;generalize getL chs (bC chs rds name) (msgB name (cP n))=rds2 at *;generalize bC chs rds name=rds1 at *;obtain⟨qx,qy,qd,er⟩:=q;dsimp only at HF HGT ⊢;by_cases h1:er=0
 ·subst h1;rw[if_pos rfl];have HE1:=hide bX;by_cases hb:n<0∨999999<n∨tries<1
  ·rw[if_pos hb];by_cases hb1:n<0
   ·have d1:decide (n<0)=true:=by simpa using hb1
    go_enter Tryz.func119,Tryz.ntmps119;go_wp2_with (first
     | (go_at_call 83;refine(HF.out _ HX.out.qv).mono ?_;rintro e w1 ⟨rfl,ha⟩;obtain⟨S1,hx1,eb⟩:=HX.out.act ha;replace r0:=(b_ eb).trans r0;replace r1:=(b_ eb).trans r1;replace r2:=(b_ eb).trans r2;replace r3:=(b_ eb).trans r3;have hbA:=a_ w1 (o_ #[.int .i64 qx,.int .i64 qy,.string qd] 145);replace r0:=aA hbA r0;replace r1:=aA hbA r1;replace r2:=aA hbA r2;replace r3:=aA hbA r3;have HX1:=hide (hx1.on hbA);have fz:=(hx1.on hbA).fz;clear ha hx1 eb hbA;rw[HE1.out])
     | fail)
    exact bodyPost_ret (v:=.tuple #[mV (noM 1),errV 1]) (by simp[errV,results,Tryz.results119,go_sem,r0,r1,r2,r3]) rfl ⟨rfl,((((HX1.out.set HLO.out 0 _).set HLO.out 1 _).set HLO.out 2 _).set HLO.out 3 _).done⟩
   ·have d1:decide (n<0)=false:=by simpa using hb1
    by_cases hb2:999999<n
    ·have d2:decide (999999<n)=true:=by simpa using hb2
     go_enter Tryz.func119,Tryz.ntmps119;go_wp2_with (first
      | (go_at_call 83;refine(HF.out _ HX.out.qv).mono ?_;rintro e w1 ⟨rfl,ha⟩;obtain⟨S1,hx1,eb⟩:=HX.out.act ha;replace r0:=(b_ eb).trans r0;replace r1:=(b_ eb).trans r1;replace r2:=(b_ eb).trans r2;replace r3:=(b_ eb).trans r3;have hbA:=a_ w1 (o_ #[.int .i64 qx,.int .i64 qy,.string qd] 145);replace r0:=aA hbA r0;replace r1:=aA hbA r1;replace r2:=aA hbA r2;replace r3:=aA hbA r3;have HX1:=hide (hx1.on hbA);have fz:=(hx1.on hbA).fz;clear ha hx1 eb hbA;rw[HE1.out])
      | fail)
     exact bodyPost_ret (v:=.tuple #[mV (noM 1),errV 1]) (by simp[errV,results,Tryz.results119,go_sem,r0,r1,r2,r3]) rfl ⟨rfl,((((HX1.out.set HLO.out 0 _).set HLO.out 1 _).set HLO.out 2 _).set HLO.out 3 _).done⟩
    ·have d2:decide (999999<n)=false:=by simpa using hb2
     have hb3:tries<1:=by omega
     have d3:decide (tries<1)=true:=by simpa using hb3
     go_enter Tryz.func119,Tryz.ntmps119;go_wp2_with (first
      | (go_at_call 83;refine(HF.out _ HX.out.qv).mono ?_;rintro e w1 ⟨rfl,ha⟩;obtain⟨S1,hx1,eb⟩:=HX.out.act ha;replace r0:=(b_ eb).trans r0;replace r1:=(b_ eb).trans r1;replace r2:=(b_ eb).trans r2;replace r3:=(b_ eb).trans r3;have hbA:=a_ w1 (o_ #[.int .i64 qx,.int .i64 qy,.string qd] 145);replace r0:=aA hbA r0;replace r1:=aA hbA r1;replace r2:=aA hbA r2;replace r3:=aA hbA r3;have HX1:=hide (hx1.on hbA);have fz:=(hx1.on hbA).fz;clear ha hx1 eb hbA;rw[HE1.out])
      | fail)
     exact bodyPost_ret (v:=.tuple #[mV (noM 1),errV 1]) (by simp[errV,results,Tryz.results119,go_sem,r0,r1,r2,r3]) rfl ⟨rfl,((((HX1.out.set HLO.out 0 _).set HLO.out 1 _).set HLO.out 2 _).set HLO.out 3 _).done⟩
  ·rw[if_neg hb];have hb1:¬n<0:=by omega
   have hb2:¬999999<n:=by omega
   have hb3:¬tries<1:=by omega
   have d1:decide (n<0)=false:=by simpa using hb1
   have d2:decide (999999<n)=false:=by simpa using hb2
   have d3:decide (tries<1)=false:=by simpa using hb3
   clear hb;obtain⟨tx,is,eg⟩:=t;unfold yH;dsimp only at HGS HGT ⊢;by_cases h2:eg=0
   ·subst h2;rw[if_pos rfl];have HE2:=hide bX
    cases is with
    | false=>
     rw[if_neg (by simp)];go_enter Tryz.func119,Tryz.ntmps119;go_wp2_with (first
      | (go_at_call 83;refine(HF.out _ HX.out.qv).mono ?_;rintro e w1 ⟨rfl,ha⟩;obtain⟨S1,hx1,eb⟩:=HX.out.act ha;replace r0:=(b_ eb).trans r0;replace r1:=(b_ eb).trans r1;replace r2:=(b_ eb).trans r2;replace r3:=(b_ eb).trans r3;have hbA:=a_ w1 (o_ #[.int .i64 qx,.int .i64 qy,.string qd] 145);replace r0:=aA hbA r0;replace r1:=aA hbA r1;replace r2:=aA hbA r2;replace r3:=aA hbA r3;have HX1:=hide (hx1.on hbA);have fz:=(hx1.on hbA).fz;clear ha hx1 eb hbA;rw[HE1.out])
      | (go_at_call 120;refine(iE name n _ (by omega) (by omega) (by omega) HX1.out.qv.laid.tab).mono ?_;rintro e w2 ⟨rfl,hb2⟩;replace r0:=aA hb2 r0;replace r1:=aA hb2 r1;replace r2:=aA hb2 r2;replace r3:=aA hb2 r3;replace HX1:=hide (HX1.out.on hb2);clear hb2 fz)
      | (go_at_call 44;refine(HGT.out _ _ HX1.out.qv).mono ?_;rintro e w3 ⟨rfl,ha⟩;obtain⟨S2,hx2,eb⟩:=HX1.out.act ha;replace r0:=(b_ eb).trans r0;replace r1:=(b_ eb).trans r1;replace r2:=(b_ eb).trans r2;replace r3:=(b_ eb).trans r3;have HX2:=hide hx2;have fz:=hx2.fz;clear ha hx2 eb;rw[HE2.out])
      | fail)
     exact bodyPost_ret (v:=.tuple #[mV (noM 11),errV 11]) (by simp[errV,results,Tryz.results119,go_sem,r0,r1,r2,r3]) rfl ⟨rfl,((((HX2.out.set HLO.out 0 _).set HLO.out 1 _).set HLO.out 2 _).set HLO.out 3 _).done⟩
    | true=>
     rw[if_pos rfl];have HPM:=hide (fun (W:World) (hL:Laid W)=>zDb tx n (by have:=HGS.out;omega) W hL);generalize mOf tx n=m at *;obtain⟨mk,mt,mu,md,em⟩:=m;dsimp only at HPM ⊢;by_cases h3:em=0
     ·subst h3;rw[if_pos rfl];have HE3:=hide bX;by_cases h4:mt=tries
      ·subst h4;rw[if_pos rfl];have d4:(mt==mt)=true:=by simp
       go_enter Tryz.func119,Tryz.ntmps119;go_wp2_with (first
        | (go_at_call 83;refine(HF.out _ HX.out.qv).mono ?_;rintro e w1 ⟨rfl,ha⟩;obtain⟨S1,hx1,eb⟩:=HX.out.act ha;replace r0:=(b_ eb).trans r0;replace r1:=(b_ eb).trans r1;replace r2:=(b_ eb).trans r2;replace r3:=(b_ eb).trans r3;have hbA:=a_ w1 (o_ #[.int .i64 qx,.int .i64 qy,.string qd] 145);replace r0:=aA hbA r0;replace r1:=aA hbA r1;replace r2:=aA hbA r2;replace r3:=aA hbA r3;have HX1:=hide (hx1.on hbA);have fz:=(hx1.on hbA).fz;clear ha hx1 eb hbA;rw[HE1.out])
        | (go_at_call 120;refine(iE name n _ (by omega) (by omega) (by omega) HX1.out.qv.laid.tab).mono ?_;rintro e w2 ⟨rfl,hb2⟩;replace r0:=aA hb2 r0;replace r1:=aA hb2 r1;replace r2:=aA hb2 r2;replace r3:=aA hb2 r3;replace HX1:=hide (HX1.out.on hb2);clear hb2 fz)
        | (go_at_call 44;refine(HGT.out _ _ HX1.out.qv).mono ?_;rintro e w3 ⟨rfl,ha⟩;obtain⟨S2,hx2,eb⟩:=HX1.out.act ha;replace r0:=(b_ eb).trans r0;replace r1:=(b_ eb).trans r1;replace r2:=(b_ eb).trans r2;replace r3:=(b_ eb).trans r3;have HX2:=hide hx2;have fz:=hx2.fz;clear ha hx2 eb;rw[HE2.out])
        | (go_at_call 177;refine(HPM.out _ HX2.out.qv.laid).mono ?_;rintro e w4 ⟨rfl,hb4⟩;have hx3:=HX2.out.on hb4;replace r0:=aA hb4 r0;replace r1:=aA hb4 r1;replace r2:=aA hb4 r2;replace r3:=aA hb4 r3;have hbA:=a_ w4 (o_ #[.int .i64 mk,.int .i64 mt,.int .i64 mu,.string md] 99);replace r0:=aA hbA r0;replace r1:=aA hbA r1;replace r2:=aA hbA r2;replace r3:=aA hbA r3;have HX3:=hide (hx3.on hbA);replace fz:=(hx3.on hbA).fz;clear hb4 hx3 hbA;rw[HE3.out])
        | fail)
       exact bodyPost_ret (v:=.tuple #[mV ((mk,mt,mu,md,0)),errV 0]) (by simp[errV,results,Tryz.results119,go_sem,r0,r1,r2,r3]) rfl ⟨rfl,((((HX3.out.set HLO.out 0 _).set HLO.out 1 _).set HLO.out 2 _).set HLO.out 3 _).done⟩
      ·rw[if_neg h4];have d4:(mt==tries)=false:=by simpa using h4
       go_enter Tryz.func119,Tryz.ntmps119;go_wp2_with (first
        | (go_at_call 83;refine(HF.out _ HX.out.qv).mono ?_;rintro e w1 ⟨rfl,ha⟩;obtain⟨S1,hx1,eb⟩:=HX.out.act ha;replace r0:=(b_ eb).trans r0;replace r1:=(b_ eb).trans r1;replace r2:=(b_ eb).trans r2;replace r3:=(b_ eb).trans r3;have hbA:=a_ w1 (o_ #[.int .i64 qx,.int .i64 qy,.string qd] 145);replace r0:=aA hbA r0;replace r1:=aA hbA r1;replace r2:=aA hbA r2;replace r3:=aA hbA r3;have HX1:=hide (hx1.on hbA);have fz:=(hx1.on hbA).fz;clear ha hx1 eb hbA;rw[HE1.out])
        | (go_at_call 120;refine(iE name n _ (by omega) (by omega) (by omega) HX1.out.qv.laid.tab).mono ?_;rintro e w2 ⟨rfl,hb2⟩;replace r0:=aA hb2 r0;replace r1:=aA hb2 r1;replace r2:=aA hb2 r2;replace r3:=aA hb2 r3;replace HX1:=hide (HX1.out.on hb2);clear hb2 fz)
        | (go_at_call 44;refine(HGT.out _ _ HX1.out.qv).mono ?_;rintro e w3 ⟨rfl,ha⟩;obtain⟨S2,hx2,eb⟩:=HX1.out.act ha;replace r0:=(b_ eb).trans r0;replace r1:=(b_ eb).trans r1;replace r2:=(b_ eb).trans r2;replace r3:=(b_ eb).trans r3;have HX2:=hide hx2;have fz:=hx2.fz;clear ha hx2 eb;rw[HE2.out])
        | (go_at_call 177;refine(HPM.out _ HX2.out.qv.laid).mono ?_;rintro e w4 ⟨rfl,hb4⟩;have hx3:=HX2.out.on hb4;replace r0:=aA hb4 r0;replace r1:=aA hb4 r1;replace r2:=aA hb4 r2;replace r3:=aA hb4 r3;have hbA:=a_ w4 (o_ #[.int .i64 mk,.int .i64 mt,.int .i64 mu,.string md] 99);replace r0:=aA hbA r0;replace r1:=aA hbA r1;replace r2:=aA hbA r2;replace r3:=aA hbA r3;have HX3:=hide (hx3.on hbA);replace fz:=(hx3.on hbA).fz;clear hb4 hx3 hbA;rw[HE3.out])
        | fail)
       exact bodyPost_ret (v:=.tuple #[mV (noM 11),errV 11]) (by simp[errV,results,Tryz.results119,go_sem,r0,r1,r2,r3]) rfl ⟨rfl,((((HX3.out.set HLO.out 0 _).set HLO.out 1 _).set HLO.out 2 _).set HLO.out 3 _).done⟩
     ·rw[if_neg h3];have HE3:=hide (bJ h3);clear h3;go_enter Tryz.func119,Tryz.ntmps119;go_wp2_with (first
       | (go_at_call 83;refine(HF.out _ HX.out.qv).mono ?_;rintro e w1 ⟨rfl,ha⟩;obtain⟨S1,hx1,eb⟩:=HX.out.act ha;replace r0:=(b_ eb).trans r0;replace r1:=(b_ eb).trans r1;replace r2:=(b_ eb).trans r2;replace r3:=(b_ eb).trans r3;have hbA:=a_ w1 (o_ #[.int .i64 qx,.int .i64 qy,.string qd] 145);replace r0:=aA hbA r0;replace r1:=aA hbA r1;replace r2:=aA hbA r2;replace r3:=aA hbA r3;have HX1:=hide (hx1.on hbA);have fz:=(hx1.on hbA).fz;clear ha hx1 eb hbA;rw[HE1.out])
       | (go_at_call 120;refine(iE name n _ (by omega) (by omega) (by omega) HX1.out.qv.laid.tab).mono ?_;rintro e w2 ⟨rfl,hb2⟩;replace r0:=aA hb2 r0;replace r1:=aA hb2 r1;replace r2:=aA hb2 r2;replace r3:=aA hb2 r3;replace HX1:=hide (HX1.out.on hb2);clear hb2 fz)
       | (go_at_call 44;refine(HGT.out _ _ HX1.out.qv).mono ?_;rintro e w3 ⟨rfl,ha⟩;obtain⟨S2,hx2,eb⟩:=HX1.out.act ha;replace r0:=(b_ eb).trans r0;replace r1:=(b_ eb).trans r1;replace r2:=(b_ eb).trans r2;replace r3:=(b_ eb).trans r3;have HX2:=hide hx2;have fz:=hx2.fz;clear ha hx2 eb;rw[HE2.out])
       | (go_at_call 177;refine(HPM.out _ HX2.out.qv.laid).mono ?_;rintro e w4 ⟨rfl,hb4⟩;have hx3:=HX2.out.on hb4;replace r0:=aA hb4 r0;replace r1:=aA hb4 r1;replace r2:=aA hb4 r2;replace r3:=aA hb4 r3;have hbA:=a_ w4 (o_ #[.int .i64 mk,.int .i64 mt,.int .i64 mu,.string md] 99);replace r0:=aA hbA r0;replace r1:=aA hbA r1;replace r2:=aA hbA r2;replace r3:=aA hbA r3;have HX3:=hide (hx3.on hbA);replace fz:=(hx3.on hbA).fz;clear hb4 hx3 hbA;rw[HE3.out])
       | fail)
      exact bodyPost_ret (v:=.tuple #[mV (noM em),.iface 114 (.int .i64 em)]) (by simp[results,Tryz.results119,go_sem,r0,r1,r2,r3]) rfl ⟨HE3.out▸rfl,((((HX3.out.set HLO.out 0 _).set HLO.out 1 _).set HLO.out 2 _).set HLO.out 3 _).done⟩
   ·rw[if_neg h2];have HE2:=hide (bJ h2);clear h2;go_enter Tryz.func119,Tryz.ntmps119;go_wp2_with (first
     | (go_at_call 83;refine(HF.out _ HX.out.qv).mono ?_;rintro e w1 ⟨rfl,ha⟩;obtain⟨S1,hx1,eb⟩:=HX.out.act ha;replace r0:=(b_ eb).trans r0;replace r1:=(b_ eb).trans r1;replace r2:=(b_ eb).trans r2;replace r3:=(b_ eb).trans r3;have hbA:=a_ w1 (o_ #[.int .i64 qx,.int .i64 qy,.string qd] 145);replace r0:=aA hbA r0;replace r1:=aA hbA r1;replace r2:=aA hbA r2;replace r3:=aA hbA r3;have HX1:=hide (hx1.on hbA);have fz:=(hx1.on hbA).fz;clear ha hx1 eb hbA;rw[HE1.out])
     | (go_at_call 120;refine(iE name n _ (by omega) (by omega) (by omega) HX1.out.qv.laid.tab).mono ?_;rintro e w2 ⟨rfl,hb2⟩;replace r0:=aA hb2 r0;replace r1:=aA hb2 r1;replace r2:=aA hb2 r2;replace r3:=aA hb2 r3;replace HX1:=hide (HX1.out.on hb2);clear hb2 fz)
     | (go_at_call 44;refine(HGT.out _ _ HX1.out.qv).mono ?_;rintro e w3 ⟨rfl,ha⟩;obtain⟨S2,hx2,eb⟩:=HX1.out.act ha;replace r0:=(b_ eb).trans r0;replace r1:=(b_ eb).trans r1;replace r2:=(b_ eb).trans r2;replace r3:=(b_ eb).trans r3;have HX2:=hide hx2;have fz:=hx2.fz;clear ha hx2 eb;rw[HE2.out])
     | fail)
    exact bodyPost_ret (v:=.tuple #[mV (noM eg),.iface 114 (.int .i64 eg)]) (by simp[results,Tryz.results119,go_sem,r0,r1,r2,r3]) rfl ⟨HE2.out▸rfl,((((HX2.out.set HLO.out 0 _).set HLO.out 1 _).set HLO.out 2 _).set HLO.out 3 _).done⟩
 ·rw[if_neg h1];have HE1:=hide (bJ h1);clear h1;go_enter Tryz.func119,Tryz.ntmps119;go_wp2_with (first
   | (go_at_call 83;refine(HF.out _ HX.out.qv).mono ?_;rintro e w1 ⟨rfl,ha⟩;obtain⟨S1,hx1,eb⟩:=HX.out.act ha;replace r0:=(b_ eb).trans r0;replace r1:=(b_ eb).trans r1;replace r2:=(b_ eb).trans r2;replace r3:=(b_ eb).trans r3;have hbA:=a_ w1 (o_ #[.int .i64 qx,.int .i64 qy,.string qd] 145);replace r0:=aA hbA r0;replace r1:=aA hbA r1;replace r2:=aA hbA r2;replace r3:=aA hbA r3;have HX1:=hide (hx1.on hbA);have fz:=(hx1.on hbA).fz;clear ha hx1 eb hbA;rw[HE1.out])
   | fail)
  exact bodyPost_ret (v:=.tuple #[mV (noM er),.iface 114 (.int .i64 er)]) (by simp[results,Tryz.results119,go_sem,r0,r1,r2,r3]) rfl ⟨HE1.out▸rfl,((((HX1.out.set HLO.out 0 _).set HLO.out 1 _).set HLO.out 2 _).set HLO.out 3 _).done⟩
def fC (n:Int):Bool:=decide (0<=n)&&decide (n<=1000000)
theorem fI (n:Int) (w:World):Calls p_ 112 #[.int .i64 n] w fun e w'=>e=.returned (.bool (fC n))/\w'=w:=by
 unfold fC;by_cases h0:0<=n
 ·have d0:decide (0<=n)=true:=by simpa using h0
  rw[d0];by_cases h1:n<=1000000
  ·have d1:decide (n<=1000000)=true:=by simpa using h1
   rw[d1];go_enter Tryz.func112,Tryz.ntmps112;go_wp2;go_ret;exact⟨rfl,rfl⟩
  ·have d1:decide (n<=1000000)=false:=by simpa using h1
   rw[d1];go_enter Tryz.func112,Tryz.ntmps112;go_wp2;go_ret;exact⟨rfl,rfl⟩
 ·have d0:decide (0<=n)=false:=by simpa using h0
  rw[d0];go_enter Tryz.func112,Tryz.ntmps112;go_wp2;go_ret;exact⟨rfl,rfl⟩
def ackQ (P:Rws) (chs:List Chg) (rds:Rws) (name:ByteArray) (n tries:Int):Nat×List Chg×Rws:=
 if (dQ P chs rds name n tries).1.2.2.2.2=0 then (cH chs ⟨msgB name (cP n),⟨#[]⟩,true⟩,bG chs ⟨msgB name (cP n),⟨#[]⟩,true⟩,(dQ P chs rds name n tries).2)
 else ((dQ P chs rds name n tries).1.2.2.2.2,chs,(dQ P chs rds name n tries).2)
theorem zKS (name:ByteArray) (n tries:Int) {B wb:Nat} {S:Nat->Prop} {P:Rws} {since:Sn} {chs:List Chg} {rds:Rws} (w:World) (h:QV w B wb S P since chs rds) (hn:name.size<=1000) (hk0:-9223372036854775808<=n) (hk1:n<=9223372036854775807):
  Calls p_ 51 #[.pointer (some ⟨wb,0,none⟩),.string name,.int .i64 n,.int .i64 tries] w fun e w'=>e=.returned (errV (ackQ P chs rds name n tries).1)/\ActQ w w' B wb S P since (ackQ P chs rds name n tries).2.1 (ackQ P chs rds name n tries).2.2:=by
 have n1:=bM 114;have HH:=hide (zBw name n tries w h hn);have hqs:=tD (name:=name) (cP n) hn;unfold ackQ;clear h;generalize dQ P chs rds name n tries=q at *;obtain⟨⟨mk,mt,mu,md,em⟩,rds1⟩:=q;dsimp only at HH ⊢;by_cases h1:em=0
 ·subst h1;rw[if_pos rfl];go_enter Tryz.func51,Tryz.ntmps51;go_wp2_with (first
   | (go_at_call 119;refine HH.out.mono ?_;rintro e w1 ⟨rfl,ha⟩;obtain⟨S1,hq1,hs1⟩:=ha;have hbA:=a_ w1 (o_ #[.int .i64 mk,.int .i64 mt,.int .i64 mu,.string md] 99);have HQ1:=hide (hq1.on hbA);have HS1:=hide (hs1.trans (.on hq1.pv.lo hbA));clear hq1 hs1 hbA;rw[bX])
   | (go_at_call 120;refine(iE name n _ (by omega) hk0 hk1 HQ1.out.laid.tab).mono ?_;rintro e w2 ⟨rfl,hb2⟩;replace HS1:=hide (HS1.out.trans (.on HQ1.out.pv.lo hb2));replace HQ1:=hide (HQ1.out.on hb2);clear hb2)
   | (go_at_call 86;refine(uA (msgB name (cP n)) _ HQ1.out hqs).mono ?_;rintro e w3 ⟨rfl,ha⟩;have HA:=hide (ActQ.after HS1.out ha);clear ha)
   | fail)
  go_ret;exact⟨rfl,HA.out⟩
 ·rw[if_neg h1];have HE1:=hide (bJ h1);clear h1;go_enter Tryz.func51,Tryz.ntmps51;go_wp2_with (first
   | (go_at_call 119;refine HH.out.mono ?_;rintro e w1 ⟨rfl,ha⟩;obtain⟨S1,hq1,hs1⟩:=ha;have hbA:=a_ w1 (o_ #[.int .i64 mk,.int .i64 mt,.int .i64 mu,.string md] 99);have HQ1:=hide (hq1.on hbA);have HS1:=hide (hs1.trans (.on hq1.pv.lo hbA));clear hq1 hs1 hbA;rw[HE1.out])
   | fail)
  go_ret;exact⟨HE1.out▸rfl,_,HQ1.out,HS1.out⟩
def iZ (P:Rws) (chs:List Chg) (rds:Rws) (name:ByteArray) (n tries until_:Int):Nat×List Chg×Rws:=
 if (dQ P chs rds name n tries).1.2.2.2.2=0 then
  if fC until_=true then (mK chs name (dQ P chs rds name n tries).1.1 (dQ P chs rds name n tries).1.2.1 until_ (dQ P chs rds name n tries).1.2.2.2.1,nA chs name (dQ P chs rds name n tries).1.1 (dQ P chs rds name n tries).1.2.1 until_ (dQ P chs rds name n tries).1.2.2.2.1,(dQ P chs rds name n tries).2)
  else (1,chs,(dQ P chs rds name n tries).2)
 else ((dQ P chs rds name n tries).1.2.2.2.2,chs,(dQ P chs rds name n tries).2)
theorem zE9 (s:ByteArray) (n:Int):(mOf s n).1=n∨(mOf s n).1=0:=by
 rcases oB s n with⟨t,u,d,e,_⟩|⟨e,_⟩
 ·rw[e];exact .inl rfl
 ·rw[e];exact .inr rfl
theorem zH7 (P:Rws) (chs:List Chg) (rds:Rws) (name:ByteArray) (n tries:Int):(dQ P chs rds name n tries).1.1=n∨(dQ P chs rds name n tries).1.1=0:=by
 unfold dQ;split
 ·split
  ·exact .inr rfl
  ·unfold yH;split
   ·split
    ·split
     ·split
      ·exact zE9 _ _
      ·exact .inr rfl
     ·exact .inr rfl
    ·exact .inr rfl
   ·exact .inr rfl
 ·exact .inr rfl
theorem zJo (name:ByteArray) (n tries until_:Int) {B wb:Nat} {S:Nat->Prop} {P:Rws} {since:Sn} {chs:List Chg} {rds:Rws} (w:World) (h:QV w B wb S P since chs rds) (hn:name.size<=1000) (hk0:-9223372036854775808<=n) (hk1:n<=9223372036854775807):
  Calls p_ 81 #[.pointer (some ⟨wb,0,none⟩),.string name,.int .i64 n,.int .i64 tries,.int .i64 until_] w fun e w'=>e=.returned (errV (iZ P chs rds name n tries until_).1)/\ActQ w w' B wb S P since (iZ P chs rds name n tries until_).2.1 (iZ P chs rds name n tries until_).2.2:=by
 have n1:=bM 114;have HH:=hide (zBw name n tries w h hn);have hnum:=zH7 P chs rds name n tries;unfold iZ;clear h;generalize dQ P chs rds name n tries=q at *;obtain⟨⟨mk,mt,mu,md,em⟩,rds1⟩:=q;dsimp only at HH hnum ⊢;have hm0:-9223372036854775808<=mk:=by omega
 have hm1:mk<=9223372036854775807:=by omega
 clear hnum;by_cases h1:em=0
 ·subst h1;rw[if_pos rfl]
  cases htm:fC until_ with
  | true=>
   rw[if_pos rfl];have HTM:=hide htm;clear htm;go_enter Tryz.func81,Tryz.ntmps81;go_wp2_with (first
    | (go_at_call 119;refine HH.out.mono ?_;rintro e w1 ⟨rfl,ha⟩;obtain⟨S1,hq1,hs1⟩:=ha;have HQ1:=hide hq1;have HS1:=hide hs1;clear hq1 hs1;rw[bX])
    | (go_at_call 112;refine(fI until_ _).mono ?_;rintro e w2 ⟨rfl,rfl⟩;rw[HTM.out])
    | (go_at_call 148;have hbA:=a_ w1 (o_ #[.int .i64 mk,.int .i64 mt,.int .i64 until_,.string md] 99);refine(mI name mk mt until_ md _ (HQ1.out.on hbA) hn hm0 hm1).mono ?_;rintro e w3 ⟨rfl,ha⟩;have HA:=hide (ActQ.after (HS1.out.trans (.on HQ1.out.pv.lo hbA)) ha);clear ha hbA)
    | fail)
   go_ret;exact⟨rfl,HA.out⟩
  | false=>
   rw[if_neg (by simp)];have HTM:=hide htm;clear htm;go_enter Tryz.func81,Tryz.ntmps81;go_wp2_with (first
    | (go_at_call 119;refine HH.out.mono ?_;rintro e w1 ⟨rfl,ha⟩;obtain⟨S1,hq1,hs1⟩:=ha;have HQ1:=hide hq1;have HS1:=hide hs1;clear hq1 hs1;rw[bX])
    | (go_at_call 112;refine(fI until_ _).mono ?_;rintro e w2 ⟨rfl,rfl⟩;rw[HTM.out])
    | fail)
   go_ret;exact⟨rfl,_,HQ1.out.on (a_ _ _),HS1.out.trans (.on HQ1.out.pv.lo (a_ _ _))⟩
 ·rw[if_neg h1];have HE1:=hide (bJ h1);clear h1;go_enter Tryz.func81,Tryz.ntmps81;go_wp2_with (first
   | (go_at_call 119;refine HH.out.mono ?_;rintro e w1 ⟨rfl,ha⟩;obtain⟨S1,hq1,hs1⟩:=ha;have HQ1:=hide hq1;have HS1:=hide hs1;clear hq1 hs1;rw[HE1.out])
   | fail)
  go_ret;exact⟨HE1.out▸rfl,_,HQ1.out.on (a_ _ _),HS1.out.trans (.on HQ1.out.pv.lo (a_ _ _))⟩
def addQ (chs:List Chg) (name:ByteArray) (x y:Int) (d body:ByteArray) (until_:Int):Int×Nat×List Chg:=
 if x=999999 then (0,8,chs)
 else if mK chs name x 0 until_ body=0 then (x,rA (nA chs name x 0 until_ body) name (x+1) y d,qL (nA chs name x 0 until_ body) name (x+1) y d)
 else (0,mK chs name x 0 until_ body,nA chs name x 0 until_ body)
theorem QV.new {w w1 w2:World} {B wb:Nat} {S S2:Nat->Prop} {P:Rws} {since:Sn} {chs:List Chg} {rds:Rws} (h:QV w B wb S P since chs rds) (hs:aG w1 w2 B S S2) {k:Nat} (h1:w.heap.size<=k) (h2:k<w1.heap.size):w2.heap[k]?=w1.heap[k]?/\¬S2 k:=
 hs.far k h2 fun e=>by have:=h.pv.lt e;omega
theorem BoxQ.go {w w1 w2:World} {B wb bx:Nat} {S S' S2:Nat->Prop} {P:Rws} {since:Sn} {chs chs':List Chg} {rds rds':Rws} (h:BoxQ w w1 B wb bx S S' P since chs rds) (hq:QV w2 B wb S2 P since chs' rds') (hs:aG w1 w2 B S' S2):BoxQ w w2 B wb bx S S2 P since chs' rds'/\w2.heap[bx]?=w1.heap[bx]?:=by
 obtain⟨e,n⟩:=hs.far bx h.hi h.nb;exact⟨⟨hq,h.st.trans hs,n,h.lo,Nat.lt_of_lt_of_le h.hi hs.bel.size,fun j=>(World.frozen?_of_block (w:=w1) e).trans (h.fz j)⟩,e⟩
theorem zDU (name:ByteArray) (x y:Int) (d body:ByteArray) (until_:Int) {B wb:Nat} {S:Nat->Prop} {P:Rws} {since:Sn} {chs:List Chg} {rds:Rws} (w:World) (h:QV w B wb S P since chs rds) (hn:name.size<=1000) (hd:d.size<=1000) (hx0:0<=x) (hx1:x<=999999):
  Calls p_ 115 #[.pointer (some ⟨wb,0,none⟩),.string name,.agg #[.int .i64 x,.int .i64 y,.string d],.string body,.int .i64 until_] w fun e w'=>e=.returned (.tuple #[.int .i64 (addQ chs name x y d body until_).1,errV (addQ chs name x y d body until_).2.1])/\ActQ w w' B wb S P since (addQ chs name x y d body until_).2.2 rds:=by
 have n1:=bM 114;have HQ:=hide h;have HLO:=hide h.pv.lo;have HX:=hide (BoxQ.start h #[i_ .i64 x,i_ .i64 y,v_ d] 145);have hbM:=a_ (w.alloc (o_ #[.int .i64 x,.int .i64 y,.string d] 145)) (o_ #[.int .i64 x,.int .i64 0,.int .i64 until_,.string body] 99);have HXM:=hide (HX.out.on hbM);have HPM:=hide (fun W (hW:QV W B wb S P since chs rds)=>mI name x 0 until_ body W hW hn (by omega) (by omega));have HPQ:=hide (fun (S1:Nat->Prop) W (hW:QV W B wb S1 P since (nA chs name x 0 until_ body) rds)=>oK name (x+1) y d W hW hn hd);have q0:((w.alloc (o_ #[.int .i64 x,.int .i64 y,.string d] 145)).alloc (o_ #[.int .i64 x,.int .i64 0,.int .i64 until_,.string body] 99)).cell? ⟨w.heap.size,0,none⟩=some (.int .i64 x):=aA hbM (aC w _ _ 0);have q1:((w.alloc (o_ #[.int .i64 x,.int .i64 y,.string d] 145)).alloc (o_ #[.int .i64 x,.int .i64 0,.int .i64 until_,.string body] 99)).cell? ⟨w.heap.size,1,none⟩=some (.int .i64 y):=aA hbM (aC w _ _ 1);have q2:((w.alloc (o_ #[.int .i64 x,.int .i64 y,.string d] 145)).alloc (o_ #[.int .i64 x,.int .i64 0,.int .i64 until_,.string body] 99)).cell? ⟨w.heap.size,2,none⟩=some (.string d):=aA hbM (aC w _ _ 2);have m0:((w.alloc (o_ #[.int .i64 x,.int .i64 y,.string d] 145)).alloc (o_ #[.int .i64 x,.int .i64 0,.int .i64 until_,.string body] 99)).cell? ⟨w.heap.size+1,0,none⟩=some (.int .i64 x):=by simp
 unfold addQ;clear h hbM;by_cases hx:x=999999
 ·rw[if_pos hx];subst hx;go_enter Tryz.func115,Tryz.ntmps115;go_wp2;go_ret2;exact⟨rfl,HX.out.done⟩
 ·rw[if_neg hx];have dx:(x==999999)=false:=by simpa using hx
  have hw1:IntKind.i64.wrap (x+1)=x+1:=by rw[IntKind.wrap_i64];omega
  clear hx;generalize nA chs name x 0 until_ body=chs1 at *;generalize mK chs name x 0 until_ body=f1 at *;generalize qL chs1 name (x+1) y d=chs2 at *;generalize rA chs1 name (x+1) y d=f2 at *;by_cases h1:f1=0
  ·subst h1;rw[if_pos rfl];go_enter Tryz.func115,Tryz.ntmps115;go_wp2_with (first
    | (go_at_call 148;refine(HPM.out _ HXM.out.qv).mono ?_;rintro e w1 ⟨rfl,ha⟩;obtain⟨S1,hq1,hs1⟩:=ha;obtain⟨hx1,eb⟩:=HXM.out.go hq1 hs1;obtain⟨em,nm⟩:=HQ.out.new hs1 (k:=w.heap.size+1) (by omega) (by simp);replace q0:=(b_ eb).trans q0;replace q1:=(b_ eb).trans q1;replace q2:=(b_ eb).trans q2;replace m0:=(b_ em).trans m0;have fz:=hx1.fz;have HX1:=hide hx1;have HNM:=hide nm;clear hx1 eb em nm hq1 hs1;rw[bX])
    | fail)
   have HX2:=hide (HX1.out.set HLO.out 0 (.int .i64 (x+1)));have hz1:=HX1.out.hi;have u0:(w1.setCell ⟨w.heap.size,0,none⟩ (.int .i64 (x+1))).cell? ⟨w.heap.size,0,none⟩=some (.int .i64 (x+1)):=u_ _ _ _ q0;have u1:(w1.setCell ⟨w.heap.size,0,none⟩ (.int .i64 (x+1))).cell? ⟨w.heap.size,1,none⟩=some (.int .i64 y):=(t_ _ _ _ _ (by simp)).trans q1;have u2:(w1.setCell ⟨w.heap.size,0,none⟩ (.int .i64 (x+1))).cell? ⟨w.heap.size,2,none⟩=some (.string d):=(t_ _ _ _ _ (by simp)).trans q2;have v0:(w1.setCell ⟨w.heap.size,0,none⟩ (.int .i64 (x+1))).cell? ⟨w.heap.size+1,0,none⟩=some (.int .i64 x):=(t_ _ _ _ _ (by simp)).trans m0;generalize (w1.setCell ⟨w.heap.size,0,none⟩ (.int .i64 (x+1)))=W at *;clear q0 q1 q2 m0 fz HX1 hz1
   go_region_with (first
    | (go_at_call 111;refine(HPQ.out _ _ (HX2.out.qv.on (r_ _ _).drew)).mono ?_;rintro e w4 ⟨rfl,ha⟩;obtain⟨S4,hq4,hs4⟩:=ha;obtain⟨hx4,_⟩:=(HX2.out.on (r_ _ _).drew).go hq4 hs4;have v4:w4.cell? ⟨w.heap.size+1,0,none⟩=some (.int .i64 x):=(b_ (hs4.far (w.heap.size+1) (World.block_lt_of_cell? _ _ v0) HNM.out).1).trans v0;have HX4:=hide hx4;clear hx4 hq4 hs4)
    | fail)
   all_goals
    go_wp2;go_ret2;exact⟨rfl,HX4.out.done⟩
  ·rw[if_neg h1];have HE1:=hide (bJ h1);clear h1;go_enter Tryz.func115,Tryz.ntmps115;go_wp2_with (first
    | (go_at_call 148;refine(HPM.out _ HXM.out.qv).mono ?_;rintro e w1 ⟨rfl,ha⟩;obtain⟨S1,hx1,eb⟩:=HXM.out.act ha;have HX1:=hide hx1;clear hx1 eb ha;rw[HE1.out])
    | fail)
   go_ret2;exact⟨HE1.out▸rfl,HX1.out.done⟩
end
section
open Go.RowKit Go.Joins Go.Shelf Go.WideShapes
attribute [local go_sem ↓] Go.wp_at_zero Go.wp_at_succ
def atB (ao:Option Addr) (k:Nat):Prop:=∃ off,ao=some ⟨k,off,none⟩
structure RWx (w:World) (rb:Nat) (ra:Option Addr) (rc:Nat) (ca:Option Addr) (cc:Nat) (sa:Option Addr) (sc:Nat) (P:Rws) (since:Sn) (chs:List Chg) (rds:Rws):Prop where
 c0:w.cell? ⟨rb,0,none⟩=some (.slice ra P.length rc)
 c1:w.cell? ⟨rb,1,none⟩=some (.int .i64 since.n)
 c2:w.cell? ⟨rb,2,none⟩=some (.slice ca chs.length cc)
 c3:w.cell? ⟨rb,3,none⟩=some (.slice sa rds.length sc)
 soft:∀ j,w.frozen? ⟨rb,j,none⟩=false
 hP:bY w ra P
 nP:ra=none->rc=0/\P=[]
 hC:bW w ca chs
 hR:bY w sa rds
def inRW (rb:Nat) (ra ca sa:Option Addr) (P:Rws) (chs:List Chg) (rds:Rws) (k:Nat):Prop:=k=rb∨(P≠[]/\atB ra k)∨(chs≠[]/\atB ca k)∨(rds≠[]/\atB sa k)
def RW (w:World) (rb:Nat) (G:Nat->Prop) (P:Rws) (since:Sn) (chs:List Chg) (rds:Rws):Prop:=∃ ra rc ca cc sa sc,RWx w rb ra rc ca cc sa sc P since chs rds/\(G=inRW rb ra ca sa P chs rds)/\(∀ k,atB ra k->P≠[]->k≠rb)/\(∀ k,atB ca k->chs≠[]->k≠rb)/\(∀ k,atB sa k->rds≠[]->k≠rb)
theorem qP {w:World} {B:Nat} {v:Value} {l:List Chg} (h:bO w B v l):∃ ao cap,v=.slice ao l.length cap/\bW w ao l/\∀ k,atB ao k->B<=k:=by
 rcases aX h with⟨rfl,h0⟩|⟨g,cap,rfl,hg,_⟩
 ·have e:l=[]:=List.length_eq_zero_iff.1 h0;subst e;exact⟨none,0,rfl,.inl rfl,fun k e=>by obtain⟨_,e⟩:=e;cases e⟩
 ·refine⟨_,cap,rfl,.inr ⟨g,0,rfl,eW l 0 fun j u hj=>?_⟩,fun k e=>by obtain⟨_,e⟩:=e;cases e;exact hg⟩;have:=World.ownsRow.cells h (g:=g) rfl j u hj;rwa [Go.WideShapes.add_plain] at this
end
section
open Go.RowKit Go.Joins Go.Shelf
attribute [local go_sem ↓] Go.wp_at_zero Go.wp_at_succ
theorem zFb {B2:Nat} {mv:Value} {mk:List Chg} {B wb:Nat} {S:Nat->Prop} {P:Rws} {since:Sn} {chs:List Chg} {rds:Rws} (w:World) (h:QV w B wb S P since chs rds) (hm:bO w B2 mv mk) (hn:mk.length<=12) (hk:∀ c∈mk,c.key.size<=60) (hr:rises mk) (ho:OkQ P mk):
  Calls p_ 174 #[.pointer (some ⟨wb,0,none⟩),mv] w fun e w'=>e=.returned (.tuple #[])/\ActQ w w' B wb S P since mk rds:=
 (zLZ w h.pv hm hn hk hr).mono fun _ _ ⟨he,ha⟩=>⟨he,h.act ho ha⟩
theorem zET {a0 a1 a2 a3 a4:Value} {n:Int} {f:Nat} {chs':List Chg} {rds':Rws} {B wb:Nat} {S:Nat->Prop} {P:Rws} {since:Sn} {chs:List Chg} {rds:Rws} (w:World) (h:QV w B wb S P since chs rds)
  (hc:∀ W,Below w.heap.size w W->Calls p_ 114 #[a0,a1,a2,a3,a4] W fun e w'=>e=.returned (.tuple #[.int .i64 n,errV f])/\ActQ W w' B wb S P since chs' rds'):
  Calls p_ 113 #[.pointer (some ⟨wb,0,none⟩),.func (.func 114) #[] #[a0,a1,a2,a3,a4]] w fun e w'=>e=.returned (.tuple #[.int .i64 (if f=0 then n else 0),errV f])/\ActQ w w' B wb S P since (if f=0 then chs' else chs) rds':=by
 have n1:=bM 114;have HQ:=hide h;have HC:=hide hc;have HMK:=hide (zFs w h.pv);clear h hc;by_cases hf:f=0
 ·subst hf;rw[if_pos rfl,if_pos rfl];go_enter Tryz.func113,Tryz.ntmps113;go_wp2_with (first
   | (go_at_call 173;refine HMK.out.mono ?_;rintro e w1 ⟨mv,rfl,ho,hb1⟩;obtain⟨ma1,mc1,hmv,_,_⟩:=qP ho;subst hmv;have HB1:=hide hb1;clear ho hb1)
   | (go_at_call 114;refine(HC.out _ HB1.out).mono ?_;rintro e w2 ⟨rfl,ha⟩;have HA:=hide (HQ.out.pre HB1.out ha);clear ha;rw[bX])
   | fail)
  go_ret2;exact⟨rfl,HA.out⟩
 ·rw[if_neg hf,if_neg hf];have HE:=hide (bJ hf);clear hf;go_enter Tryz.func113,Tryz.ntmps113;go_wp2_with (first
   | (go_at_call 173;refine HMK.out.mono ?_;rintro e w1 ⟨mv,rfl,ho,hb1⟩;obtain⟨ma1,mc1,hmv,_,_⟩:=qP ho;subst hmv;have HB1:=hide hb1;have HO:=hide ho;clear ho hb1)
   | (go_at_call 114;refine(HC.out _ HB1.out).mono ?_;rintro e w2 ⟨rfl,ha⟩;obtain⟨S2,hq2,hs2⟩:=ha;have HO2:=hide (aI HO.out fun k e=>(HQ.out.new hs2 (l_ HO.out k e).1 (l_ HO.out k e).2).1);have HQ2:=hide hq2;have HS2:=hide hs2;clear hq2 hs2;rw[HE.out])
   | (go_at_call 174;refine(zFb _ HQ2.out HO2.out HQ.out.pv.ok.cn HQ.out.pv.ok.ck HQ.out.pv.ok.cr HQ.out.ok).mono ?_;rintro e w3 ⟨rfl,ha⟩;have HA:=hide (HQ.out.pre HB1.out (ActQ.after HS2.out ha));clear ha)
   | fail)
  go_ret2;exact⟨HE.out▸rfl,HA.out⟩
theorem xJ {P:Rws} {chs:List Chg} {rds:Rws} {name:ByteArray} (h:(aN P chs rds name).2.2.2=0):0<=(aN P chs rds name).1/\(aN P chs rds name).1<=999999/\(aN P chs rds name).2.2.1.size<=6/\0<=(aN P chs rds name).2.1/\(aN P chs rds name).2.1<=9:=by
 unfold aN at h ⊢;split at h
 ·split at h
  ·split at h
   ·rename_i h1 h2 h3;rw[if_pos h1,if_pos h2,if_pos h3];rcases vE (getP chs rds P (queB name)).1 with⟨n,t,d,e,hq,_⟩|⟨e,_⟩
    ·rw[e];have:=hq.1;have:=hq.2.2.1;exact⟨by dsimp only;omega,by dsimp only;omega,zDD hq,by dsimp only;omega,by dsimp only;omega⟩
    ·rw[e] at h;cases h
   ·cases h
  ·rename_i h2;exact absurd h h2
 ·cases h
theorem zEZ (pb nb qb bb ub:Nat) (name:ByteArray) (x y:Int) (d body:ByteArray) (until_:Int) {B wb:Nat} {S:Nat->Prop} {P:Rws} {since:Sn} {chs:List Chg} {rds:Rws} (w:World) (h:QV w B wb S P since chs rds) (hn:name.size<=1000) (hd:d.size<=1000) (hx0:0<=x) (hx1:x<=999999)
  (c0:w.cell? ⟨pb,0,none⟩=some (.pointer (some ⟨wb,0,none⟩))) (c1:w.cell? ⟨nb,0,none⟩=some (.string name)) (c2:w.cell? ⟨qb,0,none⟩=some (.int .i64 x)) (c3:w.cell? ⟨qb,1,none⟩=some (.int .i64 y)) (c4:w.cell? ⟨qb,2,none⟩=some (.string d)) (c5:w.cell? ⟨bb,0,none⟩=some (.string body)) (c6:w.cell? ⟨ub,0,none⟩=some (.int .i64 until_)):
  Calls p_ 114 #[.pointer (some ⟨pb,0,none⟩),.pointer (some ⟨nb,0,none⟩),.pointer (some ⟨qb,0,none⟩),.pointer (some ⟨bb,0,none⟩),.pointer (some ⟨ub,0,none⟩)] w fun e w'=>e=.returned (.tuple #[.int .i64 (addQ chs name x y d body until_).1,errV (addQ chs name x y d body until_).2.1])/\ActQ w w' B wb S P since (addQ chs name x y d body until_).2.2 rds:=by
 have HA:=hide (zDU name x y d body until_ w h hn hd hx0 hx1);clear h;generalize addQ chs name x y d body until_=r at *;go_enter Tryz.func114,Tryz.ntmps114;go_wp2_with (first
  | (go_at_call 115;refine HA.out.mono ?_;rintro e w1 ⟨rfl,ha⟩;have HB:=hide ha;clear ha)
  | fail)
 go_ret2;exact⟨rfl,HB.out⟩
def fN (P:Rws) (chs:List Chg) (rds:Rws) (name body:ByteArray) (until_:Int):Int×Nat×List Chg×Rws:=
 if (aN P chs rds name).2.2.2=0 then
  if fC until_=true then
   if (addQ chs name (aN P chs rds name).1 (aN P chs rds name).2.1 (aN P chs rds name).2.2.1 body until_).2.1=0 then ((addQ chs name (aN P chs rds name).1 (aN P chs rds name).2.1 (aN P chs rds name).2.2.1 body until_).1,0,(addQ chs name (aN P chs rds name).1 (aN P chs rds name).2.1 (aN P chs rds name).2.2.1 body until_).2.2,bC chs rds name)
   else (0,(addQ chs name (aN P chs rds name).1 (aN P chs rds name).2.1 (aN P chs rds name).2.2.1 body until_).2.1,chs,bC chs rds name)
  else (0,1,chs,bC chs rds name)
 else (0,(aN P chs rds name).2.2.2,chs,bC chs rds name)
theorem zIc (name body:ByteArray) (until_:Int) {B wb:Nat} {S:Nat->Prop} {P:Rws} {since:Sn} {chs:List Chg} {rds:Rws} (w:World) (h:QV w B wb S P since chs rds) (hn:name.size<=1000):
  Calls p_ 49 #[.pointer (some ⟨wb,0,none⟩),.string name,.string body,.int .i64 until_] w fun e w'=>e=.returned (.tuple #[.int .i64 (fN P chs rds name body until_).1,errV (fN P chs rds name body until_).2.1])/\ActQ w w' B wb S P since (fN P chs rds name body until_).2.2.1 (fN P chs rds name body until_).2.2.2:=by
 have n1:=bM 114;have hmf:∀ (fn:Fn) (first cap:Array Value) (w:World),(Instr.makeFunc fn first cap).run p_ w=.ok (.func fn first cap) w:=fun _ _ _ _=>rfl;have HFO:=hide (fun h=>xJ (P:=P) (chs:=chs) (rds:=rds) (name:=name) h);have hb1:=a_ w (o_ #[.pointer (some ⟨wb,0,none⟩)] 59);have hb2:=a_ (w.alloc (o_ #[.pointer (some ⟨wb,0,none⟩)] 59)) (o_ #[.string name] 9);have hb3:=a_ ((w.alloc (o_ #[.pointer (some ⟨wb,0,none⟩)] 59)).alloc (o_ #[.string name] 9)) (o_ #[.string body] 9);have hb4:=a_ (((w.alloc (o_ #[.pointer (some ⟨wb,0,none⟩)] 59)).alloc (o_ #[.string name] 9)).alloc (o_ #[.string body] 9)) (o_ #[.int .i64 until_] 3);have hbA:=aB (aB (aB hb1 (n_ _) hb2) (n_ _) hb3) (n_ _) hb4;have hsz:((((w.alloc (o_ #[.pointer (some ⟨wb,0,none⟩)] 59)).alloc (o_ #[.string name] 9)).alloc (o_ #[.string body] 9)).alloc (o_ #[.int .i64 until_] 3)).heap.size=w.heap.size+4:=by simp
 have c0:((((w.alloc (o_ #[.pointer (some ⟨wb,0,none⟩)] 59)).alloc (o_ #[.string name] 9)).alloc (o_ #[.string body] 9)).alloc (o_ #[.int .i64 until_] 3)).cell? ⟨w.heap.size,0,none⟩=some (.pointer (some ⟨wb,0,none⟩)):=aA hb4 (aA hb3 (aA hb2 (aC w _ _ 0)));have c1:((((w.alloc (o_ #[.pointer (some ⟨wb,0,none⟩)] 59)).alloc (o_ #[.string name] 9)).alloc (o_ #[.string body] 9)).alloc (o_ #[.int .i64 until_] 3)).cell? ⟨w.heap.size+1,0,none⟩=some (.string name):=aA hb4 (aA hb3 (by simp));have z2:((w.alloc (o_ #[.pointer (some ⟨wb,0,none⟩)] 59)).alloc (o_ #[.string name] 9)).heap.size=w.heap.size+1+1:=by simp
 have z3:(((w.alloc (o_ #[.pointer (some ⟨wb,0,none⟩)] 59)).alloc (o_ #[.string name] 9)).alloc (o_ #[.string body] 9)).heap.size=w.heap.size+1+1+1:=by simp
 have c5:((((w.alloc (o_ #[.pointer (some ⟨wb,0,none⟩)] 59)).alloc (o_ #[.string name] 9)).alloc (o_ #[.string body] 9)).alloc (o_ #[.int .i64 until_] 3)).cell? ⟨w.heap.size+1+1,0,none⟩=some (.string body):=aA hb4 (by rw[<-z2];exact aC _ _ _ 0);have c6:((((w.alloc (o_ #[.pointer (some ⟨wb,0,none⟩)] 59)).alloc (o_ #[.string name] 9)).alloc (o_ #[.string body] 9)).alloc (o_ #[.int .i64 until_] 3)).cell? ⟨w.heap.size+1+1+1,0,none⟩=some (.int .i64 until_):=by rw[<-z3];exact aC _ _ _ 0
 have HF:=hide (kK name _ (h.on hbA) hn);have HQ:=hide h;have HBA:=hide hbA;unfold fN;clear h hb1 hb2 hb3 hb4 hbA z2 z3;generalize aN P chs rds name=q at *;generalize bC chs rds name=rds1 at *;obtain⟨qx,qy,qd,er⟩:=q;dsimp only at HF HFO ⊢;by_cases h1:er=0
 ·subst h1;rw[if_pos rfl];obtain⟨hx0,hx1,hd6,_,_⟩:=HFO.out rfl;have HE1:=hide bX;clear HFO
  cases htm:fC until_ with
  | false=>
   rw[if_neg (by simp)];have HTM:=hide htm;clear htm;go_enter Tryz.func49,Tryz.ntmps49;go_wp2_with (first
    | (go_at_call 83;refine HF.out.mono ?_;rintro e w1 ⟨rfl,ha⟩;obtain⟨S1,hq1,hs1⟩:=ha;have hbQ:=a_ w1 (o_ #[.int .i64 qx,.int .i64 qy,.string qd] 145);have c0':=(b_ (HQ.out.new hs1 (k:=w.heap.size) (by omega) (by rw[hsz];omega)).1).trans c0;replace c0':=aA hbQ c0';have c1':=(b_ (HQ.out.new hs1 (k:=w.heap.size+1) (by omega) (by rw[hsz];omega)).1).trans c1;replace c1':=aA hbQ c1';have c5':=(b_ (HQ.out.new hs1 (k:=w.heap.size+1+1) (by omega) (by rw[hsz];omega)).1).trans c5;replace c5':=aA hbQ c5';have c6':=(b_ (HQ.out.new hs1 (k:=w.heap.size+1+1+1) (by omega) (by rw[hsz];omega)).1).trans c6;replace c6':=aA hbQ c6';have HQ1:=hide (hq1.on hbQ);have HS1:=hide ((aG.on HQ.out.pv.lo HBA.out).trans (hs1.trans (.on hq1.pv.lo hbQ)));have HA2:Hid (ActQ w (w1.alloc (o_ #[.int .i64 qx,.int .i64 qy,.string qd] 145)) B wb S P since chs rds1):=⟨S1,HQ1.out,HS1.out⟩;clear hq1 hs1 hbQ;rw[HE1.out])
    | (go_at_call 112;refine(fI until_ _).mono ?_;rintro e w2 ⟨rfl,rfl⟩;rw[HTM.out])
    | fail)
   go_ret2;exact⟨rfl,HA2.out⟩
  | true=>
   rw[if_pos rfl];have HTM:=hide htm;clear htm;have HW:=hide (fun (W W0:World) (S1:Nat->Prop) (hQ:QV W0 B wb S1 P since chs rds1) (hb:Below W0.heap.size W0 W) (qb:Nat) (e0:W0.cell? ⟨w.heap.size,0,none⟩=some (.pointer (some ⟨wb,0,none⟩))) (e1:W0.cell? ⟨w.heap.size+1,0,none⟩=some (.string name)) (e2:W0.cell? ⟨qb,0,none⟩=some (.int .i64 qx)) (e3:W0.cell? ⟨qb,1,none⟩=some (.int .i64 qy)) (e4:W0.cell? ⟨qb,2,none⟩=some (.string qd)) (e5:W0.cell? ⟨w.heap.size+1+1,0,none⟩=some (.string body)) (e6:W0.cell? ⟨w.heap.size+1+1+1,0,none⟩=some (.int .i64 until_))=>zEZ w.heap.size (w.heap.size+1) qb (w.heap.size+1+1) (w.heap.size+1+1+1) name qx qy qd body until_ W (hQ.on hb) hn (by omega) hx0 hx1 (aA hb e0) (aA hb e1) (aA hb e2) (aA hb e3) (aA hb e4) (aA hb e5) (aA hb e6));generalize addQ chs name qx qy qd body until_=r at *;have HWH:=hide (fun (W0:World) (S1:Nat->Prop) (hQ:QV W0 B wb S1 P since chs rds1) (qb:Nat) (e0:W0.cell? ⟨w.heap.size,0,none⟩=some (.pointer (some ⟨wb,0,none⟩))) (e1:W0.cell? ⟨w.heap.size+1,0,none⟩=some (.string name)) (e2:W0.cell? ⟨qb,0,none⟩=some (.int .i64 qx)) (e3:W0.cell? ⟨qb,1,none⟩=some (.int .i64 qy)) (e4:W0.cell? ⟨qb,2,none⟩=some (.string qd)) (e5:W0.cell? ⟨w.heap.size+1+1,0,none⟩=some (.string body)) (e6:W0.cell? ⟨w.heap.size+1+1+1,0,none⟩=some (.int .i64 until_))=>zET W0 hQ (fun W hb=>HW.out W W0 S1 hQ hb qb e0 e1 e2 e3 e4 e5 e6));clear HW;by_cases hz:r.2.1=0
   ·rw[if_pos hz];simp only[if_pos hz] at HWH;have HZ:=hide hz;clear hz;go_enter Tryz.func49,Tryz.ntmps49;go_wp2_with (first
     | (go_at_call 83;refine HF.out.mono ?_;rintro e w1 ⟨rfl,ha⟩;obtain⟨S1,hq1,hs1⟩:=ha;have hbQ:=a_ w1 (o_ #[.int .i64 qx,.int .i64 qy,.string qd] 145);have c0':=(b_ (HQ.out.new hs1 (k:=w.heap.size) (by omega) (by rw[hsz];omega)).1).trans c0;replace c0':=aA hbQ c0';have c1':=(b_ (HQ.out.new hs1 (k:=w.heap.size+1) (by omega) (by rw[hsz];omega)).1).trans c1;replace c1':=aA hbQ c1';have c5':=(b_ (HQ.out.new hs1 (k:=w.heap.size+1+1) (by omega) (by rw[hsz];omega)).1).trans c5;replace c5':=aA hbQ c5';have c6':=(b_ (HQ.out.new hs1 (k:=w.heap.size+1+1+1) (by omega) (by rw[hsz];omega)).1).trans c6;replace c6':=aA hbQ c6';have HQ1:=hide (hq1.on hbQ);have HS1:=hide ((aG.on HQ.out.pv.lo HBA.out).trans (hs1.trans (.on hq1.pv.lo hbQ)));have HA2:Hid (ActQ w (w1.alloc (o_ #[.int .i64 qx,.int .i64 qy,.string qd] 145)) B wb S P since chs rds1):=⟨S1,HQ1.out,HS1.out⟩;clear hq1 hs1 hbQ;rw[HE1.out])
     | (go_at_call 112;refine(fI until_ _).mono ?_;rintro e w2 ⟨rfl,rfl⟩;rw[HTM.out])
     | (go_at_call 113;refine(HWH.out _ S1 HQ1.out w1.heap.size c0' c1' (aC w1 _ _ 0) (aC w1 _ _ 1) (aC w1 _ _ 2) c5' c6').mono ?_;rintro e w3 ⟨rfl,ha⟩;have HA3:=hide (ActQ.after HS1.out ha);clear ha)
     | fail)
    go_ret2;exact⟨by rw[HZ.out];rfl,HA3.out⟩
   ·rw[if_neg hz];simp only[if_neg hz] at HWH;clear hz;go_enter Tryz.func49,Tryz.ntmps49;go_wp2_with (first
     | (go_at_call 83;refine HF.out.mono ?_;rintro e w1 ⟨rfl,ha⟩;obtain⟨S1,hq1,hs1⟩:=ha;have hbQ:=a_ w1 (o_ #[.int .i64 qx,.int .i64 qy,.string qd] 145);have c0':=(b_ (HQ.out.new hs1 (k:=w.heap.size) (by omega) (by rw[hsz];omega)).1).trans c0;replace c0':=aA hbQ c0';have c1':=(b_ (HQ.out.new hs1 (k:=w.heap.size+1) (by omega) (by rw[hsz];omega)).1).trans c1;replace c1':=aA hbQ c1';have c5':=(b_ (HQ.out.new hs1 (k:=w.heap.size+1+1) (by omega) (by rw[hsz];omega)).1).trans c5;replace c5':=aA hbQ c5';have c6':=(b_ (HQ.out.new hs1 (k:=w.heap.size+1+1+1) (by omega) (by rw[hsz];omega)).1).trans c6;replace c6':=aA hbQ c6';have HQ1:=hide (hq1.on hbQ);have HS1:=hide ((aG.on HQ.out.pv.lo HBA.out).trans (hs1.trans (.on hq1.pv.lo hbQ)));have HA2:Hid (ActQ w (w1.alloc (o_ #[.int .i64 qx,.int .i64 qy,.string qd] 145)) B wb S P since chs rds1):=⟨S1,HQ1.out,HS1.out⟩;clear hq1 hs1 hbQ;rw[HE1.out])
     | (go_at_call 112;refine(fI until_ _).mono ?_;rintro e w2 ⟨rfl,rfl⟩;rw[HTM.out])
     | (go_at_call 113;refine(HWH.out _ S1 HQ1.out w1.heap.size c0' c1' (aC w1 _ _ 0) (aC w1 _ _ 1) (aC w1 _ _ 2) c5' c6').mono ?_;rintro e w3 ⟨rfl,ha⟩;have HA3:=hide (ActQ.after HS1.out ha);clear ha)
     | fail)
    go_ret2;exact⟨rfl,HA3.out⟩
 ·rw[if_neg h1];have HE1:=hide (bJ h1);clear h1 HFO;go_enter Tryz.func49,Tryz.ntmps49;go_wp2_with (first
   | (go_at_call 83;refine HF.out.mono ?_;rintro e w1 ⟨rfl,ha⟩;obtain⟨S1,hq1,hs1⟩:=ha;have hbQ:=a_ w1 (o_ #[.int .i64 qx,.int .i64 qy,.string qd] 145);have c0':=(b_ (HQ.out.new hs1 (k:=w.heap.size) (by omega) (by rw[hsz];omega)).1).trans c0;replace c0':=aA hbQ c0';have c1':=(b_ (HQ.out.new hs1 (k:=w.heap.size+1) (by omega) (by rw[hsz];omega)).1).trans c1;replace c1':=aA hbQ c1';have c5':=(b_ (HQ.out.new hs1 (k:=w.heap.size+1+1) (by omega) (by rw[hsz];omega)).1).trans c5;replace c5':=aA hbQ c5';have c6':=(b_ (HQ.out.new hs1 (k:=w.heap.size+1+1+1) (by omega) (by rw[hsz];omega)).1).trans c6;replace c6':=aA hbQ c6';have HQ1:=hide (hq1.on hbQ);have HS1:=hide ((aG.on HQ.out.pv.lo HBA.out).trans (hs1.trans (.on hq1.pv.lo hbQ)));have HA2:Hid (ActQ w (w1.alloc (o_ #[.int .i64 qx,.int .i64 qy,.string qd] 145)) B wb S P since chs rds1):=⟨S1,HQ1.out,HS1.out⟩;clear hq1 hs1 hbQ;rw[HE1.out])
   | fail)
  go_ret2;exact⟨HE1.out▸rfl,HA2.out⟩
end
theorem zMU {l:List UInt8} (h:sixL l=true):∃ n,n<=999999/\l=six n:=by
 simp only[sixL,Bool.and_eq_true,decide_eq_true_eq] at h;obtain⟨h6,hd⟩:=h
 match l,h6 with
 | [a,b,c,d,e,f],_=>
  have g:∀ i,i<6->eZ ([a,b,c,d,e,f].getD i 0)=true:=fun i hi=>List.all_eq_true.1 hd i (List.mem_range.2 hi);have g':∀ x:UInt8,eZ x=true->48<=x.toNat/\x.toNat<=57:=fun x hx=>by simpa[eZ] using hx
  have ha:=g' a (g 0 (by omega));have hb:=g' b (g 1 (by omega));have hc:=g' c (g 2 (by omega));have hd:=g' d (g 3 (by omega));have he:=g' e (g 4 (by omega));have hf:=g' f (g 5 (by omega));refine⟨100000*(a.toNat-48)+10000*(b.toNat-48)+1000*(c.toNat-48)+100*(d.toNat-48)+10*(e.toNat-48)+(f.toNat-48),by omega,?_⟩;have one:∀ (x:UInt8) (n i:Nat),48<=x.toNat->n / 10 ^ i % 10=x.toNat-48->x=dgt n i:=fun x n i h48 h=>UInt8.toNat_inj.1 (by rw[iU,h];omega);simp only[six];rw[<-one a _ 5 ha.1 (by omega),<-one b _ 4 hb.1 (by omega),<-one c _ 3 hc.1 (by omega),<-one d _ 2 hd.1 (by omega),<-one e _ 1 he.1 (by omega),<-one f _ 0 hf.1 (by omega)]
theorem zJz {q k:ByteArray} (hq:bK q.data.toList=true) (hk:keyL k.data.toList=true) (hs:hasS (aZ q) (toB q) k=true):∃ n,n<=999999/\k=msgB q n:=by
 rw[zCP,rI] at hs;obtain⟨r,hr⟩:=List.isPrefixOf_iff_prefix.1 hs;have e:k.data.toList=109::47::(q.data.toList++47::r):=by rw[<-hr];simp
 have t:Lib.trimPrefix k.data.toList [109,47]=q.data.toList++47::r:=by rw[e,Lib.trimPrefix];simp[Lib.hasPrefix]
 have m:kW k.data.toList=true:=by
  rw[keyL,Bool.or_eq_true,Bool.or_eq_true] at hk;rcases hk with h|h|h
  ·rw[e,jE] at h;simp[Lib.hasPrefix] at h
  ·rw[e,jE] at h;simp[Lib.hasPrefix] at h
  ·exact h
 rw[kW,t,sM (xC hq),nY,Bool.and_eq_true,Bool.and_eq_true,Bool.and_eq_true] at m;have hx:=m.2.2.2;have d:(q.data.toList++47::r).drop (q.data.toList.length+1)=r:=by rw[List.drop_append];simp
 rw[Int.toNat_natCast,d] at hx;obtain⟨n,hn,rfl⟩:=zMU hx;exact⟨n,hn,kG (by rw[e,mN])⟩
theorem zEM {q:ByteArray} (n:Nat):Lib.lastIndexByte (msgB q n) 47=(q.size:Int)+2:=by
 have hl:=mN q n;have hz:=pS q n;have at_:∀ j:Nat,(msgB q n).data[j]! = (109::47::(q.data.toList++47::six n))[j]?.getD (default:UInt8):=by
  intro j;rw[<-hl,Array.getElem?_toList,Array.getElem!_eq_getD,Array.getD_eq_getD_getElem?]
 have ql:q.data.toList.length=q.size:=by rw[Array.length_toList];rfl
 rcases Lib.lastIndexByte_spec (msgB q n) 47 with⟨_,hno⟩|⟨i,hi,he,hc,hno⟩
 ·exfalso;refine hno (q.size+2) (by omega) ?_;rw[at_,<-ql];simp
 ·rw[he];have:i=q.size+2:=by
   rcases Nat.lt_trichotomy i (q.size+2) with h|h|h
   ·exfalso;refine hno (q.size+2) h (by omega) ?_;rw[at_,<-ql];simp
   ·exact h
   ·exfalso;rw[at_] at hc;obtain⟨j,rfl⟩:∃ j,i=q.data.toList.length+j+3:=⟨i-q.size-3,by omega⟩;have e2:(109::47::(q.data.toList++47::six n))[q.data.toList.length+j+3]?=(six n)[j]?:=by
     rw[List.getElem?_cons_succ,List.getElem?_cons_succ,show q.data.toList.length+j+1=q.data.toList.length+(j+1) by omega,List.getElem?_append_right (by omega)];simp
    rw[e2] at hc;have hj:j<6:=by omega
    have h6:∀ x∈six n,x.toNat≠47:=by
     intro x hx;simp only[six,List.mem_cons,List.not_mem_nil,or_false] at hx;have g:=fun i=>iU n i;rcases hx with rfl|rfl|rfl|rfl|rfl|rfl<;>rw[iU]<;>omega
    have hjl:j<(six n).length:=hj;rw[List.getElem?_eq_getElem hjl] at hc;have hh:((six n)[j]).toNat=47:=by simp only[Option.getD_some] at hc;omega
    exact h6 _ (List.getElem_mem hjl) hh
  omega
theorem zHI {q:ByteArray} (n:Nat):((msgB q n).extract (q.size+3) (q.size+9)).data.toList=six n:=by
 have ql:q.data.toList.length=q.size:=by rw[Array.length_toList];rfl
 rw[ByteArray.data_extract,Array.toList_extract,mN];have:(109::47::(q.data.toList++47::six n)).extract (q.size+3) (q.size+9)=six n:=by
  rw[List.extract_eq_take_drop,<-ql];have d:(109::47::(q.data.toList++47::six n)).drop (q.data.toList.length+3)=six n:=by
   rw[List.drop_succ_cons,List.drop_succ_cons,List.drop_append];simp
  rw[d,show q.data.toList.length+9-(q.data.toList.length+3)=6 by omega];rfl
 exact this
theorem zIV (k:Nat) (l:List UInt8):Lib.decFrom 0 (List.replicate k 48++l)=Lib.decFrom 0 l:=by
 induction k with
 | zero=>rfl
 | succ k ih=>rw[List.replicate_succ,List.cons_append,Lib.decFrom];exact ih
theorem zDN (n:Nat) (hn:n<=999999):Lib.atoi (six n)=some (n:Int):=by
 have h:Lib.decFrom 0 (six n)=some n:=by rw[<-zAT n hn,zIV,zDQ]
 have hb:=zMs n 5;have n1:(dgt n 5==45)=false:=beq_eq_false_iff_ne.2 (rM hb 45 (by decide));have n2:(dgt n 5==43)=false:=beq_eq_false_iff_ne.2 (rM hb 43 (by decide));rw[six] at h;simp only[Lib.atoi,six,n1,n2,Lib.decNat,h];rfl
end Go.Proofs.YtnboipekkahmnaaGreatDoor
