import Derived.Test.YtnboipekkahmnaaGreatDoorD24
import Derived.Test.YtnboipekkahmnaaGreatDoorRows
import Derived.Deep.SlicePairs
set_option maxHeartbeats 8000000
set_option maxRecDepth 100000
namespace Go.Proofs.YtnboipekkahmnaaGreatDoor
section
open Go.RowKit Go.Joins Go.Shelf
attribute [local go_sem ↓] Go.wp_at_zero Go.wp_at_succ
structure Vals (W:World) (m:EMem) (s:ESt) (vb:Nat) (a b:ByteArray):Prop where
 c0:W.cell? ⟨vb,0,none⟩=some (.string a)
 c1:W.cell? ⟨vb,1,none⟩=some (.string b)
 na:¬allF m s.ses vb
 lt:vb<W.heap.size
theorem Vals.step {W W':World} {B vb:Nat} {m m':EMem} {s s':ESt} {a b:ByteArray} (h:Vals W m s vb a b) (hs:aG W W' B (allF m s.ses) (allF m' s'.ses)):Vals W' m' s' vb a b:=by
 obtain⟨e,n⟩:=hs.far vb h.lt h.na;exact⟨(World.cell?_of_block (a:=⟨vb,0,none⟩) e).trans h.c0,(World.cell?_of_block (a:=⟨vb,1,none⟩) e).trans h.c1,n,Nat.lt_of_lt_of_le h.lt hs.bel.size⟩
theorem Vals.at {W:World} {m:EMem} {s:ESt} {vb:Nat} {a b:ByteArray} (h:Vals W m s vb a b) {k:Nat} (hk:k<2):W.cell? ⟨vb,k,none⟩=some (.string (if k=0 then a else b)):=by
 have e:k=0∨k=1:=by omega
 rcases e with rfl|rfl
 ·exact h.c0
 ·exact h.c1
def stB (s:ESt) (key a b:ByteArray) (k i:Nat):Prop:=∃ v,s.ses i=some v/\v.rds=[]/\v.chs=if i<k then [⟨key,if i=0 then a else b,false⟩] else []
theorem topBlind_walk (l:List ActL) (ao:Option Addr) (cap:Nat) (key a b:ByteArray) (w:World) (hL:Laid w) (hd:iM w ao l):
  Calls Tryz.prog 7 #[.slice ao l.length cap,.string key,.string a,.string b] w fun e w'=>e=.returned (.bool true)/\Below w.heap.size w w':=by
 have nn:=eG;have ne:=pX;have n1:=bM 114;have n2:=rD 114;have HL:=hide hL;have HD:=hide hd;clear hL hd;go_enter Tryz.func7,Tryz.ntmps7;go_wp2_with fail;refine(zHJ w).mono ?_;rintro e w1 ⟨rfl,hb1⟩;have HB1:=hide hb1;have HD1:=hide (zHR hb1 HD.out);clear hb1;go_wp2_with fail;refine(zCZ l 40 cap ao w1 HD1.out (by omega)).mono ?_;rintro e w2 ⟨rfl,hw2⟩;rw[hw2];clear hw2;cases hlA:gT l 40
 ·go_wp2;go_ret;exact⟨rfl,HB1.out⟩
 obtain⟨hll,hli⟩:=zIQ HD.out hlA;have HLI:=hide hli;clear hlA hli;by_cases hk60:(60:Int)<(key.size:Int)
 ·go_wp2;go_ret;exact⟨rfl,HB1.out⟩
 by_cases ha40:(40:Int)<(a.size:Int)
 ·go_wp2;go_ret;exact⟨rfl,HB1.out⟩
 by_cases hb40:(40:Int)<(b.size:Int)
 ·go_wp2;go_ret;exact⟨rfl,HB1.out⟩
 have HKF:=hide (zNt key w1 (by omega));have d1:decide ((60:Int)<(key.size:Int))=false:=decide_eq_false hk60;have d2:decide ((40:Int)<(a.size:Int))=false:=decide_eq_false ha40;have d3:decide ((40:Int)<(b.size:Int))=false:=decide_eq_false hb40;have d4:decide (60<key.size)=false:=decide_eq_false (by omega);have d5:decide (40<a.size)=false:=decide_eq_false (by omega);have d6:decide (40<b.size)=false:=decide_eq_false (by omega);cases hkl:keyL key.data.toList
 ·have hf:tG key.data.toList=3:=by unfold tG;rw[hkl];rfl
  rw[hf] at HKF;go_wp2_with fail;refine HKF.out.mono ?_;rintro e w2 ⟨rfl,hw2⟩;rw[hw2];clear hw2;go_wp2;go_ret;exact⟨rfl,HB1.out⟩
 have hf:tG key.data.toList=0:=by unfold tG;rw[hkl];rfl
 rw[hf] at HKF;have hca:∀ v:ByteArray,v.size<=40->aD ⟨key,v,false⟩=0:=fun v hv=>by
  unfold aD;rw[if_neg (by rw[hkl];decide),if_neg (by simp),if_neg (by show ¬40<v.size;omega)]
 have HCA:=hide (hca a (by omega));have HCB:=hide (hca b (by omega));clear hca hf hkl;go_wp2_with fail;refine HKF.out.mono ?_;rintro e w2 ⟨rfl,hw2⟩;rw[hw2];clear hw2 HKF d1 d2 d3 d4 d5 d6;go_wp2_with fail;refine(zEi 120 w w1 (by decide) (by decide) HL.out HB1.out).mono ?_;rintro e w3 ⟨db,eb,rfl,m,s,hrun,rfl,rfl,fr⟩;have HPL:=hide (zK0 l ao cap hrun HD.out HLI.out (by omega) (by rw[fr.c];omega));have hcp:=(hrun.fit.play l).2;rw[fr.c] at hcp;generalize w1.heap.size=B at *;clear hrun fr HB1 HD1;go_wp2_with fail;refine HPL.out.mono ?_;rintro e w4 ⟨ov,rfl,m4,hA4,_⟩;have HR4:=hide hA4.run;have HE4:=hide hA4.eb;clear hA4 HPL;generalize (hO s l).e=s4 at *;go_wp2_with fail
 go_loopw [12] (fun iv wr=>∃ (k:Nat) (m':EMem) (s':ESt),k<=4/\iv=.int .i64 (k:Int)/\RunE w wr B m' s' 120/\m'.eb=m.eb/\(∀ j,j<k->s'.ses j=none)/\s'.c<=40) (fun iv _=>4-(intOf iv).toNat)
 case atStart=>exact⟨0,m4,s4,by omega,rfl,HR4.out,HE4.out,fun j hj=>by omega,by omega⟩
 case round=>
  obtain⟨k,m',s',hk,rfl,hR,heb,hno,hcc⟩:=hrel;clear HR4 HE4;have HR:=hide hR;have HNO:=hide hno;clear hR hno;by_cases hlt:k<4
  ·have hlt':(k:Int)<4:=by omega
   have HAB:=hide (zIn HR.out hlt (by omega));rw[heb] at HAB;obtain⟨a1,a2,a3,_⟩:=zGf s' k;have HNO2:Hid (∀ j,j<k+1->(dS s' k).2.ses j=none):=fun j hj=>by
    by_cases e:j=k
    ·subst e;exact a1
    ·exact a2 j (HNO.out j (by omega))
   have hc2:(dS s' k).2.c<=40:=by omega
   clear a1 a2 a3;generalize dS s' k=A at *;go_wp2_with fail;refine HAB.out.mono ?_;rintro e w5 ⟨rfl,m5,hA5⟩;have HR5:=hide hA5.run;have HE5:=hide (hA5.eb.trans heb);clear hA5 HAB;generalize errV A.1=ev at *;go_wp2_with fail;exact⟨⟨k+1,m5,A.2,by omega,by go_num,HR5.out,HE5.out,HNO2.out,hc2⟩,by simp[intOf];omega⟩
  ·have ek:k=4:=by omega
   subst ek;rw[show((4:Nat):Int)=4 from rfl];have HV1:Hid (RunE w (wr.alloc (Obj.cells #[.string a,.string b] 9)) B m' s' 120/\Vals (wr.alloc (Obj.cells #[.string a,.string b] 9)) m' s' wr.heap.size a b):=by
    refine⟨HR.out.on (below_alloc1 _ _),by rw[aC];rfl,by rw[aC];rfl,fun ⟨i,hi⟩=>?_,by simp⟩;have:=HR.out.ek.lt hi;omega
   generalize hvb:wr.heap.size=vb at *;go_wp2_with fail
   go_loopw [14] (fun iv W=>∃ (k:Nat) (m2:EMem) (s2:ESt),k<=2/\iv=.int .i64 (k:Int)/\RunE w W B m2 s2 120/\m2.eb=m.eb/\Vals W m2 s2 vb a b/\s2.c<=40/\(∀ j,j<k->stB s2 key a b 0 j)/\∀ j,k<=j->j<4->s2.ses j=none) (fun iv _=>2-(intOf iv).toNat)
   case atStart=>
    obtain⟨h1,h2⟩:=HV1.out;exact⟨0,m',s',by omega,rfl,h1,heb,h2,hcc,fun j hj=>by omega,fun j _ hj=>HNO.out j hj⟩
   case round=>
    obtain⟨k,m2,s2,hk,rfl,hR2,heb2,hva,hc2,hst,hno2⟩:=hrel;clear HR HNO HV1;have HR:=hide hR2;have HVA:=hide hva;have HST:=hide hst;have HNO:=hide hno2;clear hR2 hva hst hno2;by_cases hlt:k<2
    ·have hlt':(k:Int)<2:=by omega
     have HBG:=hide (zNT HR.out (i:=k) (by omega) (HNO.out k (by omega) (by omega)));rw[heb2] at HBG;have HS2:Hid ((∀ j,j<k+1->stB (dX s2 k) key a b 0 j)/\∀ j,k+1<=j->j<4->(dX s2 k).ses j=none):=by
      refine⟨fun j hj=>?_,fun j h1 h2=>?_⟩
      ·by_cases e:j=k
       ·subst e;exact⟨_,zGX s2 j,rfl,by rw[if_neg (by omega)]⟩
       ·obtain⟨v,q1,q2⟩:=HST.out j (by omega);exact⟨v,(hU _ e).trans q1,q2⟩
      ·exact(hU _ (by omega)).trans (HNO.out j (by omega) h2)
     have hc3:(dX s2 k).c<=40:=hc2;generalize dX s2 k=s3 at *;go_wp2_with fail;refine HBG.out.mono ?_;rintro e w5 ⟨rfl,m5,hA5⟩;have HR5:=hide hA5.run;have HE5:=hide (hA5.eb.trans heb2);have HV5:=hide (HVA.out.step hA5.st);clear hA5 HBG;go_wp2_with fail;exact⟨⟨k+1,m5,s3,by omega,by go_num,HR5.out,HE5.out,HV5.out,hc3,HS2.out.1,HS2.out.2⟩,by simp[intOf];omega⟩
    ·have ek:k=2:=by omega
     subst ek;rw[show((2:Nat):Int)=2 from rfl];go_wp2_with fail
     go_loopw [15] (fun iv W=>∃ (k:Nat) (m3:EMem) (s3:ESt),k<=2/\iv=.int .i64 (k:Int)/\RunE w W B m3 s3 120/\m3.eb=m.eb/\Vals W m3 s3 vb a b/\s3.c<=40/\∀ j,j<2->stB s3 key a b k j) (fun iv _=>2-(intOf iv).toNat)
     case atStart=>exact⟨0,m2,s2,by omega,rfl,HR.out,heb2,HVA.out,hc2,HST.out⟩
     case round=>
      obtain⟨k,m3,s3,hk,rfl,hR3,heb3,hva,hc3,hst⟩:=hrel;clear HR HVA HST HNO;have HR:=hide hR3;have HVA:=hide hva;have HST:=hide hst;clear hR3 hva hst;by_cases hlt:k<2
      ·have hlt':(k:Int)<2:=by omega
       have hk0:(0:Int)<=(k:Int):=by omega
       obtain⟨v,q1,q2,q3⟩:=HST.out k hlt;rw[if_neg (by omega)] at q3;have hvf:aD ⟨key,if k=0 then a else b,false⟩=0:=by
        split
        ·exact HCA.out
        ·exact HCB.out
       have HDE:=hide (mT _ HR.out.ek (i:=k) (by omega) q1);rw[heb3] at HDE;have hpu:=zN2 key (if k=0 then a else b) HR.out (i:=k) q1 (by omega) (by omega) (by unfold maxLen;omega);rw[q3,(zI4 hvf).1,(zI4 hvf).2,aR] at hpu;have HPU:=hide hpu;have cv:=HVA.out.at hlt;have HS3:Hid (∀ j,j<2->stB (jU s3 k v [⟨key,if k=0 then a else b,false⟩] v.rds) key a b (k+1) j):=fun j hj=>by
        by_cases e:j=k
        ·subst e;exact⟨_,zHj _ _ _ _ _,q2,(if_pos (Nat.lt_succ_self _)).symm⟩
        ·obtain⟨u,r1,r2,r3⟩:=HST.out j hj;refine⟨u,(hU _ e).trans r1,r2,?_⟩;by_cases e2:j<k
         ·exact r3.trans ((if_pos e2).trans (if_pos (Nat.lt_succ_of_lt e2)).symm)
         ·exact r3.trans ((if_neg e2).trans (if_neg (by omega)).symm)
       have hc4:(jU s3 k v [⟨key,if k=0 then a else b,false⟩] v.rds).c<=40:=hc3;generalize jU s3 k v [⟨key,if k=0 then a else b,false⟩] v.rds=s4 at *;generalize (if k=0 then a else b)=vk at *;generalize (m3.W k).1=wb at *;clear hpu q1 q2 q3 hvf;go_wp2_with fail;refine HDE.out.mono ?_;rintro e w5 ⟨rfl,hw5⟩;rw[hw5];clear hw5 HDE;go_wp2_with fail;refine HPU.out.mono ?_;rintro e w5 ⟨rfl,m5,hA5,_⟩;have HR5:=hide hA5.run;have HE5:=hide (hA5.eb.trans heb3);have HV5:=hide (HVA.out.step hA5.st);clear hA5 HPU;go_wp2_with fail;exact⟨⟨k+1,m5,s4,by omega,by go_num,HR5.out,HE5.out,HV5.out,hc4,HS3.out⟩,by simp[intOf];omega⟩
      ·have ek:k=2:=by omega
       subst ek;rw[show((2:Nat):Int)=2 from rfl];obtain⟨v0,p1,p2,p3⟩:=HST.out 0 (by decide);obtain⟨v1,q1,q2,q3⟩:=HST.out 1 (by decide);have hTB:TwoB s3 ⟨key,a,false⟩ ⟨key,b,false⟩:=⟨HR.out.fit,⟨v0,p1,p3,p2⟩,⟨v1,q1,q3,q2⟩,HCA.out,HCB.out,rfl,rfl,rfl⟩;have hsy:=hTB.says;have HC1:=hide (zEx HR.out (i:=1) (by decide) (by omega));rw[heb3] at HC1;have hcc1:=(HR.out.fit.com (i:=1) (by decide)).2;have HC0:Hid (∀ W mm,RunE w W B mm (comE s3 1).2 120->mm.eb=m.eb->Calls Tryz.prog 20 #[.pointer (some ⟨m.eb,0,none⟩),.int .i64 0] W fun e w'=>e=.returned (.tuple #[.int .i64 ((comE (comE s3 1).2 0).1.1:Int),errV (comE (comE s3 1).2 0).1.2])/\∃ m',RunA w W w' B mm (comE s3 1).2 (comE (comE s3 1).2 0).2 120 m'):=fun W mm h he=>by
        have:=zEx h (i:=0) (by decide) (by omega);rw[he] at this;exact this
       have HNU:=fun f W=>hide (zGI f W);clear p1 p2 p3 q1 q2 q3 hTB HST HVA HR;generalize comE (comE s3 1).2 0=C0 at *;generalize comE s3 1=C1 at *;rcases hsy with⟨e1,e0⟩|⟨e1,e0,hval⟩
       ·have HE8:Hid (errV 8=.iface 114 (.int .i64 8)):=rfl;rw[e1,HE8.out] at HC1;rw[e0,HE8.out] at HC0;have HN8:=fun W=>HNU 8 W;rw[HE8.out] at HN8;clear HNU;go_wp2_with fail;refine HC1.out.mono ?_;rintro e w5 ⟨rfl,m5,hA5⟩;have HC:=hide (HC0.out w5 m5 hA5.run (hA5.eb.trans heb3));clear hA5 HC1 HC0;go_wp2_with fail;refine HC.out.mono ?_;rintro e w6 ⟨rfl,m6,hA6⟩;have HB6:=hide hA6.run.bel;clear hA6 HC;go_wp2_with fail;refine(HN8 _).out.mono ?_;rintro e w7 ⟨rfl,hw7⟩;rw[hw7];clear hw7;go_wp2_with fail;refine(HN8 _).out.mono ?_;rintro e w7 ⟨rfl,hw7⟩;rw[hw7];clear hw7;go_wp2;go_ret;exact⟨rfl,HB6.out⟩
       ·rw[e1,aR] at HC1;rw[e0,aR] at HC0;have HN0:=fun W=>HNU 0 W;rw[aR] at HN0;have HVL:=hide hval;clear HNU hval;go_wp2_with fail;refine HC1.out.mono ?_;rintro e w5 ⟨rfl,m5,hA5⟩;have HC:=hide (HC0.out w5 m5 hA5.run (hA5.eb.trans heb3));have heb5:=hA5.eb.trans heb3;clear hA5 HC1 HC0;go_wp2_with fail;refine HC.out.mono ?_;rintro e w6 ⟨rfl,m6,hA6⟩;have HR6:=hide hA6.run;have HRW:=hide (zNX hA6.run);rw[hA6.eb.trans heb5] at HRW;have hsm:=zNL hA6.run.fit.ok;clear hA6 HC;go_wp2_with fail;refine(HN0 _).out.mono ?_;rintro e w7 ⟨rfl,hw7⟩;rw[hw7];clear hw7;go_wp2_with fail;refine HRW.out.mono ?_;rintro e w7 ⟨ra,rc,rfl,hh7,hb7⟩;have HVA:=hide (zNM (aS C0.2.x.rows) ra rc key w7 hh7 (by omega));rw[HVL.out] at HVA;have HR7:=hide (HR6.out.on hb7);clear hh7 hb7 HRW HR6;go_wp2_with fail;refine HVA.out.mono ?_;rintro e w8 ⟨rfl,hb8⟩;have HB8:=hide (HR7.out.on hb8).bel;clear hb8 HVA HR7;go_wp2;go_ret;exact⟨rfl,HB8.out⟩
end
section
open Go.ChangeShapes Go.WideShapes Go.ChangeAt Go.RowKit
theorem Tryz.own:ownKnob Tryz.prog.godebug=none:=by kernel_rfl
theorem Tryz.laidOut:laidOutB Tryz.prog=true:=by kernel_rfl
theorem yO {H:Type} {enc:TypeId×Value->H} {P:Program} (hl:laidOutB P=true) {W W':World} (hb:Below W.heap.size W W'):
  ∀ (ts:List TypeId) (vs:List Value) (ds:List (DataW H)) (ps:List MemPlace),(∀ t∈ts,P.readableRec t=true/\t<P.types.size)->
   DataW.TrodAll enc P W 0 (fun _=>true) true ts vs ds ps->(∀ x∈ps,x.block<W.heap.size)->
   DataW.TrodAll enc P W' 0 (fun b=>decide (b<W.heap.size)) true ts vs ds ps
 | [],vs,ds,ps,_,h,_=>by
  obtain⟨rfl,rfl,rfl⟩:=trodAll_nil h;exact trodAll_mk0
 | t::ts,vs,ds,ps,hr,h,hlt=>by
  obtain⟨v,vs',d,ds',p,q,rfl,rfl,rfl,h0,r0⟩:=trodAll_cons h;exact trodAll_cons_mk (Below.trod hl (hr t (by simp)).1 (hr t (by simp)).2 h0 hb (fun x hx=>hlt x (by simp[hx])))
   (yO hl hb ts vs' ds' q (fun t' ht=>hr t' (by simp[ht])) r0 (fun x hx=>hlt x (by simp[hx])))
theorem zKX {H:Type} {enc:TypeId×Value->H} {P:Program} {f:Func} {s:ChangeSpec} {tb:TypeId} {W W':World} {args:Array Value} {ds gs:List (DataW H)} {before:List MemPlace}
  (hl:laidOutB P=true) (hrt:f.resultTypes=#[tb]) (htb:P.underlying tb=some .bool) (hv:s.vars=[])
  (hrd:∀ t∈f.params.toList,P.readableRec t=true/\t<P.types.size)
  (hW:DataW.Whole enc P f.params.toList s.vars false W args.toList ds gs before) (hs:s.fn H (ds++gs)={ results:=[.lit (.bool true)],args:=ds }) (hb:Below W.heap.size W W'):
  s.post enc P f false true false false W args (.bool true) W':=by
 have hlt:∀ x∈before,x.block<W.heap.size:=fun x hx=>hW.lt x hx;have hW':=hW;obtain⟨p,q,hA,hV,rfl,_,_⟩:=hW;rw[hv] at hV;obtain⟨rfl,rfl⟩:=trodVars_none hV;refine⟨ds,[],p++[],[],p,[],hW',?_,?_,?_,hb.frame _,fun h=>by cases h⟩
 ·rw[hs,hrt];exact trodAll_mk1 (shut_bool htb true)
 ·rw[hs];exact yO hl hb _ _ _ _ hrd hA (fun x hx=>hlt x (by simp[hx]))
 ·rw[hs,hv];rfl
end
section
open Go.ChangeShapes Go.WideShapes Go.ChangeAt Go.RowKit Go.Joins Go.Deep
section
variable {H:Type} {enc:TypeId×Value->H} {w:World} {base:Nat} {held:Bool}
theorem dY {P:Program} {spare:Nat->Bool} {n i:Nat} {t:TypeId} {fs:Array Field} {cs:List Value} {xs:List (DataW H×List MemPlace)} (hxl:xs.length=fs.size)
  (hf:∀ (i:Nat) (f:Field),fs[i]?=some f->DataW.trod enc P w base spare held n f.type ((cs.drop f.offset).take (P.cellsOf f.type))=xs[i]?) {f:Field} (hi:fs[i]?=some f) (ho:f.offset=i) (hc:P.cellsOf f.type=1) (ht:f.type=t) (hl:i<cs.length):
  ∃ v y,cs[i]?=some v/\DataW.trod enc P w base spare held n t [v]=some y:=by
 have h:=hf i f hi;have hx:i<xs.length:=by rw[hxl];exact(Array.getElem?_eq_some_iff.1 hi).1
 rw[ho,hc,ht,List.getElem?_eq_getElem hx] at h;have e:(cs.drop i).take 1=[cs[i]]:=by
  rw[List.drop_eq_getElem_cons hl];rfl
 rw[e] at h;exact⟨_,_,List.getElem?_eq_getElem hl,h⟩
theorem zFG {a:Int} (h:(Lit.int .i64 a).wf=true):-9223372036854775808<=a/\a<=9223372036854775807:=by
 simpa[Lit.wf,IntKind.min,IntKind.signed,IntKind.bits] using h
theorem zH9 {v:Value} {fuel:Nat} {x:DataW H×List MemPlace} (h:DataW.trod enc Tryz.prog w base (fun _=>true) held fuel 36 [v]=some x):∃ (ao:Option Addr) (cap:Nat) (l:List Chg),v=.slice ao l.length cap/\bW w ao l:=by
 rcases open_slice Tryz.underlying36 h with⟨hcs,_⟩|⟨a,len,cap,m,n,D,Pl,hcs,_,hl,hm,hmm,_,hx⟩
 ·simp at hcs;subst hcs;exact⟨_,_,[],rfl,.inl rfl⟩
 ·simp at hcs;subst hcs;simp only[if_true] at hmm;by_cases h0:len=0
  ·subst h0;exact⟨_,_,[],rfl,.inl rfl⟩
  ·obtain⟨b,off,spot⟩:=a;have hc3:Tryz.prog.cellsOf 133=3:=by kernel_rfl
   have hspot:spot=none:=by
    obtain⟨cs,h1,_⟩:=hx 0 (by omega);rw[hc3] at h1;obtain⟨_,hlen,hcell⟩:=World.cells?_some h1;have e0:=(hcell 0 (by omega)).trans (List.getElem?_eq_getElem (by omega));simpa[Addr.add] using World.cell?_spot e0
   subst hspot;have each:∀ i,i<len->∃ c:Chg,w.cell? ⟨b,off+i*3,none⟩=some (.string c.key)/\w.cell? ⟨b,off+i*3+1,none⟩=some (.string c.val)/\w.cell? ⟨b,off+i*3+2,none⟩=some (.bool c.gone):=by
    intro i hi;obtain⟨cs,h1,h2⟩:=hx i (by omega);rw[hc3] at h1;obtain⟨_,hlen,hcell⟩:=World.cells?_some h1;obtain⟨xs,k,hk,hxy,_,hxl,hf⟩:=DataW.trod_struct Tryz.underlying133 h2;obtain⟨v0,y0,e0,g0⟩:=dY (i:=0) (t:=9) hxl hf rfl rfl (by kernel_rfl) rfl (by omega);obtain⟨v1,y1,e1,g1⟩:=dY (i:=1) (t:=9) hxl hf rfl rfl (by kernel_rfl) rfl (by omega);obtain⟨v2,y2,e2,g2⟩:=dY (i:=2) (t:=4) hxl hf rfl rfl (by kernel_rfl) rfl (by omega);obtain⟨s0,q0,_,_⟩:=DataW.trod_string Tryz.underlying9 g0;obtain⟨s1,q1,_,_⟩:=DataW.trod_string Tryz.underlying9 g1;obtain⟨b2,q2,_⟩:=DataW.trod_bool Tryz.underlying4 g2;simp at q0 q1 q2;subst q0 q1 q2;have c0:=(hcell 0 (by omega)).trans e0;have c1:=(hcell 1 (by omega)).trans e1;have c2:=(hcell 2 (by omega)).trans e2;rw[add_add,add_plain] at c0 c1 c2;exact⟨⟨s0,s1,b2⟩,by simpa using c0,by simpa[Nat.add_assoc] using c1,by simpa[Nat.add_assoc] using c2⟩
   haveI:Inhabited Chg:=⟨⟨ByteArray.empty,ByteArray.empty,false⟩⟩
   obtain⟨q,hq⟩:=choose_lt each;refine⟨_,cap,(List.range len).map q,by simp,.inr ⟨b,off,rfl,?_⟩⟩;intro i hi;have hi':i<len:=by simpa using hi
   simpa using hq i hi'
theorem zGZ {v:Value} {fuel:Nat} {x:DataW H×List MemPlace} (h:DataW.trod enc Tryz.prog w base (fun _=>true) held fuel 37 [v]=some x):
  ∃ (ao:Option Addr) (cap:Nat) (l:List (ByteArray×ByteArray)),v=.slice ao l.length cap/\bY w ao l/\l.length<=maxLen/\(ao=none->cap=0/\l=[]):=by
 rcases open_slice Tryz.underlying37 h with⟨hcs,_⟩|⟨a,len,cap,m,n,D,Pl,hcs,_,hl,hm,hmm,_,hx⟩
 ·simp at hcs;subst hcs;exact⟨_,_,[],rfl,.inl rfl,Nat.zero_le _,fun _=>⟨rfl,rfl⟩⟩
 ·simp at hcs;subst hcs;simp only[if_true] at hmm;by_cases h0:len=0
  ·subst h0;exact⟨_,_,[],rfl,.inl rfl,Nat.zero_le _,fun h=>by cases h⟩
  ·obtain⟨b,off,spot⟩:=a;have hc3:Tryz.prog.cellsOf 80=2:=by kernel_rfl
   have hspot:spot=none:=by
    obtain⟨cs,h1,_⟩:=hx 0 (by omega);rw[hc3] at h1;obtain⟨_,hlen,hcell⟩:=World.cells?_some h1;have e0:=(hcell 0 (by omega)).trans (List.getElem?_eq_getElem (by omega));simpa[Addr.add] using World.cell?_spot e0
   subst hspot;have each:∀ i,i<len->∃ c:ByteArray×ByteArray,w.cell? ⟨b,off+i*2,none⟩=some (.string c.1)/\w.cell? ⟨b,off+i*2+1,none⟩=some (.string c.2):=by
    intro i hi;obtain⟨cs,h1,h2⟩:=hx i (by omega);rw[hc3] at h1;obtain⟨_,hlen,hcell⟩:=World.cells?_some h1;obtain⟨xs,k,hk,hxy,_,hxl,hf⟩:=DataW.trod_struct Tryz.underlying80 h2;obtain⟨v0,y0,e0,g0⟩:=dY (i:=0) (t:=9) hxl hf rfl rfl (by kernel_rfl) rfl (by omega);obtain⟨v1,y1,e1,g1⟩:=dY (i:=1) (t:=9) hxl hf rfl rfl (by kernel_rfl) rfl (by omega);obtain⟨s0,q0,_,_⟩:=DataW.trod_string Tryz.underlying9 g0;obtain⟨s1,q1,_,_⟩:=DataW.trod_string Tryz.underlying9 g1;simp at q0 q1;subst q0 q1;have c0:=(hcell 0 (by omega)).trans e0;have c1:=(hcell 1 (by omega)).trans e1;rw[add_add,add_plain] at c0 c1;exact⟨(s0,s1),by simpa using c0,by simpa[Nat.add_assoc] using c1⟩
   haveI:Inhabited (ByteArray×ByteArray):=⟨(ByteArray.empty,ByteArray.empty)⟩
   obtain⟨q,hq⟩:=choose_lt each;refine⟨_,cap,(List.range len).map q,by simp,.inr ⟨b,off,rfl,?_⟩,by simp;omega,fun h=>by cases h⟩;intro i hi;have hi':i<len:=by simpa using hi
   simpa using hq i hi'
theorem zH6 {v:Value} {fuel:Nat} {x:DataW H×List MemPlace} (h:DataW.trod enc Tryz.prog w base (fun _=>true) held fuel 22 [v]=some x):
  ∃ (ao:Option Addr) (cap:Nat) (l:List ActL),v=.slice ao l.length cap/\iM w ao l:=by
 rcases open_slice Tryz.underlying22 h with⟨hcs,_⟩|⟨a,len,cap,m,n,D,Pl,hcs,_,hl,hm,hmm,_,hx⟩
 ·simp at hcs;subst hcs;exact⟨_,_,[],rfl,.inl rfl⟩
 ·simp at hcs;subst hcs;simp only[if_true] at hmm;by_cases h0:len=0
  ·subst h0;exact⟨_,_,[],rfl,.inl rfl⟩
  ·obtain⟨b,off,spot⟩:=a;have hc9:Tryz.prog.cellsOf 39=9:=by kernel_rfl
   have hspot:spot=none:=by
    obtain⟨cs,h1,_⟩:=hx 0 (by omega);rw[hc9] at h1;obtain⟨_,hlen,hcell⟩:=World.cells?_some h1;have e0:=(hcell 0 (by omega)).trans (List.getElem?_eq_getElem (by omega));simpa[Addr.add] using World.cell?_spot e0
   subst hspot;have each:∀ i,i<len->∃ c:ActL,vI w b (off+i*9) c:=by
    intro i hi;obtain⟨cs,h1,h2⟩:=hx i (by omega);rw[hc9] at h1;obtain⟨_,hlen,hcell⟩:=World.cells?_some h1;obtain⟨xs,k,hk,hxy,_,hxl,hf⟩:=DataW.trod_struct Tryz.underlying39 h2;obtain⟨v0,y0,e0,g0⟩:=dY (i:=0) (t:=9) hxl hf rfl rfl (by kernel_rfl) rfl (by omega);obtain⟨v1,y1,e1,g1⟩:=dY (i:=1) (t:=3) hxl hf rfl rfl (by kernel_rfl) rfl (by omega);obtain⟨v2,y2,e2,g2⟩:=dY (i:=2) (t:=3) hxl hf rfl rfl (by kernel_rfl) rfl (by omega);obtain⟨v3,y3,e3,g3⟩:=dY (i:=3) (t:=3) hxl hf rfl rfl (by kernel_rfl) rfl (by omega);obtain⟨v4,y4,e4,g4⟩:=dY (i:=4) (t:=35) hxl hf rfl rfl (by kernel_rfl) rfl (by omega);obtain⟨v5,y5,e5,g5⟩:=dY (i:=5) (t:=9) hxl hf rfl rfl (by kernel_rfl) rfl (by omega);obtain⟨v6,y6,e6,g6⟩:=dY (i:=6) (t:=9) hxl hf rfl rfl (by kernel_rfl) rfl (by omega);obtain⟨v7,y7,e7,g7⟩:=dY (i:=7) (t:=36) hxl hf rfl rfl (by kernel_rfl) rfl (by omega);obtain⟨v8,y8,e8,g8⟩:=dY (i:=8) (t:=37) hxl hf rfl rfl (by kernel_rfl) rfl (by omega);obtain⟨s0,q0,_,_⟩:=DataW.trod_string Tryz.underlying9 g0;obtain⟨s1,q1,_,w1⟩:=DataW.trod_int Tryz.underlying3 g1;obtain⟨s2,q2,_,_⟩:=DataW.trod_int Tryz.underlying3 g2;obtain⟨s3,q3,_,_⟩:=DataW.trod_int Tryz.underlying3 g3;obtain⟨s4,q4,_,_⟩:=DataW.trod_int Tryz.underlying35 g4;obtain⟨s5,q5,_,_⟩:=DataW.trod_string Tryz.underlying9 g5;obtain⟨s6,q6,_,_⟩:=DataW.trod_string Tryz.underlying9 g6;obtain⟨ca,cc,chs,q7,h7⟩:=zH9 g7;obtain⟨sa,sc,sps,q8,h8,n8,_⟩:=zGZ g8;simp at q0 q1 q2 q3 q4 q5 q6;subst q0 q1 q2 q3 q4 q5 q6 q7 q8;have c0:=(hcell 0 (by omega)).trans e0;have c1:=(hcell 1 (by omega)).trans e1;have c2:=(hcell 2 (by omega)).trans e2;have c3:=(hcell 3 (by omega)).trans e3;have c4:=(hcell 4 (by omega)).trans e4;have c5:=(hcell 5 (by omega)).trans e5;have c6:=(hcell 6 (by omega)).trans e6;have c7:=(hcell 7 (by omega)).trans e7;have c8:=(hcell 8 (by omega)).trans e8;rw[add_add,add_plain,<-Nat.add_assoc] at c0 c1 c2 c3 c4 c5 c6 c7 c8;exact⟨⟨s0,s1,s2,s3,s4,s5,s6,ca,cc,chs,sa,sc,sps⟩,⟨c0,c1,c2,c3,c4,c5,c6,c7,c8,h7,h8,n8,zFG w1⟩⟩
   haveI:Inhabited ActL:=⟨⟨ByteArray.empty,0,0,0,0,ByteArray.empty,ByteArray.empty,none,0,[],none,0,[]⟩⟩
   obtain⟨q,hq⟩:=choose_lt each;refine⟨_,cap,(List.range len).map q,by simp,.inr ⟨b,off,rfl,?_⟩⟩;intro i hi;have hi':i<len:=by simpa using hi
   simpa using hq i hi'
end
theorem zCl {H:Type} {enc:TypeId×Value->H} {W:World} {base:Nat} {v:Value} {d:DataW H} {p:List MemPlace}
  (hv:Value.okWide Tryz.prog W .any base 22 v) (h:DataW.Trod enc Tryz.prog W 0 (fun _=>true) true 22 v d p):∃ (ao:Option Addr) (cap:Nat) (l:List ActL),v=.slice ao l.length cap/\iM W ao l/\l.length<=cap:=by
 obtain⟨a0,len,cap,rfl⟩:=okWide_slice Tryz.underlying22 hv;obtain⟨fuel,hf⟩:=h;have hf':DataW.trod enc Tryz.prog W 0 (fun _=>true) true fuel 22 [.slice a0 len cap]=some (d,p):=by simpa[Value.cells] using hf
 have hc:len<=cap:=by
  rcases open_slice Tryz.underlying22 hf' with⟨e,_⟩|⟨a,l,c,m,n,D,Pl,e,_,hl,_⟩
  ·simp at e;omega
  ·simp at e;omega
 obtain⟨ao,c,l,e,hl⟩:=zH6 hf';have e':=e;simp at e';exact⟨ao,c,l,e,hl,by omega⟩
end
end Go.Proofs.YtnboipekkahmnaaGreatDoor
