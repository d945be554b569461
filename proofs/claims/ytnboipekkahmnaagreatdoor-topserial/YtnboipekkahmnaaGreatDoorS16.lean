import Derived.Test.YtnboipekkahmnaaGreatDoorS15
set_option maxHeartbeats 8000000
set_option maxRecDepth 100000
namespace Go.Proofs.YtnboipekkahmnaaGreatDoor
open Obj renaming cells→o_
open World renaming cell?_of_block→b_,ownsRow.lt→l_
open Go.RowKit.Below renaming heap_setCell→h_,refl→r_
open Nat renaming le_refl→n_
open Tryz renaming prog→p_
open IntKind renaming i64→k_
open Go.Joins renaming below_alloc1→a_
section
open Go.RowKit Go.Joins Go.Shelf Go.WideShapes
attribute [local go_sem ↓] Go.wp_at_zero Go.wp_at_succ
def qM (m:Msg):List Value:=[.int .i64 m.1,.int .i64 m.2.1,.int .i64 m.2.2.1,.string m.2.2.2.1]
theorem zHG (m:Msg):∀ u∈qM m,u.oneCell'=true:=by
 intro u hu;simp only[qM,List.mem_cons,List.not_mem_nil,or_false] at hu;rcases hu with rfl|rfl|rfl|rfl<;>rfl
def ownM (w:World) (B:Nat) (v:Value) (l:List Msg):Prop:=w.ownsRow B 99 4 v l.length (l.flatMap qM)
theorem zJL:(Tryz.prog.info? 99).map (fun i=>(i.zero,i.size,i.bytes))=some (some (.agg #[.int .i64 0,.int .i64 0,.int .i64 0,.string ⟨#[]⟩]),4,40):=by kernel_rfl
theorem zIS {w:World} {B:Nat} {v:Value} {l:List Msg} {m:Msg} (h:w.ownsRow B 99 4 v (l.length+1) (l.flatMap qM++qM m)):ownM w B v (l++[m]):=by
 unfold ownM;rw[List.flatMap_append,List.length_append];simpa using h
def zNf (w w':World) (v:Value) (B wb:Nat) (S:Nat->Prop) (P:Rws) (since:Sn) (chs:List Chg) (rds:Rws) (l:List Msg):Prop:=
 ∃ S',ownM w' w.heap.size v l/\QV w' B wb S' P since chs rds/\aG w w' B S S'/\∀ k,v.ownBlock=some k->¬S' k
def rX (w w':World) (e:Ending) (B wb:Nat) (S:Nat->Prop) (P:Rws) (since:Sn) (chs:List Chg) (r:Nat×List Msg×Rws):Prop:=
 (r.1=0->∃ v,e=.returned (.tuple #[v,.nilIface])/\zNf w w' v B wb S P since chs r.2.2 r.2.1)/\(r.1≠0->e=.returned (.tuple #[.slice none 0 0,errV r.1])/\ActQ w w' B wb S P since chs r.2.2)
theorem rX.bad {w w':World} {B wb:Nat} {S:Nat->Prop} {P:Rws} {since:Sn} {chs:List Chg} {f:Nat} {l:List Msg} {rds:Rws} {ev:Value} (hf:f≠0) (he:ev=errV f) (ha:ActQ w w' B wb S P since chs rds):rX w w' (.returned (.tuple #[.slice none 0 0,ev])) B wb S P since chs (f,l,rds):=
 ⟨fun h=>absurd h hf,fun _=>⟨by rw[he],ha⟩⟩
theorem zG6 {l:Rws} {k:Nat} (hk:k<l.length) (h:eN (l.take k)=0):eN (l.take (k+1))=(mOf l[k].2 (numK l[k].1)).2.2.2.2:=by
 induction l generalizing k with
 | nil=>cases hk
 | cons r l ih=>
  cases k with
  | zero=>
   show(if (mOf r.2 (numK r.1)).2.2.2.2=0 then 0 else (mOf r.2 (numK r.1)).2.2.2.2)=_;split
   ·rename_i e;exact e.symm
   ·rfl
  | succ k=>
   have h':(if (mOf r.2 (numK r.1)).2.2.2.2=0 then eN (l.take k) else (mOf r.2 (numK r.1)).2.2.2.2)=0:=h;show(if (mOf r.2 (numK r.1)).2.2.2.2=0 then eN (l.take (k+1)) else (mOf r.2 (numK r.1)).2.2.2.2)=_;split at h'
   ·rename_i e;rw[if_pos e];exact ih (by simpa using hk) h'
   ·rename_i e;exact absurd h' e
theorem zEF {l:Rws} {k:Nat} (hk:k<l.length) (h:eN (l.take k)=0) (hb:(mOf l[k].2 (numK l[k].1)).2.2.2.2≠0):eN l=(mOf l[k].2 (numK l[k].1)).2.2.2.2:=by
 induction l generalizing k with
 | nil=>cases hk
 | cons r l ih=>
  cases k with
  | zero=>show(if (mOf r.2 (numK r.1)).2.2.2.2=0 then eN l else (mOf r.2 (numK r.1)).2.2.2.2)=_;rw[if_neg (by simpa using hb)];rfl
  | succ k=>
   have h':(if (mOf r.2 (numK r.1)).2.2.2.2=0 then eN (l.take k) else (mOf r.2 (numK r.1)).2.2.2.2)=0:=h;show(if (mOf r.2 (numK r.1)).2.2.2.2=0 then eN l else (mOf r.2 (numK r.1)).2.2.2.2)=_;split at h'
   ·rename_i e;rw[if_pos e];exact ih (by simpa using hk) h' (by simpa using hb)
   ·rename_i e;exact absurd h' e
theorem zF1 {l:Rws} {k:Nat} (hk:k<l.length):jQ (l.take (k+1))=jQ (l.take k)++[mOf l[k].2 (numK l[k].1)]:=by
 unfold jQ;rw[List.take_succ_eq_append_getElem hk,List.map_append];rfl
theorem rX.good {w w':World} {B wb:Nat} {S S':Nat->Prop} {P:Rws} {since:Sn} {chs:List Chg} {l:Rws} {rds:Rws} {v:Value} (hf:eN l=0) (ho:ownM w' w.heap.size v (jQ l)) (hq:QV w' B wb S' P since chs rds) (hs:aG w w' B S S') (hn:∀ k,v.ownBlock=some k->¬S' k):rX w w' (.returned (.tuple #[v,.nilIface])) B wb S P since chs (if eN l=0 then (0,jQ l,rds) else (eN l,[],rds)):=by
 rw[if_pos hf];exact⟨fun _=>⟨v,rfl,S',ho,hq,hs,hn⟩,fun h=>absurd rfl h⟩
theorem rX.worse {w w':World} {B wb:Nat} {S:Nat->Prop} {P:Rws} {since:Sn} {chs:List Chg} {f:Nat} {l:Rws} {rds:Rws} {ev:Value} (hl:eN l=f) (hf:f≠0) (he:ev=errV f) (ha:ActQ w w' B wb S P since chs rds):rX w w' (.returned (.tuple #[.slice none 0 0,ev])) B wb S P since chs (if eN l=0 then (0,jQ l,rds) else (eN l,[],rds)):=by
 rw[if_neg (by rw[hl];exact hf),hl];exact .bad hf he ha
theorem zCk (name:ByteArray) {B wb:Nat} {S:Nat->Prop} {P:Rws} {since:Sn} {chs:List Chg} {rds:Rws} (w:World) (h:QV w B wb S P since chs rds) (hn:name.size<=1000):
  Calls p_ 89 #[.pointer (some ⟨wb,0,none⟩),.string name] w fun e w'=>rX w w' e B wb S P since chs (cY P chs rds name):=by
 have n1:=bM 114;obtain⟨i0,hi0,hz0,hs0,hb0⟩:=info_parts zJL;have HLO:=hide h.pv.lo;have HF:=hide (kK name w h hn);have HQ:=hide h;have HFN:Hid ((aN P chs rds name).2.2.2=0->bK name.data.toList=true):=hide (fun he=>by unfold aN at he;split at he;assumption;cases he);unfold cY;generalize aN P chs rds name=q at *;generalize bC chs rds name=rds1 at *;obtain⟨qx,qy,qd,er⟩:=q;dsimp only at HF HFN ⊢;by_cases h1:er=0
 ·subst h1;rw[if_pos rfl];have hnm:=HFN.out rfl;have HE1:=hide bX;have HLF:Hid (∀ r∈(aF P chs (aZ name,toB name)).take 53,∃ n,n<=999999/\r.1=msgB name n/\r.2.size<=40):=hide (fun r hr=>by
   have hm:=List.mem_of_mem_take hr;obtain⟨a1,a2⟩:=tB HQ.out.ok (aZ name,toB name) r hm;obtain⟨n,hn',e⟩:=zJz hnm a1 (zA9 HQ.out.pv.ok.rise hm);exact⟨n,hn',e,a2⟩)
  have hl53:((aF P chs (aZ name,toB name)).take 53).length<=53:=by rw[List.length_take];omega
  clear HFN h;by_cases hsf:dL (aF P chs (aZ name,toB name)) rds1 (aZ name,toB name) 53=0
  ·rw[if_pos hsf];have HSC:=hide (fun (S1:Nat->Prop) (W:World) (hW:QV W B wb S1 P since chs rds1)=>zDp (aZ name,toB name) 53 W hW (by omega) hsf);rw[show((53:Int).toNat)=53 from rfl] at HSC;clear hsf hnm;generalize eP (aF P chs (aZ name,toB name)) rds1 (aZ name,toB name) 53=rds2 at *;generalize (aF P chs (aZ name,toB name)).take 53=l at *;generalize hr:(if eN l=0 then (0,jQ l,rds2) else (eN l,[],rds2))=r;have HR:=hide hr;clear hr;go_enter Tryz.func89,Tryz.ntmps89;go_wp2_with (first
    | (go_at_call 83;refine HF.out.mono ?_;rintro e w1 ⟨rfl,ha⟩;obtain⟨S1,hq1,hs1⟩:=ha;have hbQ:=a_ w1 (o_ #[.int .i64 qx,.int .i64 qy,.string qd] 145);have HQ1:=hide (hq1.on hbQ);have HS1:=hide (hs1.trans (.on hq1.pv.lo hbQ));clear hq1 hs1 hbQ;rw[HE1.out])
    | (go_at_call 157;refine(pM name _ (by omega)).mono ?_;rintro e w2 ⟨rfl,hb2⟩;have HQ2:=hide (HQ1.out.on hb2);have HS2:=hide (HS1.out.trans (.on HQ1.out.pv.lo hb2));clear hb2)
    | (go_at_call 42;refine(HSC.out _ _ HQ2.out).mono ?_;rintro e w3 ⟨v,rfl,ha⟩;obtain⟨ao,cap,S3,rfl,hc1,hc2,hh,hq3,hs3,hn3⟩:=ha;have HQ3:=hide hq3;have HS3:=hide (HS2.out.trans hs3);have HH:=hide hh;have hsz3:=(HS2.out.trans hs3).bel.size;clear hq3 hs3 hn3 hh)
    | fail)
   go_loopw [10,36] (fun v i wr=>∃ k:Nat,k<=l.length/\i=.int .i64 k/\ownM wr w3.heap.size v (jQ (l.take k))/\Below w3.heap.size w3 wr/\eN (l.take k)=0) (fun _ i _=>l.length-(intOf i).toNat)
   case atStart=>exact⟨0,Nat.zero_le _,rfl,World.ownsRow_nil _ _ _ _,r_ _ _,rfl⟩
   case round=>
    obtain⟨k,hk,rfl,hown,hB,hM⟩:=hrel;by_cases hlt:k<l.length
    ·rcases HH.out with e|⟨b,off,rfl,hsp⟩
     ·rw[e] at hlt;cases hlt
     obtain⟨c0,c1⟩:=gW hB hsp k hlt;have lk:(k:Int)<(l.length:Int):=by omega
     obtain⟨n,hn9,ek,hv40⟩:=HLF.out l[k] (List.getElem_mem hlt);have hnk:numK l[k].1=n:=by rw[ek];exact zDT name hn9
     have HP:Hid (∀ W:World,(∀ W',Below W.heap.size W W'->Laid W')->Calls p_ 158 #[.agg #[.string l[k].1,.string l[k].2]] W fun e w'=>e=.returned (.tuple #[mV (mOf l[k].2 (numK l[k].1)),errV (mOf l[k].2 (numK l[k].1)).2.2.2.2])/\Below W.heap.size W w'):=hide (by rw[hnk,ek];exact fun W hL=>yN name n l[k].2 W (by omega) hn9 (by omega) hL);have HMT:=hide (zG6 hlt hM);have HMF:=hide (zEF hlt hM);have HML:=hide (zF1 hlt);have HOWN0:=hide hown;have HB:=hide hB;have hlen:(jQ (l.take k)).length<=53:=by unfold jQ;rw[List.length_map,List.length_take];omega
     clear hnk ek hM hown hB hv40 HLF hsp;generalize mOf l[k].2 (numK l[k].1)=m at *;generalize jQ (l.take k)=out at *;generalize l[k].1=rk at *;generalize l[k].2=rv at *;obtain⟨mk,mt,mu,md,em⟩:=m;dsimp only at HP HMT HMF HML;have HLD:=hide (fun (W W':World) (h1:Below w3.heap.size w3 W) (h2:Below W.heap.size W W')=>HQ3.out.la W' ((h1.trans (h2.mono h1.size)).mono HQ3.out.pv.lo));by_cases hem:em=0
     ·subst hem;have HEM:=hide bX;go_wp2_with (first
       | (go_at_call 158;have hbR:=a_ wr (o_ #[.string rk,.string rv] 165);have HBR:=hide (HB.out.trans (hbR.mono HB.out.size));refine(HP.out _ (fun W' hW'=>HLD.out _ _ HBR.out hW')).mono ?_;rintro e w5 ⟨rfl,hb5⟩;have HB5:=hide (HBR.out.trans (hb5.mono HBR.out.size));have hbM:=a_ w5 (o_ #[.int .i64 mk,.int .i64 mt,.int .i64 mu,.string md] 99);have HOWN:=hide (bQ (bQ (bQ HOWN0.out hbR) hb5) hbM);have hb6:=HB5.out.trans (hbM.mono HB5.out.size);clear hbR hb5 hbM;rw[HEM.out])
       | (at_builtin;refine oS rfl _ _ 156 rfl w3.heap.size 99 i0 _ 4 40 Tryz.underlying156 hi0 hz0 hs0 hb0 rfl (by omega) (w5.alloc (o_ #[.int .i64 mk,.int .i64 mt,.int .i64 mu,.string md] 99)) (qM (mk,mt,mu,md,0)) rfl (zHG _) _ out.length (out.flatMap qM) HOWN.out rfl (by rw[show(w5.alloc (o_ #[.int .i64 mk,.int .i64 mt,.int .i64 mu,.string md] 99)).heap.size=w5.heap.size+1 by simp];rfl) (by omega) (by omega) hb6.size ?_;intro v1 w7 ho1 hb7;have HB7:Hid (Below w3.heap.size w3 w7):=(by first|exact hb7 w3 hb6|exact hb7 w3 (hb6.trans (below_draws _ _ _)));have HO7:Hid (ownM w7 w3.heap.size v1 (out++[(mk,mt,mu,md,0)])):=zIS ho1;clear ho1 hb7)
       | fail)
      exact⟨⟨k+1,by omega,by go_num,by rw[HML.out];exact HO7.out,HB7.out,HMT.out⟩,by simp[intOf];omega⟩
     ·have HEM:=hide (bJ hem);have HNZ:=hide hem;clear hem;go_wp2_with (first
       | (go_at_call 158;have hbR:=a_ wr (o_ #[.string rk,.string rv] 165);have HBR:=hide (HB.out.trans (hbR.mono HB.out.size));refine(HP.out _ (fun W' hW'=>HLD.out _ _ HBR.out hW')).mono ?_;rintro e w5 ⟨rfl,hb5⟩;have HB5:=hide (HBR.out.trans (hb5.mono HBR.out.size));have hbM:=a_ w5 (o_ #[.int .i64 mk,.int .i64 mt,.int .i64 mu,.string md] 99);have hb6:=HB5.out.trans (hbM.mono HB5.out.size);clear hbR hb5 hbM;rw[HEM.out])
       | fail)
      go_ret2;refine HR.out▸?_;exact .worse (HMF.out HNZ.out) HNZ.out HEM.out.symm ⟨_,HQ3.out.on hb6,HS3.out.trans (.on HQ3.out.pv.lo hb6)⟩
    ·have ek:k=l.length:=by omega
     subst ek;have hlt':¬(l.length:Int)<(l.length:Int):=by omega
     rw[List.take_length] at hown hM;have HM:=hide hM;have HOWN:=hide hown;clear hM hown;go_wp2;go_ret2;refine HR.out▸?_;exact .good HM.out (ownsRow_le HOWN.out hsz3) (HQ3.out.on hB) (HS3.out.trans (.on HQ3.out.pv.lo hB)) (fun k e hk=>by have h1:=(l_ HOWN.out k e).1;have h2:=HQ3.out.pv.lt hk;omega)
  ·rw[if_neg hsf];have HSC:=hide (fun (S1:Nat->Prop) (W:World) (hW:QV W B wb S1 P since chs rds1)=>zBd (aZ name,toB name) 53 W hW (by omega) hsf);generalize eP (aF P chs (aZ name,toB name)) rds1 (aZ name,toB name) 53=rds2 at *;generalize dL (aF P chs (aZ name,toB name)) rds1 (aZ name,toB name) 53=f at *;have HE2:=hide (bJ hsf);have HSF:=hide hsf;clear hsf hnm;go_enter Tryz.func89,Tryz.ntmps89;go_wp2_with (first
    | (go_at_call 83;refine HF.out.mono ?_;rintro e w1 ⟨rfl,ha⟩;obtain⟨S1,hq1,hs1⟩:=ha;have hbQ:=a_ w1 (o_ #[.int .i64 qx,.int .i64 qy,.string qd] 145);have HQ1:=hide (hq1.on hbQ);have HS1:=hide (hs1.trans (.on hq1.pv.lo hbQ));clear hq1 hs1 hbQ;rw[HE1.out])
    | (go_at_call 157;refine(pM name _ (by omega)).mono ?_;rintro e w2 ⟨rfl,hb2⟩;have HQ2:=hide (HQ1.out.on hb2);have HS2:=hide (HS1.out.trans (.on HQ1.out.pv.lo hb2));clear hb2)
    | (go_at_call 42;refine(HSC.out _ _ HQ2.out).mono ?_;rintro e w3 ⟨rfl,ha⟩;have HA:=hide (ActQ.after HS2.out ha);clear ha;rw[HE2.out])
    | fail)
   go_ret2;exact .bad HSF.out HE2.out.symm HA.out
 ·rw[if_neg h1];have HE1:=hide (bJ h1);have HER:=hide h1;clear h1 HFN;go_enter Tryz.func89,Tryz.ntmps89;go_wp2_with (first
   | (go_at_call 83;refine HF.out.mono ?_;rintro e w1 ⟨rfl,ha⟩;have hbQ:=a_ w1 (o_ #[.int .i64 qx,.int .i64 qy,.string qd] 145);have HA:=hide (ha.post hbQ);clear ha hbQ;rw[HE1.out])
   | fail)
  go_ret2;exact .bad HER.out HE1.out.symm HA.out
end
section
open Go.RowKit Go.Joins
structure ActL where
 kind:ByteArray
 a:Int
 b:Int
 c:Int
 k:Int
 s:ByteArray
 t:ByteArray
 ca:Option Addr
 cc:Nat
 chs:List Chg
 sa:Option Addr
 sc:Nat
 sps:List (ByteArray×ByteArray)
structure vI (w:World) (blk off:Nat) (x:ActL):Prop where
 kind:w.cell? ⟨blk,off,none⟩=some (.string x.kind)
 a:w.cell? ⟨blk,off+1,none⟩=some (.int .i64 x.a)
 b:w.cell? ⟨blk,off+2,none⟩=some (.int .i64 x.b)
 c:w.cell? ⟨blk,off+3,none⟩=some (.int .i64 x.c)
 k:w.cell? ⟨blk,off+4,none⟩=some (.int .u64 x.k)
 s:w.cell? ⟨blk,off+5,none⟩=some (.string x.s)
 t:w.cell? ⟨blk,off+6,none⟩=some (.string x.t)
 cl:w.cell? ⟨blk,off+7,none⟩=some (.slice x.ca x.chs.length x.cc)
 sl:w.cell? ⟨blk,off+8,none⟩=some (.slice x.sa x.sps.length x.sc)
 hc:bW w x.ca x.chs
 hs:bY w x.sa x.sps
 ns:x.sps.length<=maxLen
 ai:-9223372036854775808<=x.a/\x.a<=9223372036854775807
theorem vI.on {w w':World} {b off:Nat} {x:ActL} (hb:Below w.heap.size w w') (h:vI w b off x):vI w' b off x:=
 ⟨aA hb h.kind,aA hb h.a,aA hb h.b,aA hb h.c,aA hb h.k,aA hb h.s,aA hb h.t,aA hb h.cl,aA hb h.sl,eA hb h.hc,lX hb h.hs,h.ns,h.ai⟩
def zAf (w:World) (b off:Nat) (l:List ActL):Prop:=∀ i (h:i<l.length),vI w b (off+i*9) l[i]
theorem zHM {w w':World} {b off:Nat} {l:List ActL} (hb:Below w.heap.size w w') (h:zAf w b off l):zAf w' b off l:=fun i hi=>(h i hi).on hb
def iM (w:World) (ao:Option Addr) (l:List ActL):Prop:=l=[]∨∃ b off,ao=some ⟨b,off,none⟩/\zAf w b off l
theorem zHR {w w':World} {ao:Option Addr} {l:List ActL} (hb:Below w.heap.size w w') (h:iM w ao l):iM w' ao l:=by
 rcases h with h|⟨b,off,h,k⟩
 ·exact .inl h
 ·exact .inr ⟨b,off,h,zHM hb k⟩
def fE (x:ActL):Bool:=decide (x.s.size<=120)&&decide (x.t.size<=100)&&iR x.chs 20&&iA x.sps
def gT (l:List ActL) (n:Nat):Bool:=decide (l.length<=n)&&l.all fE
theorem zEn {l:List ActL} {k:Nat} (hk:k<l.length) (h:(l.take k).all fE=true) (h2:fE l[k]=true):(l.take (k+1)).all fE=true:=by
 rw[List.take_succ_eq_append_getElem hk,List.all_append,h];simp[h2]
theorem oZ {l:List ActL} {k n:Nat} (hk:k<l.length) (h:fE l[k]=false):gT l n=false:=by
 unfold gT;have:l.all fE=false:=by
  rw[List.all_eq_false];exact⟨l[k],List.getElem_mem hk,by simp[h]⟩
 rw[this,Bool.and_false]
theorem zAz (l:List ActL) (n b off cap:Nat) (w:World) (hl:zAf w b off l) (hm:n<=1000):
  Calls p_ 14 #[.slice (some ⟨b,off,none⟩) l.length cap,.int .i64 n] w fun e w'=>e=.returned (.bool (gT l n))/\w'=w:=by
 by_cases h50:l.length<=n
 ·have hg:decide ((n:Int)<(l.length:Int))=false:=by simp;omega
  have hg2:decide (n<l.length)=false:=by simp;omega
  go_enter Tryz.func14,Tryz.ntmps14;go_wp2
  go_loopw [5] (fun i wr=>∃ k:Nat,k<=l.length/\i=.int .i64 k/\(l.take k).all fE=true/\wr=w) (fun i _=>l.length-(intOf i).toNat)
  case atStart=>exact⟨0,Nat.zero_le _,rfl,by simp,rfl⟩
  case round=>
   obtain⟨k,hk,rfl,hall,rfl⟩:=hrel;have HA:=hide hall;clear hall;by_cases hlt:k<l.length
   ·have hx:=hl k hlt;have c5:=hx.s;have c6:=hx.t;have c7:=hx.cl;have c8:=hx.sl;have H7:=hide hx.hc;have H8:=hide hx.hs;have hns:=hx.ns;clear hx;by_cases h5:l[k].s.size<=120
    ·by_cases h6:l[k].t.size<=100
     ·have h5':¬(120:Int)<(l[k].s.size:Int):=by omega
      have h6':¬(100:Int)<(l[k].t.size:Int):=by omega
      cases h7:iR l[k].chs 20 with
      | false=>
       have H:=hide h7;clear h7;go_wp2_with (first
        | (go_at_call 58;refine(sV _ 20 _ _ _ H7.out (by omega)).mono ?_;rintro e w2 ⟨rfl,hw2⟩;have hw3:=hw2.symm;subst hw3;clear hw2;rw[H.out]))
       go_ret;exact⟨bB (oZ hlt (by simp[fE,H.out])).symm,rfl⟩
      | true=>
       have H:=hide h7;clear h7
       cases h8:iA l[k].sps with
       | false=>
        have H':=hide h8;clear h8;go_wp2_with (first
         | (go_at_call 58;refine(sV _ 20 _ _ _ H7.out (by omega)).mono ?_;rintro e w2 ⟨rfl,hw2⟩;have hw3:=hw2.symm;subst hw3;clear hw2;rw[H.out])
         | (go_at_call 41;refine(vD _ _ _ _ H8.out hns).mono ?_;rintro e w2 ⟨rfl,hw2⟩;have hw3:=hw2.symm;subst hw3;clear hw2;rw[H'.out]))
        go_ret;exact⟨bB (oZ hlt (by simp[fE,H'.out])).symm,rfl⟩
       | true=>
        have H':=hide h8;clear h8;go_wp2_with (first
         | (go_at_call 58;refine(sV _ 20 _ _ _ H7.out (by omega)).mono ?_;rintro e w2 ⟨rfl,hw2⟩;have hw3:=hw2.symm;subst hw3;clear hw2;rw[H.out])
         | (go_at_call 41;refine(vD _ _ _ _ H8.out hns).mono ?_;rintro e w2 ⟨rfl,hw2⟩;have hw3:=hw2.symm;subst hw3;clear hw2;rw[H'.out]))
        go_roundw
        case rel=>exact⟨k+1,by omega,by go_num,zEn hlt HA.out (by simp[fE,H.out,H'.out,h5,h6]),by first|rfl|trivial⟩
        case measure=>simp[intOf];omega
     ·have h5':¬(120:Int)<(l[k].s.size:Int):=by omega
      have h6':(100:Int)<(l[k].t.size:Int):=by omega
      go_wp2;go_ret;exact⟨bB (oZ hlt (by simp[fE,h6])).symm,rfl⟩
    ·have h5':(120:Int)<(l[k].s.size:Int):=by omega
     go_wp2;go_ret;exact⟨bB (oZ hlt (by simp[fE,h5])).symm,rfl⟩
   ·go_wp2;go_ret;refine⟨bB ?_,rfl⟩;have e:l.take k=l:=List.take_of_length_le (by omega);have:=HA.out;rw[e] at this;simp[gT,this,h50]
 ·have hg:decide ((n:Int)<(l.length:Int))=true:=by simp;omega
  go_enter Tryz.func14,Tryz.ntmps14;go_wp2;go_ret;exact⟨bB (by simp[gT,h50]),rfl⟩
theorem zB4 (ao:Option Addr) (n cap:Nat) (w:World):
  Calls p_ 14 #[.slice ao 0 cap,.int .i64 n] w fun e w'=>e=.returned (.bool true)/\w'=w:=by
 have hg:decide ((n:Int)<0)=false:=by simp
 go_enter Tryz.func14,Tryz.ntmps14;go_wp2;refine wp_loop_rounds 1 ?_;rw[rounds_succ];go_wp2;go_ret;exact⟨rfl,rfl⟩
theorem zCZ (l:List ActL) (n cap:Nat) (ao:Option Addr) (w:World) (hl:iM w ao l) (hm:n<=1000):
  Calls p_ 14 #[.slice ao l.length cap,.int .i64 n] w fun e w'=>e=.returned (.bool (gT l n))/\w'=w:=by
 rcases hl with rfl|⟨b,off,rfl,h⟩
 ·exact zB4 _ _ _ _
 ·exact zAz l n b off cap w h hm
theorem zEf (c:Chg):aD c<=3:=by unfold aD;(repeat' split)<;>first|decide|(dsimp only;omega)
theorem lZ (l:List Chg) (c:Chg):cH l c<=3:=by
 have:=zEf c;unfold cH;split
 ·split<;>decide
 ·exact this
theorem xG (l:Rws) (s:ByteArray×ByteArray):cZ l s<=2:=by unfold cZ;(repeat' split)<;>first|decide|(dsimp only;omega)
theorem zAH (chs:List Chg) (rds P:Rws) (key:ByteArray):(getP chs rds P key).2.2<=3:=by
 unfold getP;split
 ·split
  ·exact Nat.zero_le _
  ·split
   ·exact Nat.zero_le _
   ·exact Nat.le_trans (xG _ _) (by decide)
 ·exact n_ _
theorem zKE (x y:Int) (d:ByteArray):(mO x y d).2<=3:=by unfold mO;(repeat' split)<;>first|decide|(dsimp only;omega)
theorem zLw (x y:Int) (d:ByteArray):(nD x y d).2<=3:=by unfold nD;split<;>(dsimp only;omega)
theorem xT (chs:List Chg) (name:ByteArray) (x y:Int) (d:ByteArray):rA chs name x y d<=3:=by
 unfold rA;split
 ·exact lZ _ _
 ·exact zKE _ _ _
theorem xE (chs:List Chg) (name:ByteArray) (k x y:Int) (d:ByteArray):mK chs name k x y d<=3:=by
 unfold mK;split
 ·exact lZ _ _
 ·exact zLw _ _ _
theorem zMY (s:ByteArray):(qOf s).2.2.2<=4/\0<=(qOf s).1/\(qOf s).1<=999999:=by
 rcases vE s with⟨n,t,d,e,h,_⟩|⟨e,_⟩
 ·rw[e];have:=h.1;exact⟨by first|decide|(dsimp only;omega),by show(0:Int)<=(n:Int);omega,by show(n:Int)<=999999;omega⟩
 ·rw[e];exact⟨by first|decide|(dsimp only;omega),by first|decide|(dsimp only;omega),by first|decide|(dsimp only;omega)⟩
theorem lS (P:Rws) (chs:List Chg) (rds:Rws) (name:ByteArray):(aN P chs rds name).2.2.2<=5/\0<=(aN P chs rds name).1/\(aN P chs rds name).1<=999999:=by
 unfold aN;split
 ·split
  ·split
   ·have:=zMY (getP chs rds P (queB name)).1;exact⟨by omega,this.2⟩
   ·exact⟨by first|decide|(dsimp only;omega),by first|decide|(dsimp only;omega),by first|decide|(dsimp only;omega)⟩
  ·exact⟨Nat.le_trans (zAH chs rds P (queB name)) (by decide),by first|decide|(dsimp only;omega),by first|decide|(dsimp only;omega)⟩
 ·exact⟨by first|decide|(dsimp only;omega),by first|decide|(dsimp only;omega),by first|decide|(dsimp only;omega)⟩
theorem zHe (P:Rws) (chs:List Chg) (rds:Rws) (name:ByteArray) (tries:Int) (dead:ByteArray):(fD P chs rds name tries dead).1<=20:=by
 unfold fD;split
 ·split
  ·show 3<=20;decide
  ·split
   ·exact Nat.le_trans (xT ..) (by decide)
   ·split
    ·exact Nat.le_trans (xT ..) (by decide)
    ·exact Nat.le_trans (lS ..).1 (by decide)
 ·have:=(lS P chs rds name).1;show qK (aN P chs rds name).2.2.2<=20;unfold qK;split
  ·decide
  ·split
   ·decide
   ·omega
theorem zE4 (chs:List Chg) (name:ByteArray) (x y:Int) (d body:ByteArray) (u:Int) (h0:0<=x) (h1:x<=999999):(addQ chs name x y d body u).2.1<=8/\0<=(addQ chs name x y d body u).1/\(addQ chs name x y d body u).1<=999999:=by
 unfold addQ;split
 ·exact⟨by first|decide|(dsimp only;omega),by first|decide|(dsimp only;omega),by first|decide|(dsimp only;omega)⟩
 ·split
  ·exact⟨Nat.le_trans (xT ..) (by decide),h0,h1⟩
  ·exact⟨Nat.le_trans (xE ..) (by decide),by first|decide|(dsimp only;omega),by first|decide|(dsimp only;omega)⟩
theorem zLe (P:Rws) (chs:List Chg) (rds:Rws) (name body:ByteArray) (u:Int):(fN P chs rds name body u).2.1<=20/\0<=(fN P chs rds name body u).1/\(fN P chs rds name body u).1<=999999:=by
 have hf:=lS P chs rds name;have ha:=zE4 chs name (aN P chs rds name).1 (aN P chs rds name).2.1 (aN P chs rds name).2.2.1 body u hf.2.1 hf.2.2;unfold fN;split
 ·split
  ·split
   ·exact⟨by show 0<=20;decide,ha.2⟩
   ·exact⟨Nat.le_trans ha.1 (by decide),by first|decide|(dsimp only;omega),by first|decide|(dsimp only;omega)⟩
  ·exact⟨by show 1<=20;decide,by first|decide|(dsimp only;omega),by first|decide|(dsimp only;omega)⟩
 ·exact⟨Nat.le_trans hf.1 (by decide),by first|decide|(dsimp only;omega),by first|decide|(dsimp only;omega)⟩
theorem zAa (s:ByteArray) (k:Int):(mOf s k).2.2.2.2<=4/\(0<=(mOf s k).2.1/\(mOf s k).2.1<=9)/\(0<=(mOf s k).2.2.1/\(mOf s k).2.2.1<=2000000):=by
 rcases oB s k with⟨t,u,d,e,h,_⟩|⟨e,_⟩
 ·rw[e];have h1:=h.1;have h2:=h.2.1;exact⟨by show 0<=4;decide,⟨by show(0:Int)<=(t:Int);omega,by show(t:Int)<=9;omega⟩,by show(0:Int)<=(u:Int);omega,by show(u:Int)<=2000000;omega⟩
 ·rw[e];exact⟨by first|decide|(dsimp only;omega),⟨by first|decide|(dsimp only;omega),by first|decide|(dsimp only;omega)⟩,by first|decide|(dsimp only;omega),by first|decide|(dsimp only;omega)⟩
theorem zCK (P:Rws) (chs:List Chg) (rds:Rws) (name:ByteArray) (n tries:Int):(dQ P chs rds name n tries).1.2.2.2.2<=20:=by
 unfold dQ;split
 ·split
  ·show 1<=20;decide
  ·have:=zAH chs (bC chs rds name) P (msgB name (cP n));show(yH _ n tries).2.2.2.2<=20;generalize getP chs (bC chs rds name) P (msgB name (cP n))=t at *;have hm:=zAa t.1 n;unfold yH
   repeat' split
   all_goals first|(show 11<=20;decide)|(show(mOf t.1 n).2.2.2.2<=20;omega)|(show t.2.2<=20;omega)
 ·exact Nat.le_trans (lS ..).1 (by decide)
theorem zMr (P:Rws) (chs:List Chg) (rds:Rws) (name:ByteArray) (n tries:Int):(ackQ P chs rds name n tries).1<=20:=by
 unfold ackQ;split
 ·exact Nat.le_trans (lZ ..) (by decide)
 ·exact zCK ..
theorem zLi (P:Rws) (chs:List Chg) (rds:Rws) (name:ByteArray) (n tries u:Int):(iZ P chs rds name n tries u).1<=20:=by
 unfold iZ;split
 ·split
  ·exact Nat.le_trans (xE ..) (by decide)
  ·show 1<=20;decide
 ·exact zCK ..
def gU (m:Msg):Prop:=(-1000000<=m.1/\m.1<=1000000)/\(0<=m.2.1/\m.2.1<=20)/\(0<=m.2.2.1/\m.2.2.1<=2000000)/\m.2.2.2.2<=20/\m.2.2.2.1.size<=28
theorem gU.no {f:Nat} (h:f<=20):gU (noM f):=⟨⟨by simp,by simp⟩,⟨by simp,by simp⟩,⟨by simp,by simp⟩,h,by show(0:Nat)<=28;decide⟩
theorem zX:∀ (l:List UInt8) (acc n:Nat),Lib.decFrom acc l=some n->n<(acc+1)*10 ^ l.length
 | [],acc,n,h=>by
  simp only[Lib.decFrom,Option.some.injEq] at h;subst h;simp
 | b::r,acc,n,h=>by
  simp only[Lib.decFrom] at h
  cases hd:Lib.digitVal b with
  | none=>rw[hd] at h;cases h
  | some d=>
   rw[hd] at h;have h1:=zX r (acc*10+d) n h;have hd9:d<=9:=by
    unfold Lib.digitVal at hd;split at hd
    ·cases hd;omega
    ·cases hd
   rw[List.length_cons,Nat.pow_succ];have h2:(acc*10+d+1)<=(acc+1)*10:=by omega
   have h3:=Nat.mul_le_mul_right (10 ^ r.length) h2;have e:(acc+1)*(10 ^ r.length*10)=(acc+1)*10*10 ^ r.length:=by rw[Nat.mul_assoc,Nat.mul_comm 10]
   omega
theorem uI {l:List UInt8} {n:Nat} (h:Lib.decNat l=some n) (hl:l.length<=6):n<1000000:=by
 unfold Lib.decNat at h;split at h
 ·cases h
 ·have h1:=zX l 0 n h;have h2:10 ^ l.length<=10 ^ 6:=Nat.pow_le_pow_right (by decide) hl;have:(10:Nat) ^ 6=1000000:=rfl;omega
theorem zMm (k:ByteArray):-1000000<=numK k/\numK k<=1000000:=by
 unfold numK;have hl:(k.data.toList.drop (k.size-6)).length<=6:=by
  have:k.data.toList.length=k.size:=by rw[Array.length_toList];rfl
  rw[List.length_drop];omega
 generalize k.data.toList.drop (k.size-6)=l at *
 cases l with
 | nil=>decide
 | cons b r=>
  simp only[List.length_cons] at hl;simp only[Lib.atoi];split
  ·cases h:Lib.decNat r with
   | none=>simp
   | some n=>have:=uI h (by omega);simp;omega
  ·split
   ·cases h:Lib.decNat r with
    | none=>simp
    | some n=>have:=uI h (by omega);simp;omega
   ·cases h:Lib.decNat (b::r) with
    | none=>simp
    | some n=>have:=uI h (by simpa using hl);simp;omega
theorem zKb (s:ByteArray) (k:Int):(mOf s k).2.2.2.1.size<=28:=by
 rcases oB s k with⟨t,u,d,e,h,_⟩|⟨e,_⟩
 ·rw[e];exact h.2.2
 ·rw[e];show(0:Nat)<=28;decide
theorem zIF (s k:ByteArray):gU (mOf s (numK k)):=by
 have h1:=zAa s (numK k);have h2:=zMm k;refine⟨?_,⟨h1.2.1.1,by omega⟩,h1.2.2,by omega,zKb _ _⟩;rcases zE9 s (numK k) with e|e
 ·rw[e];exact h2
 ·rw[e];exact⟨by decide,by decide⟩
theorem zJb (L rds:Rws) (s:ByteArray×ByteArray):kT L rds s<=12:=by
 unfold kT;split
 ·split<;>decide
 ·exact Nat.le_trans (xG ..) (by decide)
theorem zJZ (P:Rws) (chs:List Chg) (rds:Rws) (key dead body:ByteArray):(iH P chs rds key dead body).1<=20:=by
 unfold iH;split
 ·split
  ·show 0<=20;decide
  ·have hf:=lS P (bG chs ⟨key,⟨#[]⟩,true⟩) rds dead;split
   ·exact Nat.le_trans (zE4 _ _ _ _ _ _ _ hf.2.1 hf.2.2).1 (by decide)
   ·exact Nat.le_trans hf.1 (by decide)
 ·exact Nat.le_trans (lZ ..) (by decide)
theorem zDM (P:Rws) (name:ByteArray) (tries:Int) (dead:ByteArray) (now u:Int) (hu0:0<=u) (hu1:u<=2000000):∀ (k:Nat) (chs:List Chg) (rds:Rws) (at_:ByteArray),gU (eO P name tries dead now u k chs rds at_).1
 | 0,chs,rds,at_=>gU.no (by decide)
 | k+1,chs,rds,at_=>by
  have ih:=zDM P name tries dead now u hu0 hu1 k;unfold eO;dsimp only;split
  ·have hm:=zIF (eE (aF P chs (at_,toB name)) rds (at_,toB name)).2 (eE (aF P chs (at_,toB name)) rds (at_,toB name)).1;have hm9:=zAa (eE (aF P chs (at_,toB name)) rds (at_,toB name)).2 (numK (eE (aF P chs (at_,toB name)) rds (at_,toB name)).1);split
   ·split
    ·exact ih _ _ _
    ·split
     ·have:=xE chs name (mOf (eE (aF P chs (at_,toB name)) rds (at_,toB name)).2 (numK (eE (aF P chs (at_,toB name)) rds (at_,toB name)).1)).1 ((mOf (eE (aF P chs (at_,toB name)) rds (at_,toB name)).2 (numK (eE (aF P chs (at_,toB name)) rds (at_,toB name)).1)).2.1+1) u (mOf (eE (aF P chs (at_,toB name)) rds (at_,toB name)).2 (numK (eE (aF P chs (at_,toB name)) rds (at_,toB name)).1)).2.2.2.1;refine⟨hm.1,⟨?_,?_⟩,⟨hu0,hu1⟩,?_,hm.2.2.2.2⟩
      ·show 0<=_+1;have:=hm.2.1;omega
      ·show _+1<=20;have:=hm9.2.1;omega
      ·exact Nat.le_trans this (by decide)
     ·split
      ·exact ih _ _ _
      ·exact gU.no (zJZ ..)
   ·exact gU.no hm.2.2.2.1
  ·exact gU.no (Nat.le_trans (zJb ..) (by decide))
theorem zE0 (P:Rws) (chs:List Chg) (rds:Rws) (name:ByteArray) (now long:Int):gU (dK P chs rds name now long).1:=by
 unfold dK;split
 ·split
  ·rename_i ht;have h1:=oW ht.1;have h2:=oW ht.2;have h3:=zDM P name (aN P chs rds name).2.1 (aN P chs rds name).2.2.1 now (now+long) (by omega) (by omega) 1000001 chs (bC chs rds name) (aZ name);split
   ·exact h3
   ·exact gU.no h3.2.2.2.1
  ·exact gU.no (by decide)
 ·exact gU.no (Nat.le_trans (lS ..).1 (by decide))
theorem xY (L rds:Rws) (s:ByteArray×ByteArray) (m:Int):dL L rds s m<=20:=by
 unfold dL;split
 ·decide
 ·exact Nat.le_trans (xG ..) (by decide)
theorem zDP:∀ (l:Rws),eN l<=20
 | []=>by unfold eN;decide
 | r::l=>by
  unfold eN;split
  ·exact zDP l
  ·have:=(zAa r.2 (numK r.1)).1;omega
theorem zCQ (P:Rws) (chs:List Chg) (rds:Rws) (name:ByteArray):(cY P chs rds name).1<=20/\(∀ m∈(cY P chs rds name).2.1,gU m)/\(cY P chs rds name).2.1.length<=1000:=by
 unfold cY;split
 ·split
  ·split
   ·refine⟨by show 0<=20;decide,fun m hm=>?_,by show(jQ _).length<=1000;unfold jQ;rw[List.length_map,List.length_take];omega⟩;obtain⟨r,_,rfl⟩:=List.mem_map.1 hm;exact zIF r.2 r.1
   ·exact⟨zDP _,(fun m hm=>by cases hm),Nat.zero_le _⟩
  ·exact⟨by dsimp only;exact xY ..,(fun m hm=>by cases hm),Nat.zero_le _⟩
 ·exact⟨Nat.le_trans (lS ..).1 (by decide),(fun m hm=>by cases hm),Nat.zero_le _⟩
def decZ (n:Int):ByteArray:=if n<0 then ⟨#[45]⟩++decB (-n).toNat else decB n.toNat
def eI (f:Nat):ByteArray:=⟨#[33]⟩++decB f
def msgT (m:Msg):ByteArray:=decZ m.1++⟨#[44]⟩++decZ m.2.1++⟨#[44]⟩++decZ m.2.2.1++⟨#[44]⟩++m.2.2.2.1
theorem lH {n:Nat} (h:n<=9999999):(decB n).size<=7:=by rw[Lib.size_eq,eM];exact eQ n h
theorem jY {n:Int} (h0:-9999999<=n) (h1:n<=9999999):(decZ n).size<=8:=by
 unfold decZ;split
 ·rw[ByteArray.size_append];have:=lH (n:=(-n).toNat) (by omega);show 1+_<=8;omega
 ·have:=lH (n:=n.toNat) (by omega);omega
theorem lA {f:Nat} (h:f<=20):(eI f).size<=8:=by
 unfold eI;rw[ByteArray.size_append];have:=lH (n:=f) (by omega);show 1+_<=8;omega
theorem uP {m:Msg} (h:gU m):(msgT m).size<=60:=by
 obtain⟨⟨a0,a1⟩,⟨b0,b1⟩,⟨c0,c1⟩,_,d⟩:=h;unfold msgT;simp only[ByteArray.size_append];have h1:=jY (n:=m.1) (by omega) (by omega);have h2:=jY (n:=m.2.1) (by omega) (by omega);have h3:=jY (n:=m.2.2.1) (by omega) (by omega);have e:(⟨#[44]⟩:ByteArray).size=1:=rfl;omega
def mG (l:List Msg):ByteArray:=l.foldl (fun t m=>t++msgT m++⟨#[59]⟩) ⟨#[]⟩
def iI (l:Rws):ByteArray:=l.foldl (fun t r=>t++r.1++⟨#[61]⟩++r.2++⟨#[59]⟩) ⟨#[]⟩
def lK (x:ActL):ByteArray×ByteArray:=match x.sps with
 | []=>(⟨#[]⟩,⟨#[]⟩)
 | s::_=>s
def isK (x:ActL) (l:List UInt8):Bool:=x.kind.toList==l
abbrev zMK:List UInt8:=[99,114,101,97,116,101]
abbrev zNb:List UInt8:=[115,101,110,100]
abbrev zLF:List UInt8:=[114,101,99,101,105,118,101]
abbrev kAck:List UInt8:=[97,99,107]
abbrev zNj:List UInt8:=[119,97,105,116]
abbrev kPut:List UInt8:=[112,117,116]
abbrev zMi:List UInt8:=[100,101,108,101,116,101]
abbrev kGet:List UInt8:=[103,101,116]
abbrev zHz:List UInt8:=[109,101,115,115,97,103,101,115]
theorem yC:∀ {l:List Msg},(∀ m∈l,gU m)->(mG l).size<=61*l.length:=by
 have aux:∀ (l:List Msg) (t:ByteArray),(∀ m∈l,gU m)->(l.foldl (fun t m=>t++msgT m++⟨#[59]⟩) t).size<=t.size+61*l.length:=by
  intro l
  induction l with
  | nil=>intro t _;simp
  | cons m l ih=>
   intro t h;rw[List.foldl_cons];have h1:=ih (t++msgT m++⟨#[59]⟩) fun x hx=>h x (List.mem_cons_of_mem _ hx);have h2:=uP (h m (List.mem_cons_self ..));simp only[ByteArray.size_append] at h1;have e:(⟨#[59]⟩:ByteArray).size=1:=rfl;rw[List.length_cons];omega
 intro l h;have:=aux l ⟨#[]⟩ h;have e:(⟨#[]⟩:ByteArray).size=0:=rfl;unfold mG;omega
theorem oN:∀ {l:Rws},(∀ r∈l,r.1.size<=60/\r.2.size<=40)->(iI l).size<=102*l.length:=by
 have aux:∀ (l:Rws) (t:ByteArray),(∀ r∈l,r.1.size<=60/\r.2.size<=40)->(l.foldl (fun t r=>t++r.1++⟨#[61]⟩++r.2++⟨#[59]⟩) t).size<=t.size+102*l.length:=by
  intro l
  induction l with
  | nil=>intro t _;simp
  | cons m l ih=>
   intro t h;rw[List.foldl_cons];have h1:=ih (t++m.1++⟨#[61]⟩++m.2++⟨#[59]⟩) fun x hx=>h x (List.mem_cons_of_mem _ hx);have h2:=h m (List.mem_cons_self ..);simp only[ByteArray.size_append] at h1;have e:(⟨#[59]⟩:ByteArray).size=1:=rfl;have e2:(⟨#[61]⟩:ByteArray).size=1:=rfl;rw[List.length_cons];omega
 intro l h;have:=aux l ⟨#[]⟩ h;have e:(⟨#[]⟩:ByteArray).size=0:=rfl;unfold iI;omega
def fY (P:Rws) (chs:List Chg) (rds:Rws) (x:ActL):ByteArray×List Chg×Rws:=
 if isK x zMK=true then (eI (fD P chs rds x.s x.a x.t).1,(fD P chs rds x.s x.a x.t).2)
 else if isK x zNb=true then (decZ (fN P chs rds x.s x.t x.a).1++eI (fN P chs rds x.s x.t x.a).2.1,(fN P chs rds x.s x.t x.a).2.2)
 else if isK x zLF=true then (msgT (dK P chs rds x.s x.a x.b).1++eI (dK P chs rds x.s x.a x.b).1.2.2.2.2,(dK P chs rds x.s x.a x.b).2)
 else if isK x kAck=true then (eI (ackQ P chs rds x.s x.a x.b).1,(ackQ P chs rds x.s x.a x.b).2)
 else if isK x zNj=true then (eI (iZ P chs rds x.s x.a x.b x.c).1,(iZ P chs rds x.s x.a x.b x.c).2)
 else if isK x kPut=true then (eI (cH chs ⟨x.s,x.t,false⟩),bG chs ⟨x.s,x.t,false⟩,rds)
 else if isK x zMi=true then (eI (cH chs ⟨x.s,⟨#[]⟩,true⟩),bG chs ⟨x.s,⟨#[]⟩,true⟩,rds)
 else if isK x kGet=true then ((if (getP chs rds P x.s).2.1=true then ⟨#[43]⟩++(getP chs rds P x.s).1 else (getP chs rds P x.s).1)++eI (getP chs rds P x.s).2.2,chs,getL chs rds x.s)
 else if isK x zHz=true then ((if (cY P chs rds x.s).1=0 then mG (cY P chs rds x.s).2.1 else ⟨#[]⟩)++eI (cY P chs rds x.s).1,chs,(cY P chs rds x.s).2.2)
 else ((if dL (aF P chs (lK x)) rds (lK x) x.a=0 then iI ((aF P chs (lK x)).take x.a.toNat) else ⟨#[]⟩)++eI (dL (aF P chs (lK x)) rds (lK x) x.a),chs,eP (aF P chs (lK x)) rds (lK x) x.a)
theorem zJT (n:Int):bits .and .i64 n 3=n % 4:=by
 have h3:(BitVec.ofInt 64 3).toNat=2 ^ 2-1:=by decide
 have key:(BitVec.ofInt 64 n &&& BitVec.ofInt 64 3).toNat=(n % ((2 ^ 64:Nat):Int)).toNat % 2 ^ 2:=by
  rw[BitVec.toNat_and,BitVec.toNat_ofInt,h3,Nat.and_two_pow_sub_one_eq_mod]
 show IntKind.i64.wrap ((BitVec.ofInt 64 n &&& BitVec.ofInt 64 3).toNat:Nat)=n % 4;rw[key,IntKind.wrap_i64];omega
def sesX (x:ActL):Nat:=(x.c % 4).toNat
theorem zFf (x:ActL):sesX x<4:=by unfold sesX;omega
theorem zL3 (x:ActL):bits .and .i64 x.c 3=(sesX x:Int):=by rw[zJT];unfold sesX;omega
abbrev kQ:List UInt8:=[98,101,103,105,110]
abbrev kZ:List UInt8:=[99,111,109,109,105,116]
abbrev rO:List UInt8:=[97,98,111,114,116]
abbrev rP:List UInt8:=[118,97,99,117,117,109]
abbrev zCp:List UInt8:=[115,97,118,101]
structure jR where
 at_:Nat
 reads:Bool
 acts:List ActL
 said:List ByteArray
def noD:jR:=⟨0,false,[],[]⟩
structure PSt where
 e:ESt
 cur:Nat->jR
 out:List jR
def setP (f:Nat->jR) (i:Nat) (d:jR):Nat->jR:=fun j=>if j=i then d else f j
theorem kN (f:Nat->jR) (i:Nat) (d:jR):setP f i d i=d:=if_pos rfl
theorem iY {f:Nat->jR} {i j:Nat} (d:jR) (h:j≠i):setP f i d j=f j:=if_neg h
def actE (s:ESt) (i:Nat) (v:VwL) (x:ActL):ESt:=jU s i v (fY v.P v.chs v.rds x).2.1 (fY v.P v.chs v.rds x).2.2
def plyP (p:PSt) (x:ActL):PSt:=
 let i:=sesX x
 if isK x kQ=true then (match p.e.ses i with
  | none=>⟨dX p.e i,setP p.cur i noD,p.out⟩
  | some _=>p)
 else if isK x kZ=true then (match p.e.ses i with
  | none=>p
  | some v=>if (comE p.e i).1.2=0 then ⟨(comE p.e i).2,setP p.cur i { p.cur i with at_:=(comE p.e i).1.1,reads:=v.chs.isEmpty },p.out++[{ p.cur i with at_:=(comE p.e i).1.1,reads:=v.chs.isEmpty }]⟩
   else ⟨(comE p.e i).2,p.cur,p.out⟩)
 else if isK x rO=true then ⟨(dS p.e i).2,p.cur,p.out⟩
 else if isK x rP=true then ⟨vacE p.e,p.cur,p.out⟩
 else if isK x zCp=true then ⟨chkE p.e,p.cur,p.out⟩
 else match p.e.ses i with
  | none=>p
  | some v=>⟨actE p.e i v x,setP p.cur i { p.cur i with acts:=(p.cur i).acts++[x],said:=(p.cur i).said++[(fY v.P v.chs v.rds x).1] },p.out⟩
def hO (s:ESt) (l:List ActL):PSt:=l.foldl plyP ⟨s,fun _=>noD,[]⟩
theorem zGw {s:ESt} {l:List ActL} {k:Nat} (hk:k<l.length):hO s (l.take (k+1))=plyP (hO s (l.take k)) l[k]:=by
 unfold hO;rw[List.take_succ_eq_append_getElem hk,List.foldl_append];rfl
end
section
open Go.RowKit Go.Joins
attribute [local go_sem ↓] Go.wp_at_zero Go.wp_at_succ
structure SHd (w:World) (sb db lb area:Nat) (v:Value):Prop where
 c0:w.cell? ⟨sb,0,none⟩=some (.pointer (some ⟨db,0,none⟩))
 c1:w.cell? ⟨sb,1,none⟩=some (.pointer (some ⟨lb,0,none⟩))
 c2:w.cell? ⟨sb,2,none⟩=some (.int .i64 (area:Int))
 c3:w.cell? ⟨sb,3,none⟩=some v
 soft:∀ j,w.frozen? ⟨sb,j,none⟩=false
structure SK (w:World) (B sb lb db:Nat) (S:Nat->Prop) (v:Value) (x:SSt):Prop where
 hd:SHd w sb db lb x.area v
 lk:LK w B lb db S 50 (x.d.now.length-50) x.first x.used x.d
 own:bO w B v x.rows
 ns:¬S sb
 nl:sb≠lb
 nv:∀ k,v.ownBlock=some k->k≠sb/\k≠lb/\¬S k
 lo:B<=sb
def inS (sb lb:Nat) (v:Value) (S:Nat->Prop) (k:Nat):Prop:=k=sb∨k=lb∨v.ownBlock=some k∨S k
def SA (w:World) (B sb db:Nat) (T:Nat->Prop) (x:SSt):Prop:=∃ lb S v,SK w B sb lb db S v x/\T=inS sb lb v S
def ActS (w w':World) (B sb db:Nat) (T:Nat->Prop) (x:SSt):Prop:=∃ T',SA w' B sb db T' x/\aG w w' B T T'
section
variable {w w':World} {B sb lb db:Nat} {S T:Nat->Prop} {v:Value} {x:SSt}
theorem SHd.kept {area:Nat} (h:SHd w sb db lb area v) (hk:w'.heap[sb]?=w.heap[sb]?):SHd w' sb db lb area v:=
 ⟨(b_ hk).trans h.c0,(b_ hk).trans h.c1,(b_ hk).trans h.c2,(b_ hk).trans h.c3,fun j=>(World.frozen?_of_block hk).trans (h.soft j)⟩
theorem SHd.lt {area:Nat} (h:SHd w sb db lb area v):sb<w.heap.size:=World.block_lt_of_cell? _ _ h.c0
theorem SK.lt (h:SK w B sb lb db S v x) {k:Nat} (hk:inS sb lb v S k):k<w.heap.size:=by
 rcases hk with rfl|rfl|hk|hk
 ·exact h.hd.lt
 ·exact h.lk.hd.lt
 ·exact(l_ h.own k hk).2
 ·exact h.lk.dk.lt hk
theorem SK.on (h:SK w B sb lb db S v x) (hb:Below w.heap.size w w'):SK w' B sb lb db S v x:=
 ⟨h.hd.kept (hb.block sb h.hd.lt),h.lk.on hb,bQ h.own hb,h.ns,h.nl,h.nv,h.lo⟩
theorem SA.on (h:SA w B sb db T x) (hb:Below w.heap.size w w'):SA w' B sb db T x:=by
 obtain⟨lb,S,v,h1,h2⟩:=h;exact⟨lb,S,v,h1.on hb,h2⟩
theorem SA.blo (h:SA w B sb db T x):B<=w.heap.size:=by
 obtain⟨lb,S,v,h1,h2⟩:=h;exact h1.lk.dk.lo
theorem SA.lt (h:SA w B sb db T x) {k:Nat} (hk:T k):k<w.heap.size:=by
 obtain⟨lb,S,v,h1,rfl⟩:=h;exact h1.lt hk
theorem SA.stay (h:SA w B sb db T x) (hb:Below w.heap.size w w'):ActS w w' B sb db T x:=⟨T,h.on hb,.on h.blo hb⟩
theorem ActS.post {w1:World} (ha:ActS w w1 B sb db T x) (hb:Below w1.heap.size w1 w'):ActS w w' B sb db T x:=by
 obtain⟨T2,h1,h2⟩:=ha;exact⟨T2,h1.on hb,h2.trans (.on h1.blo hb)⟩
theorem qF (w:World) (h:SA w B sb db T x):Calls p_ 193 #[.pointer (some ⟨sb,0,none⟩)] w fun e w'=>e=.returned (.int .i64 ((x.d.now.length-50-x.used:Nat):Int))/\∃ n,w'=w.drewN n:=by
 obtain⟨lb,S,v,h1,_⟩:=h;have c1:=h1.hd.c1;have hm:=h1.lk.dk.many;have HR:=hide (vB w h1.lk.hd h1.lk.us (by omega));clear h1;generalize x.d.now.length-50-x.used=r at *;go_enter Tryz.func193,Tryz.ntmps193;go_wp2_with (go_at_call 247;refine HR.out.mono ?_;rintro e w1 ⟨rfl,n,rfl⟩)
 go_ret;exact⟨rfl,n,rfl⟩
theorem zF6 {l:List Chg} {k:Nat} (hk:k<l.length):aS (l.take (k+1))=aS (l.take k)++[(l[k].key,l[k].val)]:=by
 unfold aS;rw[List.take_succ_eq_append_getElem hk,List.map_append];rfl
theorem zBm (w:World) (h:SA w B sb db T x) (hl:x.rows.length<=1000):Calls p_ 76 #[.pointer (some ⟨sb,0,none⟩)] w fun e w'=>∃ v,e=.returned v/\ownP w' w.heap.size v (aS x.rows)/\Below w.heap.size w w':=by
 obtain⟨lb,S,v,h1,_⟩:=h;have c3:=h1.hd.c3;have HO:=hide h1.own;clear h1;generalize x.rows=l at *;obtain⟨i0,hi0,hz0,hs0,hb0⟩:=info_parts zCS;obtain⟨ao,cap,rfl,hh⟩:∃ ao cap,v=.slice ao l.length cap/\bW w ao l:=by
  rcases aX HO.out with⟨e,e2⟩|⟨g,cap,e,_⟩
  ·exact⟨none,0,by rw[e,e2],.inl (List.length_eq_zero_iff.1 e2)⟩
  ·refine⟨some ⟨g,0,none⟩,cap,e,.inr ⟨g,0,rfl,eW l 0 fun j u hj=>?_⟩⟩;have:=World.ownsRow.cells HO.out (g:=g) (by rw[e];rfl) j u hj;rwa [Go.WideShapes.add_plain] at this
 have HD:=hide hh;clear hh HO;go_enter Tryz.func76,Tryz.ntmps76;go_wp2
 go_loopw [3,11] (fun v iv wr=>∃ k:Nat,k<=l.length/\iv=.int .i64 (k:Int)/\ownP wr w.heap.size v (aS (l.take k))/\Below w.heap.size w wr) (fun _ iv _=>l.length-(intOf iv).toNat)
 case atStart=>exact⟨0,Nat.zero_le _,rfl,World.ownsRow_nil _ _ _ _,r_ _ _⟩
 case round=>
  obtain⟨k,hk,rfl,ho,hb⟩:=hrel;clear c3;have hrl:(aS (l.take k)).length=k:=by unfold aS;rw[List.length_map,List.length_take];omega
  by_cases hlt:k<l.length
  ·have hlt':(k:Int)<(l.length:Int):=by omega
   have hk0:(0:Int)<=(k:Int):=by omega
   rcases HD.out with e|⟨b,off,e,hch⟩
   ·rw[e] at hlt;simp at hlt
   subst e;obtain⟨x0,x1,x2⟩:=hch k hlt;have hft:=zF6 hlt;clear hch;generalize l[k]=c at *;generalize aS (l.take k)=m at *;replace x0:=aA hb x0;replace x1:=aA hb x1;replace x2:=aA hb x2;have HO:=hide ho;have HBR:=hide hb;have HFT:=hide hft;have hbx:=a_ wr (o_ #[.string c.key,.string c.val,.bool c.gone] 133);have HBX:=hide (aB HBR.out (n_ _) hbx);have HO1:=hide (bQ HO.out hbx);clear ho hb hft hbx;have HRL:=hide hrl;have y0:(wr.alloc (o_ #[.string c.key,.string c.val,.bool c.gone] 133)).cell? ⟨wr.heap.size,0,none⟩=some (.string c.key):=aC _ _ _ 0;have y1:(wr.alloc (o_ #[.string c.key,.string c.val,.bool c.gone] 133)).cell? ⟨wr.heap.size,1,none⟩=some (.string c.val):=aC _ _ _ 1
   go_upto_region 5 with(fail)
   generalize wr.alloc (o_ #[.string c.key,.string c.val,.bool c.gone] 133)=W at *;generalize wr.heap.size=cb at *;go_wp2_with (at_builtin;refine oS rfl _ _ 32 rfl w.heap.size 165 i0 _ 2 32 Tryz.underlying32 hi0 hz0 hs0 hb0 rfl (by omega) W (aV (c.key,c.val)) rfl (zHn _) _ m.length (m.flatMap aV) HO1.out rfl rfl (by omega) (by omega) HBX.out.size ?_;intro v9 w9 ho9 hb9;have HO9:=hide (zIa ho9);have HB9:=hide (hb9 w HBX.out);clear ho9 hb9)
   exact⟨⟨k+1,by omega,by go_num,by rw[HFT.out];exact HO9.out,HB9.out⟩,by simp[intOf];omega⟩
  ·have ek:k=l.length:=by omega
   subst ek;have hlt':¬(l.length:Int)<(l.length:Int):=by omega
   rw[List.take_length] at ho;have HO:=hide ho;have HBR:=hide hb;clear ho hb;go_wp2;go_ret;exact⟨_,rfl,HO.out,HBR.out⟩
end
theorem zM9 {W:World} {b b':Nat} {x y z a0 a1 a2:Value} (hne:b'≠b) (h:W.cell? ⟨b',0,none⟩=some a0/\W.cell? ⟨b',1,none⟩=some a1/\W.cell? ⟨b',2,none⟩=some a2):
  (((W.setCell ⟨b,0,none⟩ x).setCell ⟨b,1,none⟩ y).setCell ⟨b,2,none⟩ z).cell? ⟨b',0,none⟩=some a0/\(((W.setCell ⟨b,0,none⟩ x).setCell ⟨b,1,none⟩ y).setCell ⟨b,2,none⟩ z).cell? ⟨b',1,none⟩=some a1/\(((W.setCell ⟨b,0,none⟩ x).setCell ⟨b,1,none⟩ y).setCell ⟨b,2,none⟩ z).cell? ⟨b',2,none⟩=some a2:=by
 have hk:∀ k,k≠b->(((W.setCell ⟨b,0,none⟩ x).setCell ⟨b,1,none⟩ y).setCell ⟨b,2,none⟩ z).heap[k]?=W.heap[k]?:=fun k hn=>(h_ _ _ _ _ hn).trans ((h_ _ _ _ _ hn).trans (h_ _ _ _ _ hn));exact⟨(b_ (a:=⟨b',0,none⟩) (hk b' hne)).trans h.1,(b_ (a:=⟨b',1,none⟩) (hk b' hne)).trans h.2.1,(b_ (a:=⟨b',2,none⟩) (hk b' hne)).trans h.2.2⟩
section
variable {B db:Nat} {S:Nat->Prop} {s:DSt}
structure LyI (w W:World) (B db:Nat) (S S':Nat->Prop) (s:DSt):Prop where
 dk:DK W B db S' s
 n:¬S' w.heap.size
 st:aG w W B S S'
 c0:W.cell? ⟨w.heap.size,0,none⟩=some (.int .i64 0)
 c1:W.cell? ⟨w.heap.size,1,none⟩=some (.int .i64 0)
 c2:W.cell? ⟨w.heap.size,2,none⟩=some (.int .i64 0)
 f:∀ j,W.frozen? ⟨w.heap.size,j,none⟩=false
theorem LyI.lt {w W:World} {S':Nat->Prop} (h:LyI w W B db S S' s):w.heap.size<W.heap.size:=World.block_lt_of_cell? _ _ h.c0
theorem LyI.on {w W W':World} {S':Nat->Prop} (h:LyI w W B db S S' s) (hb:Below W.heap.size W W') (hB:B<=w.heap.size):LyI w W' B db S S' s:=by
 have hl:=h.lt;exact⟨h.dk.on hb,h.n,h.st.trans (.on (by omega) hb),aA hb h.c0,aA hb h.c1,aA hb h.c2,fun j=>aE hb hl (h.f j)⟩
theorem LyI.step {w W W':World} {S':Nat->Prop} {s':DSt} (h:LyI w W B db S S' s) (hs:ActD W W' B db S' s'):∃ S2,LyI w W' B db S S2 s'/\aG W W' B S' S2:=by
 obtain⟨S2,k1,k2⟩:=hs;have f:=k2.far w.heap.size h.lt h.n;exact⟨S2,⟨k1,f.2,h.st.trans k2,(b_ (a:=⟨w.heap.size,0,none⟩) f.1).trans h.c0,(b_ (a:=⟨w.heap.size,1,none⟩) f.1).trans h.c1,(b_ (a:=⟨w.heap.size,2,none⟩) f.1).trans h.c2,fun j=>(World.frozen?_of_block (a:=⟨w.heap.size,j,none⟩) f.1).trans (h.f j)⟩,k2⟩
theorem LyI.set {w W:World} {S':Nat->Prop} (h:LyI w W B db S S' s) (hB:B<=w.heap.size) (x y z:Value):ActD w (((W.setCell ⟨w.heap.size,0,none⟩ x).setCell ⟨w.heap.size,1,none⟩ y).setCell ⟨w.heap.size,2,none⟩ z) B db S s:=by
 have hk:∀ k,k≠w.heap.size->(((W.setCell ⟨w.heap.size,0,none⟩ x).setCell ⟨w.heap.size,1,none⟩ y).setCell ⟨w.heap.size,2,none⟩ z).heap[k]?=W.heap[k]?:=fun k hn=>(h_ _ _ _ _ hn).trans ((h_ _ _ _ _ hn).trans (h_ _ _ _ _ hn));refine⟨S',h.dk.kept (by simp) fun k e=>hk k fun e2=>h.n (e2▸e),((h.st.bel.setCell (p:=⟨w.heap.size,0,none⟩) hB x).setCell (p:=⟨w.heap.size,1,none⟩) hB y).setCell (p:=⟨w.heap.size,2,none⟩) hB z,fun j hj hn=>?_⟩;obtain⟨f1,f2⟩:=h.st.far j hj hn;exact⟨(hk j (by omega)).trans f1,f2⟩
theorem zCI (area:Nat) (rows:List Chg) (ao:Option Addr) (cap:Nat) (w:World) (hk:DK w B db S s) (ha:area<=1) (hn:54<=s.now.length) (hd:bW w ao rows) (hf:fH rows) (hfew:rows.length<=40):
  Calls p_ 124 #[.pointer (some ⟨db,0,none⟩),.int .i64 (area:Int),.slice ao rows.length cap] w fun e w'=>∃ rv,e=.returned (.tuple #[rv,errV (dC area rows s).1])/\zIp rv (dC area rows s).1 area (aM s.now) (aO rows).size/\ActD w w' B db S (dC area rows s).2:=by
 have hps:=jA hf hfew;have hz:∀ c∈rows,c.key.size<=255/\c.val.size<=255:=fun c hc=>by have:=iS (hf.1 c hc).1;omega
 have hB:=hk.lo;have hB0:=a_ w (o_ #[.int k_ 0,.int k_ 0,.int k_ 0] 202);have HPK:=hide (zKa rows ao cap _ (eA hB0 hd) (by omega) hz);have hly:LyI w (w.alloc (o_ #[.int k_ 0,.int k_ 0,.int k_ 0] 202)) B db S S s:=⟨hk.on hB0,fun e=>by have:=hk.lt e;omega,.on hB hB0,aC _ _ _ 0,aC _ _ _ 1,aC _ _ _ 2,fun j=>aQ _ _ _ j⟩;have HLY:=hide hly;have hfr:=rB s.now;rw[zFV];have hpk:∀ (r:Nat×DSt),r=runD (aL (aJ area) (bI (aO rows))) s->r.2.now[50]?=s.now[50]?/\r.2.now.length=s.now.length:=fun r e=>by
  rw[e];refine⟨zKV _ 50 s fun o ho a d e=>?_,fS _ _⟩;obtain⟨q1,q2,_⟩:=sX _ _ o ho a d e;rw[sC] at q2;unfold aJ bT at *;omega
 obtain⟨r,hr⟩:∃ r,r=runD (aL (aJ area) (bI (aO rows))) s:=⟨_,rfl⟩;have hr50:=hpk r hr;have hSl:∀ k,S k->k<w.heap.size:=fun k e=>hk.lt e;have HLT:Hid (∀ W v,LyI w W B db S S s->W.ownsRow (w.heap.size+1) 5 1 v (aO rows).size (Lib.strCells (aO rows))->Calls p_ 181 #[.pointer (some ⟨db,0,none⟩),.int .i64 (area:Int),v] W fun e w'=>e=.returned (errV r.1)/\∃ S',LyI w w' B db S S' r.2):=fun W v hl ho=>by
  have go:∀ ao' cap',v=.slice ao' (aO rows).size cap'->zDg ao' cap' (aO rows)->(0<(aO rows).size->¬S (iW ao'))->(∀ j u,(Lib.strCells (aO rows))[j]?=some u->W.cell? ⟨iW ao',j,none⟩=some u)->Calls p_ 181 #[.pointer (some ⟨db,0,none⟩),.int .i64 (area:Int),v] W fun e w'=>e=.returned (errV r.1)/\∃ S',LyI w w' B db S S' r.2:=fun ao' cap' hv hti hbs hcs=>by
   rw[hv,hr];refine(zES area (aO rows) ao' cap' W hl.dk ha (by omega) hti hbs hcs).mono ?_;rintro e w' ⟨rfl,ha'⟩;obtain⟨S2,q,_⟩:=hl.step ha';exact⟨rfl,S2,q⟩
  rcases ho.2 with⟨e,e2⟩|⟨g,cap',cur,e,hb,hg,h1,h2,h3⟩
  ·have et:aO rows=⟨#[]⟩:=zIK e2;refine go none 0 (by rw[e,e2]) (.inl ⟨rfl,rfl,et⟩) (fun h=>by omega) (fun j u h=>?_);rw[et] at h;simp[Lib.strCells] at h
  ·unfold maxLen at h2;refine go _ cap' e (.inr ⟨g,rfl,h1,h2⟩) (fun _ e3=>by have:=hSl _ e3;have e4:iW (some ⟨g,0,none⟩)=g:=rfl;omega) (fun j u h=>?_);have:=World.ownsRow.cells ho (g:=g) (by rw[e];rfl) j u h;rw[Go.WideShapes.add_plain,Nat.zero_add] at this;exact this
 clear hpk;rw[<-hr];have HRT:=fun w'=>hide (zHN area (aM s.now) (aO rows).size ha (by omega) (by omega) w');have HRE:Hid (eK area (aM s.now) rows=iG area (aM s.now) (aO rows).size):=rfl;rw[HRE.out];clear HRE;have hz0:(w.alloc (o_ #[.int k_ 0,.int k_ 0,.int k_ 0] 202)).heap.size=w.heap.size+1:=by simp
 generalize hsz:(aO rows).size=size at *;generalize iG area (aM s.now) size=rt at *;have HR:=hide hr;have HR50:=hide hr50;have HHK:=hide hk;clear hk hr hr50 hd hz hly;go_enter Tryz.func124,Tryz.ntmps124;go_wp2_with fail;refine HPK.out.mono ?_;rintro e w1 ⟨v1,rfl,ho1,hb1⟩;rw[hsz,hz0] at ho1;have HSZ:=hide hsz;clear hsz;have hl1:=HLY.out.on hb1 hB;obtain⟨a1,c1,rfl⟩:∃ a1 c1,v1=.slice a1 size c1:=by
  rcases ho1.2 with⟨e,e2⟩|⟨g,cap',cur,e,_⟩
  ·exact⟨none,0,by rw[e,e2]⟩
  ·exact⟨_,cap',e⟩
 have HC:=hide (HLT.out _ _ hl1 ho1);clear hb1 ho1 hl1 hB0 HLY HPK hz0 HLT;go_wp2_with fail;refine HC.out.mono ?_;rintro e w2 ⟨rfl,S2,hl2⟩;clear HC;have q0:=hl2.c0;have q1:=hl2.c1;have q2:=hl2.c2;have qf:=hl2.f;have HL2:=hide hl2;clear hl2;by_cases h1:r.1=0
 ·rw[h1,aR];have HH1:=hide h1;clear h1;clear q0 q1 q2 qf;go_wp2_with fail;refine(tC _ HL2.out.dk).mono ?_;rintro e w3 ⟨rfl,ha3⟩;obtain⟨S3,hl3,_⟩:=HL2.out.step ha3;have HL3:=hide hl3;have q0:=hl3.c0;have q1:=hl3.c1;have q2:=hl3.c2;have qf:=hl3.f;clear ha3 hl3 HL2;by_cases h2:cD r.2=0
  ·rw[h2,aR];have hnow:(bZ r.2).now=r.2.now:=by unfold bZ;rw[if_pos h2];exact(eH _).1
   have hfn:aM (bZ r.2).now=aM s.now:=by rw[hnow];exact zG3 HR50.out.1
   have hup:=zJK h2;have HFR:=hide (zHS w3 HL3.out.dk hup (by rw[hnow,HR50.out.2];omega));rw[hfn] at HFR;have HH2:=hide h2;clear h2 hnow hfn hup q0 q1 q2 qf;go_wp2_with fail;refine HFR.out.mono ?_;rintro e w4 ⟨rfl,hb4⟩;have HL4:=hide (HL3.out.on hb4 hB);have hbA:=a_ w4 (o_ #[.int k_ (area:Int),.int k_ (aM s.now:Int),.int k_ (size:Int)] 202);have HL5:=hide (HL4.out.on hbA hB);have HNB:Hid (¬S3 w4.heap.size/\w4.heap.size≠w.heap.size):=⟨fun e=>by have:=HL4.out.dk.lt e;omega,by have:=HL4.out.lt;omega⟩;have g0:(w4.alloc (o_ #[.int k_ (area:Int),.int k_ (aM s.now:Int),.int k_ (size:Int)] 202)).cell? ⟨w4.heap.size,0,none⟩=some (.int .i64 (area:Int)):=aC _ _ _ 0;have g1:(w4.alloc (o_ #[.int k_ (area:Int),.int k_ (aM s.now:Int),.int k_ (size:Int)] 202)).cell? ⟨w4.heap.size,1,none⟩=some (.int .i64 (aM s.now:Int)):=aC _ _ _ 1;have g2:(w4.alloc (o_ #[.int k_ (area:Int),.int k_ (aM s.now:Int),.int k_ (size:Int)] 202)).cell? ⟨w4.heap.size,2,none⟩=some (.int .i64 (size:Int)):=aC _ _ _ 2;have HG:=hide (And.intro g0 (And.intro g1 g2));have HZ4:Hid (w4.heap.size<(w4.alloc (o_ #[.int k_ (area:Int),.int k_ (aM s.now:Int),.int k_ (size:Int)] 202)).heap.size):=hide (by simp);clear hb4 hbA g0 g1 g2 HL3 HFR HL4;go_wp2_with fail;refine((HRT _).out).mono ?_;rintro e w5 ⟨rfl,hb5⟩;have HL6:=hide (HL5.out.on hb5 hB);have HG5:Hid (w5.cell? ⟨w4.heap.size,0,none⟩=some (.int .i64 (area:Int))/\w5.cell? ⟨w4.heap.size,1,none⟩=some (.int .i64 (aM s.now:Int))/\w5.cell? ⟨w4.heap.size,2,none⟩=some (.int .i64 (size:Int))/\w4.heap.size<w5.heap.size):=⟨aA hb5 HG.out.1,aA hb5 HG.out.2.1,aA hb5 HG.out.2.2,Nat.lt_of_lt_of_le HZ4.out hb5.size⟩;clear hb5 HG HZ4 HL5;go_wp2_with fail;refine(sH 0 rt _ HL6.out.dk).mono ?_;rintro e w6 ⟨rfl,ha6⟩;obtain⟨S6,hl6,hs6⟩:=HL6.out.step ha6;have f6:=hs6.far w4.heap.size HG5.out.2.2.2 HNB.out.1;have g0:w6.cell? ⟨w4.heap.size,0,none⟩=some (.int .i64 (area:Int)):=(b_ (a:=⟨w4.heap.size,0,none⟩) f6.1).trans HG5.out.1;have g1:w6.cell? ⟨w4.heap.size,1,none⟩=some (.int .i64 (aM s.now:Int)):=(b_ (a:=⟨w4.heap.size,1,none⟩) f6.1).trans HG5.out.2.1;have g2:w6.cell? ⟨w4.heap.size,2,none⟩=some (.int .i64 (size:Int)):=(b_ (a:=⟨w4.heap.size,2,none⟩) f6.1).trans HG5.out.2.2.1;have HN6:=hide f6.2;have HL7:=hide hl6;have q0:=hl6.c0;have q1:=hl6.c1;have q2:=hl6.c2;have qf:=hl6.f;have HZ6:Hid (w4.heap.size<w6.heap.size):=World.block_lt_of_cell? _ _ g0;clear ha6 hl6 hs6 f6 HL6 HG5;generalize hs6e:cV (bZ r.2) 0 rt=s6 at *;have HE6:=hide hs6e;clear hs6e;by_cases h3:dO (bZ r.2) 0 rt=0
   ·rw[h3,aR];have HH3:=hide h3;clear h3;have HFL:Hid (∀ W,LyI w W B db S S6 s6->Calls p_ 182 #[.pointer (some ⟨db,0,none⟩)] W fun e w'=>e=.returned (errV (cD s6))/\ActD W w' B db S6 (bZ s6)):=fun W h=>tC W h.dk;have HLD:=hide (HL7.out.on (r_ _ w6).drew hB);have hne:=HNB.out.2;go_wp2_with fail
    go_region_held3 (fun w'=>w'.cell? ⟨w4.heap.size,0,none⟩=some (.int .i64 (area:Int))/\w'.cell? ⟨w4.heap.size,1,none⟩=some (.int .i64 (aM s.now:Int))/\w'.cell? ⟨w4.heap.size,2,none⟩=some (.int .i64 (size:Int))) (first|go_keep|exact⟨g0,g1,g2⟩|exact HG7.out|exact zM9 HNB.out.2 HG7.out) (first|(go_at_call 182;refine(HFL.out _ HLD.out).mono ?_;rintro e w7 ⟨rfl,ha7⟩;obtain⟨S7,hl7,hs7⟩:=HLD.out.step ha7;have f7:=hs7.far w4.heap.size (by exact HZ6.out) HN6.out;have HG7:Hid (w7.cell? ⟨w4.heap.size,0,none⟩=some (.int .i64 (area:Int))/\w7.cell? ⟨w4.heap.size,1,none⟩=some (.int .i64 (aM s.now:Int))/\w7.cell? ⟨w4.heap.size,2,none⟩=some (.int .i64 (size:Int))):=⟨(b_ (a:=⟨w4.heap.size,0,none⟩) f7.1).trans g0,(b_ (a:=⟨w4.heap.size,1,none⟩) f7.1).trans g1,(b_ (a:=⟨w4.heap.size,2,none⟩) f7.1).trans g2⟩;have p0:=hl7.c0;have p1:=hl7.c1;have p2:=hl7.c2;have pf:=hl7.f;have HL8:=hide hl7;clear ha7 hs7 f7 hl7))
    have hset:=HL8.out.set hB (.int .i64 (area:Int)) (.int .i64 (aM s.now:Int)) (.int .i64 (size:Int));obtain⟨k0,k1,k2⟩:=keep3' (x:=.int .i64 (area:Int)) (y:=.int .i64 (aM s.now:Int)) (z:=.int .i64 (size:Int)) p0 p1 p2;have HSET:=hide hset;clear hset g0 g1 g2 p0 p1 p2 q0 q1 q2;go_wp2;refine bodyPost_ret (v:=.tuple #[.agg #[.int .i64 (area:Int),.int .i64 (aM s.now:Int),.int .i64 (size:Int)],errV (cD s6)]) (by simp[results,Tryz.results124,go_sem,k0,k1,k2]) rfl ?_;rw[HE6.out];exact⟨_,rfl,⟨_,_,_,rfl,fun _=>⟨rfl,rfl,rfl⟩⟩,HSET.out⟩
   ·rw[aP h3];have HH3:=hide h3;have HER:Hid (errV (dO (bZ r.2) 0 rt)=.iface 114 (.int .i64 (dO (bZ r.2) 0 rt))):=aP h3;have hset:=HL7.out.set hB (.int .i64 0) (.int .i64 0) (.int .i64 0);obtain⟨k0,k1,k2⟩:=keep3' (x:=.int .i64 0) (y:=.int .i64 0) (z:=.int .i64 0) q0 q1 q2;have HSET:=hide hset;clear h3 hset g0 g1 g2;go_wp2;refine bodyPost_ret (v:=.tuple #[.agg #[.int .i64 0,.int .i64 0,.int .i64 0],.iface 114 (.int .i64 (dO (bZ r.2) 0 rt))]) (by simp[results,Tryz.results124,go_sem,k0,k1,k2]) rfl ?_;exact⟨_,by rw[HER.out],⟨0,0,0,rfl,fun e=>absurd e HH3.out⟩,by rw[HE6.out];exact HSET.out⟩
  ·rw[aP h2];have HH2:=hide h2;have HER:Hid (errV (cD r.2)=.iface 114 (.int .i64 (cD r.2))):=aP h2;have hset:=HL3.out.set hB (.int .i64 0) (.int .i64 0) (.int .i64 0);obtain⟨k0,k1,k2⟩:=keep3' (x:=.int .i64 0) (y:=.int .i64 0) (z:=.int .i64 0) q0 q1 q2;have HSET:=hide hset;clear h2 hset;go_wp2;refine bodyPost_ret (v:=.tuple #[.agg #[.int .i64 0,.int .i64 0,.int .i64 0],.iface 114 (.int .i64 (cD r.2))]) (by simp[results,Tryz.results124,go_sem,k0,k1,k2]) rfl ?_;exact⟨_,by rw[HER.out],⟨0,0,0,rfl,fun e=>absurd e HH2.out⟩,HSET.out⟩
 ·rw[aP h1];have HH1:=hide h1;have HER:Hid (errV r.1=.iface 114 (.int .i64 r.1)):=aP h1;have hset:=HL2.out.set hB (.int .i64 0) (.int .i64 0) (.int .i64 0);obtain⟨k0,k1,k2⟩:=keep3' (x:=.int .i64 0) (y:=.int .i64 0) (z:=.int .i64 0) q0 q1 q2;have HSET:=hide hset;clear h1 hset;go_wp2;refine bodyPost_ret (v:=.tuple #[.agg #[.int .i64 0,.int .i64 0,.int .i64 0],.iface 114 (.int .i64 r.1)]) (by simp[results,Tryz.results124,go_sem,k0,k1,k2]) rfl ?_;exact⟨_,by rw[HER.out],⟨0,0,0,rfl,fun e=>absurd e HH1.out⟩,HSET.out⟩
end
end
end Go.Proofs.YtnboipekkahmnaaGreatDoor
