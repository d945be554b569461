import Derived.Test.YtnboipekkahmnaaGreatDoorS05
set_option maxHeartbeats 8000000
set_option maxRecDepth 100000
namespace Go.Proofs.YtnboipekkahmnaaGreatDoor
open Obj renaming cells→o_
open World renaming cell?_of_block→b_,cell?_setCell_other→t_,cell?_setCell_same→u_
open Go.RowKit.Below renaming heap_setCell→h_,refl→r_
open Nat renaming le_refl→n_
open Tryz renaming prog→p_
open Value renaming int→i_
open IntKind renaming i64→k_
open Go.Joins renaming below_alloc1→a_
section
open Go.RowKit Go.Joins Go.Shelf
attribute [local go_sem] Oper.semAt_some
section
variable {B db:Nat} {S:Nat->Prop} {s:DSt}
theorem zES (area:Nat) (t:ByteArray) (ao:Option Addr) (cap:Nat) (w:World) (hk:DK w B db S s) (ha:area<=1) (ht:t.size<=2304) (hI:zDg ao cap t) (hbS:0<t.size->¬S (iW ao)) (hcs:∀ j u,(Lib.strCells t)[j]?=some u->w.cell? ⟨iW ao,j,none⟩=some u):
  Calls p_ 181 #[.pointer (some ⟨db,0,none⟩),.int .i64 (area:Int),.slice ao t.size cap] w fun e w'=>e=.returned (errV (runD (aL (aJ area) (bI t)) s).1)/\ActD w w' B db S (runD (aL (aJ area) (bI t)) s).2:=by
 obtain⟨F,hFw⟩:∃ F,F=Fence.wide:=⟨_,rfl⟩;refine(callsIn_wide (n:=3)).1 ?_;rw[<-hFw];have hro:F.round=none:=by rw[hFw];rfl
 have lift:∀ {m:Nat} {f:FuncId} {args:Array Value} {v:World} {R:Ending->World->Prop},Calls p_ f args v R->CallsIn F m p_ f args v R:=fun h=>by rw[hFw];exact callsIn_wide.2 h
 have f1:F.fn 181:=by rw[hFw];trivial
 have f2:F.fn 204:=by rw[hFw];trivial
 have f3:F.fn 238:=by rw[hFw];trivial
 have f4:F.fn 277:=by rw[hFw];trivial
 have f5:F.fn 184:=by rw[hFw];trivial
 clear hFw;refine callsIn_of_wp_marks Tryz.func181 rfl f1 ?_ hro;simp only[Tryz.ntmps181,List.size_toArray,List.length_cons,List.length_nil,Nat.reduceAdd,Nat.reduceSub,Array.replicate_succ,Array.replicate_zero,List.push_toArray,List.append_toArray,List.nil_append,List.cons_append]
 gi_wp2_with (first
  | (gi_at_call 204;refine(lift (uF area ha _)).mono ?_;rintro e w' ⟨rfl,rfl⟩)
  | (gi_at_call 238;refine(zJ9 F 2 f3 hro _ _ _ _).mono ?_;rintro e w' ⟨rfl,rfl⟩))
 have z0:(((((w.alloc (o_ #[.pointer (some ⟨db,0,none⟩)] 25)).alloc (o_ #[Value.nilIface] 42)).alloc (o_ #[.int k_ ((aJ area:Nat):Int)] 3)).alloc (o_ #[.slice ao t.size cap] 247)).alloc (o_ #[.int k_ 96] 3)).heap.size=w.heap.size+1+1+1+1+1:=by simp
 have hwR:Below w.heap.size w (((((w.alloc (o_ #[.pointer (some ⟨db,0,none⟩)] 25)).alloc (o_ #[Value.nilIface] 42)).alloc (o_ #[.int k_ ((aJ area:Nat):Int)] 3)).alloc (o_ #[.slice ao t.size cap] 247)).alloc (o_ #[.int k_ 96] 3)):=(((((r_ _ w).alloc (n_ _) _).alloc (by simp) _).alloc (by simp;omega) _).alloc (by simp;omega) _).alloc (by simp;omega) _;have y0:=pQ w (Value.pointer (some ⟨db,0,none⟩)) 25;have y1:=pQ (w.alloc (o_ #[.pointer (some ⟨db,0,none⟩)] 25)) Value.nilIface 42;have y2:=pQ ((w.alloc (o_ #[.pointer (some ⟨db,0,none⟩)] 25)).alloc (o_ #[Value.nilIface] 42)) (i_ k_ ((aJ area:Nat):Int)) 3;have y3:=pQ (((w.alloc (o_ #[.pointer (some ⟨db,0,none⟩)] 25)).alloc (o_ #[Value.nilIface] 42)).alloc (o_ #[.int k_ ((aJ area:Nat):Int)] 3)) (Value.slice ao t.size cap) 247;have y4:=pQ ((((w.alloc (o_ #[.pointer (some ⟨db,0,none⟩)] 25)).alloc (o_ #[Value.nilIface] 42)).alloc (o_ #[.int k_ ((aJ area:Nat):Int)] 3)).alloc (o_ #[.slice ao t.size cap] 247)) (i_ k_ 96) 3;simp only[World.size_alloc] at y1 y2 y3 y4;replace y0:=iC (o_ #[.int k_ 96] 3) (iC (o_ #[.slice ao t.size cap] 247) (iC (o_ #[.int k_ ((aJ area:Nat):Int)] 3) (iC (o_ #[Value.nilIface] 42) y0)));replace y1:=iC (o_ #[.int k_ 96] 3) (iC (o_ #[.slice ao t.size cap] 247) (iC (o_ #[.int k_ ((aJ area:Nat):Int)] 3) y1));replace y2:=iC (o_ #[.int k_ 96] 3) (iC (o_ #[.slice ao t.size cap] 247) y2);replace y3:=iC (o_ #[.int k_ 96] 3) y3;obtain⟨d0,_⟩:=y0;obtain⟨d1,e1⟩:=y1;obtain⟨d2,e2⟩:=y2;obtain⟨d3,_⟩:=y3;obtain⟨d4,_⟩:=y4;generalize (((((w.alloc (o_ #[.pointer (some ⟨db,0,none⟩)] 25)).alloc (o_ #[Value.nilIface] 42)).alloc (o_ #[.int k_ ((aJ area:Nat):Int)] 3)).alloc (o_ #[.slice ao t.size cap] 247)).alloc (o_ #[.int k_ 96] 3))=wR at *;have hB:=hk.lo;have hX0:LTX wR wR B db (w.heap.size+1) (w.heap.size+1+1) S s:=⟨S,hk.on hwR,fun e=>by have:=hk.lt e;omega,fun e=>by have:=hk.lt e;omega,aG.refl (by omega)⟩;have hnS:∀ k,w.heap.size<=k->¬S k:=fun k h e=>by have:=hk.lt e;omega
 have hcw:∀ j u,(Lib.strCells t)[j]?=some u->wR.cell? ⟨iW ao,j,none⟩=some u:=fun j u h=>aA hwR (hcs j u h);have HAR:Hid (aJ area+24<=50/\1<=aJ area):=hide (by unfold aJ;omega);have HPN:Hid (bT t.size<=24):=hide (by unfold bT;omega);have HHK:=hide hk;have HBL:Hid (∀ j u,(Lib.strCells t)[j]?=some u->iW ao<w.heap.size/\¬S (iW ao)):=fun j u h=>⟨World.block_lt_of_cell? _ _ (hcs j u h),hbS (by have:=(List.getElem?_eq_some_iff.1 h).1;rw[Lib.strCells_length] at this;omega)⟩;clear hk hcs hbS;have HN0:Hid (((aJ area:Nat):Int)=((aJ area+([]:List Nat).length:Nat):Int)):=rfl;refine wpIn_rangeFunc_ownH hro (by decide) (gf:=277) (lb:=#[.pointer (some ⟨w.heap.size+1+1+1,0,none⟩),.pointer (some ⟨w.heap.size+1+1+1+1,0,none⟩)]) rfl f4 (enters_of Tryz.func277 (by kernel_rfl) rfl)
  (zEY F 2 f4 hro (by decide) (w.heap.size+1+1+1) (w.heap.size+1+1+1+1) ao cap t (by omega) wR (by omega) (by omega) d3 d4 hI) (fun h k=>jT.trans h k) (fun W l o o' hl h1 _ _=>⟨World.putObj_heap_other (by omega),World.putObj_heap_other (by omega)⟩) (r_ _ _) (fun _=>rfl)
  (fun pre W=>LTI wR W B db (w.heap.size+1) (w.heap.size+1+1) S s (aJ area) t pre)
  (fun c pre W=>c=.ret/\LTS wR W B db (w.heap.size+1) (w.heap.size+1+1) S s (aJ area) t pre)
  (fun p W W' row hs hg hr=>hs.grown (by omega) hg hr) (fun c p W W' row hs hg hr=>⟨hs.1,hs.2.grown (by omega) hg hr⟩)
  ⟨rfl,hX0,by rw[<-HN0.out];exact d2,e2,d1,e1⟩
  (fun x a' W=>a'={ tmps:=#[.pointer (some ⟨db,0,none⟩),.int .i64 (area:Int),.slice ao t.size cap,.pointer (some ⟨w.heap.size,0,none⟩),undef,undef,.pointer (some ⟨w.heap.size+1,0,none⟩),.pointer (some ⟨w.heap.size+1+1,0,none⟩),pP (iW ao) t x,undef,.int .i64 (area:Int),.int .i64 ((aJ area:Nat):Int),.slice ao t.size cap,.func (.func 277) #[] #[.pointer (some ⟨w.heap.size+1+1+1,0,none⟩),.pointer (some ⟨w.heap.size+1+1+1+1,0,none⟩)],pP (iW ao) t x,undef,undef,undef,undef,undef,undef,undef,undef,undef,undef],defers:=[] })
  (fun x a' p W W' row hs hg hr=>hs) ?assign ?body ?done ?stop
 case assign=>
  rintro l pre x W K hL hK
  gi_wp2
  exact hK _ _ (KeepsFrom.refl _ _) (jT.refl _ _ _) hL rfl
 case body=>
  rintro l pre x a' W hl ⟨r,hr⟩ hL rfl hlt;have cd:W.cell? ⟨w.heap.size,0,none⟩=some (.pointer (some ⟨db,0,none⟩)):=(b_ (a:=⟨w.heap.size,0,none⟩) (hL.x.far (k:=w.heap.size) (by omega) (by omega) (by omega) (hnS _ (by omega)))).trans d0;have hcv:=zGk W (iW ao) t x (fun j u h=>(b_ (a:=⟨iW ao,j,none⟩) (hL.x.far (k:=iW ao) (by have:=(HBL.out j u h).1;omega) (by have:=(HBL.out j u h).1;omega) (by have:=(HBL.out j u h).1;omega) (HBL.out j u h).2)).trans (hcw j u h));have ca:=hL.ca;have hsn:=zHO (aJ area) t s pre x hL.ok;obtain⟨S',hk',hr1,ha1,hst⟩:=hL.x.ex;have HWR:=hide (sH ((aJ area+pre.length:Nat):Int) (dF t x) W hk');have hai:((aJ area+pre.length:Nat):Int)<=100:=by have:=HAR.out;have:=HPN.out;omega
  have hai0:(0:Int)<=((aJ area+pre.length:Nat):Int):=by omega
  have HAI:Hid (((aJ area+pre.length:Nat):Int)+1=((aJ area+(pre++[x]).length:Nat):Int)):=hide (by rw[List.length_append];simp;omega);have HL:=hide hL;have HST:=hide hst;have HK':=hide hk';have HSN:=hide hsn;have HCR:=hide (And.intro hL.cr (And.intro hL.fr hL.fa));clear hL hst hk' hsn;generalize aJ area+pre.length=at0 at *;generalize dF t x=pc at *;generalize pP (iW ao) t x=pv at *;generalize dO (gN (aJ area) t s pre).2 (at0:Int) pc=f at *;generalize cV (gN (aJ area) t s pre).2 (at0:Int) pc=s2 at *;have HX2:Hid (∀ W2,ActD W W2 B db S' s2->LTX wR W2 B db (w.heap.size+1) (w.heap.size+1+1) S s2/\KeepsFrom wR.heap.size W W2/\jT (w.heap.size+1+1+1) (w.heap.size+1+1+1+1) W W2/\W2.cell? ⟨w.heap.size+1+1,0,none⟩=some (.int .i64 (at0:Int))/\W2.frozen? ⟨w.heap.size+1+1,0,none⟩=false/\W2.cell? ⟨w.heap.size+1,0,none⟩=some .nilIface/\W2.frozen? ⟨w.heap.size+1,0,none⟩=false):=fun W2 ⟨S2,hk2,hs2⟩=>by
   have hzW:=HST.out.bel.size;have fr:=hs2.far (w.heap.size+1) (by omega) hr1;have fa:=hs2.far (w.heap.size+1+1) (by omega) ha1;have fs:=hs2.far (w.heap.size+1+1+1) (by omega) (fun e=>(HST.out.far (w.heap.size+1+1+1) (by omega) (fun e=>e.elim (fun e=>by omega) fun e=>e.elim (fun e=>by omega) (hnS _ (by omega)))).2 (.inr (.inr e)));have fn:=hs2.far (w.heap.size+1+1+1+1) (by omega) (fun e=>(HST.out.far (w.heap.size+1+1+1+1) (by omega) (fun e=>e.elim (fun e=>by omega) fun e=>e.elim (fun e=>by omega) (hnS _ (by omega)))).2 (.inr (.inr e)));refine⟨⟨S2,hk2,fr.2,fa.2,HST.out.bel.trans hs2.bel,fun j hj hn=>?_⟩,(zFz HK'.out hs2).from _,⟨fs.1,fn.1⟩,(b_ (a:=⟨w.heap.size+1+1,0,none⟩) fa.1).trans ca,(World.frozen?_of_block (a:=⟨w.heap.size+1+1,0,none⟩) fa.1).trans HCR.out.2.2,(b_ (a:=⟨w.heap.size+1,0,none⟩) fr.1).trans HCR.out.1,(World.frozen?_of_block (a:=⟨w.heap.size+1,0,none⟩) fr.1).trans HCR.out.2.1⟩;obtain⟨g1,g2⟩:=HST.out.far j hj hn;obtain⟨g3,g4⟩:=hs2.far j (by omega) (fun e=>g2 (.inr (.inr e)));exact⟨g3.trans g1,fun e=>e.elim (fun e=>g2 (.inl e)) fun e=>e.elim (fun e=>g2 (.inr (.inl e))) g4⟩
  by_cases hf:f=0
  ·subst hf;rw[aR] at HWR
   gi_wp2_with (gi_at_call 184;refine(CallsIn.inRound l (lift HWR.out)).mono ?_;rintro e W2 ⟨rfl,ha2⟩;obtain⟨x2,kf2,kp2,ca2,fa2,cr2,fr2⟩:=HX2.out W2 ha2;have HX:=hide x2;have HKF:=hide kf2;have HKP:=hide kp2;have HCR2:=hide (And.intro cr2 fr2);clear x2 kf2 kp2 cr2 fr2 ha2)
   refine⟨HKF.out.trans ((KeepsOthers.setCell _ _ _).from _),jT.trans HKP.out ⟨h_ _ _ _ _ (by show w.heap.size+1+1+1≠w.heap.size+1+1;omega),h_ _ _ _ _ (by show w.heap.size+1+1+1+1≠w.heap.size+1+1;omega)⟩,?_⟩;refine⟨by rw[HSN.out],by rw[HSN.out];exact HX.out.setA (by omega) _,?_,by rw[World.frozen?_setCell];exact fa2,(t_ _ _ _ _ (by simp)).trans HCR2.out.1,by rw[World.frozen?_setCell];exact HCR2.out.2⟩;rw[<-HAI.out];exact u_ _ _ _ ca2
  ·rw[aP hf] at HWR;have HF:=hide hf
   gi_wp2_with (gi_at_call 184;refine(CallsIn.inRound l (lift HWR.out)).mono ?_;rintro e W2 ⟨rfl,ha2⟩;obtain⟨x2,kf2,kp2,ca2,fa2,cr2,fr2⟩:=HX2.out W2 ha2;have HX:=hide x2;have HKF:=hide kf2;have HKP:=hide kp2;clear x2 kf2 kp2 ha2)
   refine⟨HKF.out.trans ((KeepsOthers.setCell _ _ _).from _),rfl,by rw[HSN.out];exact HF.out,by rw[HSN.out];exact HX.out.setR (by omega) _,?_⟩;rw[HSN.out,aP HF.out];exact u_ _ _ _ cr2
 case done=>
  rintro D ys W hD rfl hL hK;have hr:=hL.cr;have hfz:=hL.fr;have HL:=hide hL;clear hL
  gi_wp2
  have hK':=(KeepsOthers.setCell W ⟨w.heap.size+1,0,none⟩ .nilIface).same D _ hK rfl;refine⟨by simp,.inl ⟨_,_,rfl,run_takeDeferred hK',?_⟩⟩;have hc5:=cell_kept (u_ W ⟨w.heap.size+1,0,none⟩ .nilIface hr) (grownBy_putObj' _ D (.deferred none)) (fun r e=>by cases e;exact⟨_,hK',rfl⟩);have hX5:=(HL.out.x.setR (by omega) .nilIface).grown (by omega) (grownBy_putObj' _ D (.deferred none)) (fun r e=>by cases e;exact⟨hD,_,hK',rfl⟩);have hlr:gN (aJ area) t s (List.range (bT t.size))=runD (aL (aJ area) (bI t)) s:=rfl;have hok:=HL.out.ok;rw[hlr] at hX5 hok;refine⟨.nilIface,?_,by rw[hok];rfl,hX5.act hwR hB (by omega) (by omega)⟩;simp[results,Tryz.f181,go_sem,hc5]
 case stop=>
  rintro D c pre W hD ⟨k,hk,hpre⟩ ⟨rfl,hL⟩ hK
  gi_wp2
  refine⟨by simp,.inl ⟨_,_,rfl,run_takeDeferred hK,?_⟩⟩;have hc5:=cell_kept hL.cr (grownBy_putObj' _ D (.deferred none)) (fun r e=>by cases e;exact⟨_,hK,rfl⟩);have hX5:=hL.x.grown (by omega) (grownBy_putObj' _ D (.deferred none)) (fun r e=>by cases e;exact⟨hD,_,hK,rfl⟩);have hno:=hL.no;subst hpre;have hlr:runD (aL (aJ area) (bI t)) s=gN (aJ area) t s (List.range k):=zHE (N:=bT t.size) hk hno;rw[<-hlr] at hX5 hc5;refine⟨errV (runD (aL (aJ area) (bI t)) s).1,?_,rfl,hX5.act hwR hB (by omega) (by omega)⟩;simp[results,Tryz.f181,go_sem,hc5]
end
end
section
open Go.RowKit Go.Joins
attribute [local go_sem ↓] Go.wp_at_zero Go.wp_at_succ
theorem keep3' {W:World} {b:Nat} {x y z a0 a1 a2:Value} (h0:W.cell? ⟨b,0,none⟩=some a0) (h1:W.cell? ⟨b,1,none⟩=some a1) (h2:W.cell? ⟨b,2,none⟩=some a2):
  (((W.setCell ⟨b,0,none⟩ x).setCell ⟨b,1,none⟩ y).setCell ⟨b,2,none⟩ z).cell? ⟨b,0,none⟩=some x/\(((W.setCell ⟨b,0,none⟩ x).setCell ⟨b,1,none⟩ y).setCell ⟨b,2,none⟩ z).cell? ⟨b,1,none⟩=some y/\(((W.setCell ⟨b,0,none⟩ x).setCell ⟨b,1,none⟩ y).setCell ⟨b,2,none⟩ z).cell? ⟨b,2,none⟩=some z:=by
 refine⟨?_,?_,?_⟩<;>simp[go_sem,h0,h1,h2]
theorem zLh (lo hi:Nat) (hlo:lo<=255) (hhi:hi<=8):bits .or .i64 (lo:Int) ((hi:Int)*256)=((hi*256+lo:Nat):Int):=by
 have e1:((lo:Int) % ((2 ^ 64:Nat):Int)).toNat=lo:=by omega
 have e2:(((hi:Int)*256) % ((2 ^ 64:Nat):Int)).toNat=hi*256:=by omega
 have e3:lo ||| hi*256=hi*256+lo:=by
  have:=Nat.shiftLeft_add_eq_or_of_lt (b:=lo) (i:=8) (by omega) hi;rw[Nat.shiftLeft_eq] at this;rw[Nat.or_comm];exact this.symm
 show IntKind.i64.wrap (((BitVec.ofInt 64 (lo:Int)) ||| (BitVec.ofInt 64 ((hi:Int)*256))).toNat:Int)=_;rw[BitVec.toNat_or,BitVec.toNat_ofInt,BitVec.toNat_ofInt,e1,e2,e3];simp[IntKind.wrap,IntKind.bits];omega
theorem zJa (t r:ByteArray) (area first lo hi:Nat) (hp:Lib.hasPrefix t.data.toList nT.data.toList=true) (hr:⟨(Lib.trimPrefix t.data.toList nT.data.toList).toArray⟩=r) (h4:4<=r.size) (hs:r.size<=96) (h0:r[0].toNat=area) (h1:r[1].toNat=first) (h2:r[2].toNat=lo) (h3:r[3].toNat=hi) (ha:area<=1) (hf:1<=first) (hf2:first<=255) (hlo:lo<=255) (hhi:hi<=8) (w:World) (hsz:hi*256+lo<=2304):
  Calls p_ 203 #[.string t] w fun e w'=>e=.returned (.tuple #[.agg #[.int .i64 (area:Int),.int .i64 (first:Int),.int .i64 ((hi*256+lo:Nat):Int)],.bool true])/\Below w.heap.size w w':=by
 have hc:∀ w,Calls p_ 228 #[.string t,.string nT] w fun e w'=>e=.returned (.tuple #[.string r,.bool true])/\w'=w:=by
  rw[<-hr,<-hp];exact Tryz.strings_CutPrefix t nT
 unfold nT at hc;have HC:=hide hc;clear hc hp hr;have i4:(4:Int)<=(r.size:Int):=by omega
 have g0:0<r.size:=by omega
 have g00:(0:Int)<(r.size:Int):=by omega
 have wa:IntKind.i64.wrap (area:Int)=area:=by simp[IntKind.wrap,IntKind.bits];omega
 have wf:IntKind.i64.wrap (first:Int)=first:=by simp[IntKind.wrap,IntKind.bits];omega
 have wl:IntKind.i64.wrap (lo:Int)=lo:=by simp[IntKind.wrap,IntKind.bits];omega
 have wh:IntKind.i64.wrap (hi:Int)=hi:=by simp[IntKind.wrap,IntKind.bits];omega
 have wk:IntKind.i64.wrap ((hi:Int)*256)=(hi:Int)*256:=by simp[IntKind.wrap,IntKind.bits];omega
 have g1:(1:Int)<(r.size:Int):=by omega
 have g2:(2:Int)<(r.size:Int):=by omega
 have g3:(3:Int)<(r.size:Int):=by omega
 have a0:(0:Int)<=(area:Int):=by omega
 have a1:(area:Int)<=1:=by omega
 have f0:(1:Int)<=(first:Int):=by omega
 have f1:(first:Int)<=255:=by omega
 have l0:(0:Int)<=(lo:Int):=by omega
 have l1:(lo:Int)<=255:=by omega
 have k0:(0:Int)<=(hi:Int):=by omega
 have k1:(hi:Int)<=8:=by omega
 have HOR:Hid (bits .or .i64 (lo:Int) ((hi:Int)*256)=((hi*256+lo:Nat):Int)):=zLh lo hi hlo hhi;go_enter Tryz.func203,Tryz.ntmps203;go_wp2_with (go_at_call 228;refine(HC.out _).mono ?_;rintro e w1 ⟨rfl,rfl⟩)
 refine wp_region_held_drew (S:=fun _=>True) (by kernel_rfl) trivial (fun hHeld=>?_);refine wpAnyH_take (i:=0) (v:=?_) rfl (by kernel_rfl) (by kernel_rfl) (by kernel_rfl) (fun _ _ _ h=>h) (Or.inl ⟨by rfl,?_⟩) (by assumption) ?_
 rotate_left
 ·intro w hSw
  go_simp
  try rfl
 simp only[Act.put,List.setIfInBounds_toArray,List.set_cons_zero,List.set_cons_succ,List.getElem_toArray,List.getElem_cons_zero];refine wpAnyH_take (i:=1) (v:=?_) rfl (by kernel_rfl) (by kernel_rfl) (by kernel_rfl) (fun _ _ _ h=>h) (Or.inl ⟨by rfl,?_⟩) (by assumption) ?_
 rotate_left
 ·intro w hSw
  go_simp
  try rfl
 simp only[Act.put,List.setIfInBounds_toArray,List.set_cons_zero,List.set_cons_succ,List.getElem_toArray,List.getElem_cons_zero,List.getElem_cons_succ];refine wpAnyH_take (i:=2) (v:=?_) rfl (by kernel_rfl) (by kernel_rfl) (by kernel_rfl) (fun _ _ _ h=>h) (Or.inl ⟨by rfl,?_⟩) (by assumption) ?_
 rotate_left
 ·intro w hSw
  go_simp
  try rfl
 simp only[Act.put,List.setIfInBounds_toArray,List.set_cons_zero,List.set_cons_succ,List.getElem_toArray,List.getElem_cons_zero,List.getElem_cons_succ];refine wpAnyH_take (i:=3) (v:=?_) rfl (by kernel_rfl) (by kernel_rfl) (by kernel_rfl) (fun _ _ _ h=>h) (Or.inl ⟨by rfl,?_⟩) (by assumption) ?_
 rotate_left
 ·intro w hSw
  go_simp
  try rfl
 simp only[Act.put,List.setIfInBounds_toArray,List.set_cons_zero,List.set_cons_succ,List.getElem_toArray,List.getElem_cons_zero,List.getElem_cons_succ];refine wpAnyH_take (i:=4) (v:=?_) rfl (by kernel_rfl) (by kernel_rfl) (by kernel_rfl) (fun _ _ _ h=>h) (Or.inl ⟨by rfl,?_⟩) (by assumption) ?_
 rotate_left
 ·intro w hSw
  go_simp
  try rfl
 simp only[Act.put,List.setIfInBounds_toArray,List.set_cons_zero,List.set_cons_succ,List.getElem_toArray,List.getElem_cons_zero,List.getElem_cons_succ];refine wpAnyH_take (i:=5) (v:=?_) rfl (by kernel_rfl) (by kernel_rfl) (by kernel_rfl) (fun _ _ _ h=>h) (Or.inl ⟨by rfl,?_⟩) (by assumption) ?_
 rotate_left
 ·intro w hSw
  go_simp
  try rfl
 simp only[Act.put,List.setIfInBounds_toArray,List.set_cons_zero,List.set_cons_succ,List.getElem_toArray,List.getElem_cons_zero,List.getElem_cons_succ];refine wpAnyH_take (i:=6) (v:=?_) rfl (by kernel_rfl) (by kernel_rfl) (by kernel_rfl) (fun _ _ _ h=>h) (Or.inl ⟨by rfl,?_⟩) (by assumption) ?_
 rotate_left
 ·intro w hSw
  go_simp
  try rfl
 simp only[Act.put,List.setIfInBounds_toArray,List.set_cons_zero,List.set_cons_succ,List.getElem_toArray,List.getElem_cons_zero,List.getElem_cons_succ];refine wpAnyH_take (i:=7) (v:=?_) rfl (by kernel_rfl) (by kernel_rfl) (by kernel_rfl) (fun _ _ _ h=>h) (Or.inl ⟨by rfl,?_⟩) (by assumption) ?_
 rotate_left
 ·intro w hSw
  go_simp
  try rfl
 simp only[Act.put,List.setIfInBounds_toArray,List.set_cons_zero,List.set_cons_succ,List.getElem_toArray,List.getElem_cons_zero,List.getElem_cons_succ];refine wpAnyH_take (i:=8) (v:=?_) rfl (by kernel_rfl) (by kernel_rfl) (by kernel_rfl) (fun _ _ _ h=>h) (Or.inl ⟨by rfl,?_⟩) (by assumption) ?_
 rotate_left
 ·intro w hSw
  go_simp
  try rfl
 simp only[Act.put,List.setIfInBounds_toArray,List.set_cons_zero,List.set_cons_succ,List.getElem_toArray,List.getElem_cons_zero,List.getElem_cons_succ];refine wpAnyH_take (i:=9) (v:=?_) rfl (by kernel_rfl) (by kernel_rfl) (by kernel_rfl) (fun _ _ _ h=>h) (Or.inl ⟨by rfl,?_⟩) (by assumption) ?_
 rotate_left
 ·intro w hSw
  go_simp
  try rfl
 simp only[Act.put,List.setIfInBounds_toArray,List.set_cons_zero,List.set_cons_succ,List.getElem_toArray,List.getElem_cons_zero,List.getElem_cons_succ];refine wpAnyH_take (i:=10) (v:=?_) rfl (by kernel_rfl) (by kernel_rfl) (by kernel_rfl) (fun _ _ _ h=>h) (Or.inl ⟨by rfl,?_⟩) (by assumption) ?_
 rotate_left
 ·intro w hSw
  go_simp
  try rfl
 simp only[Act.put,List.setIfInBounds_toArray,List.set_cons_zero,List.set_cons_succ,List.getElem_toArray,List.getElem_cons_zero,List.getElem_cons_succ];refine wpAnyH_take (i:=11) (v:=?_) rfl (by kernel_rfl) (by kernel_rfl) (by kernel_rfl) (fun _ _ _ h=>h) (Or.inl ⟨by rfl,?_⟩) (by assumption) ?_
 rotate_left
 ·intro w hSw
  go_simp
  try rfl
 simp only[Act.put,List.setIfInBounds_toArray,List.set_cons_zero,List.set_cons_succ,List.getElem_toArray,List.getElem_cons_zero,List.getElem_cons_succ];refine wpAnyH_take (i:=12) (v:=?_) rfl (by kernel_rfl) (by kernel_rfl) (by kernel_rfl) (fun _ _ _ h=>h) (Or.inl ⟨by rfl,?_⟩) (by assumption) ?_
 rotate_left
 ·intro w hSw
  go_simp
  try rfl
 simp only[Act.put,List.setIfInBounds_toArray,List.set_cons_zero,List.set_cons_succ,List.getElem_toArray,List.getElem_cons_zero,List.getElem_cons_succ];refine wpAnyH_take (i:=13) (v:=?_) rfl (by kernel_rfl) (by kernel_rfl) (by kernel_rfl) (fun _ _ _ h=>h) (Or.inl ⟨by rfl,?_⟩) (by assumption) ?_
 rotate_left
 ·intro w hSw
  go_simp
  try rfl
 simp only[Act.put,List.setIfInBounds_toArray,List.set_cons_zero,List.set_cons_succ,List.getElem_toArray,List.getElem_cons_zero,List.getElem_cons_succ];refine wpAnyH_take (i:=14) (v:=?_) rfl (by kernel_rfl) (by kernel_rfl) (by kernel_rfl) (fun _ _ _ h=>h) (Or.inl ⟨by rfl,?_⟩) (by assumption) ?_
 rotate_left
 ·intro w hSw
  go_simp
  try rfl
 simp only[Act.put,List.setIfInBounds_toArray,List.set_cons_zero,List.set_cons_succ,List.getElem_toArray,List.getElem_cons_zero,List.getElem_cons_succ];refine wpAnyH_ready (rs:=[15]) (by kernel_rfl) (by simp) ?_;refine AllReadyH.cons rfl (fun K hK=>?_) AllReadyH.nil
 go_simp
 refine hK.out _ _ trivial (fun hHeld=>?_);clear hK K;refine wpAnyH_ready (rs:=[16]) (by kernel_rfl) (by simp) ?_;refine AllReadyH.cons rfl (fun K hK=>?_) AllReadyH.nil
 go_simp
 refine hK.out _ _ trivial (fun hHeld=>?_);clear hK K;refine wpAnyH_done (by kernel_rfl) ?_ _;rw[HOR.out];have q0:(((w.alloc (o_ #[.int k_ 0,.int k_ 0,.int k_ 0] 202)).alloc (o_ #[.int k_ (area:Int),.int k_ (first:Int),.int k_ ((hi*256+lo:Nat):Int)] 202)).drew).cell? ⟨w.heap.size+1,0,none⟩=some (.int .i64 (area:Int)):=by simp
 have q1:(((w.alloc (o_ #[.int k_ 0,.int k_ 0,.int k_ 0] 202)).alloc (o_ #[.int k_ (area:Int),.int k_ (first:Int),.int k_ ((hi*256+lo:Nat):Int)] 202)).drew).cell? ⟨w.heap.size+1,1,none⟩=some (.int .i64 (first:Int)):=by simp
 have q2:(((w.alloc (o_ #[.int k_ 0,.int k_ 0,.int k_ 0] 202)).alloc (o_ #[.int k_ (area:Int),.int k_ (first:Int),.int k_ ((hi*256+lo:Nat):Int)] 202)).drew).cell? ⟨w.heap.size+1,2,none⟩=some (.int .i64 ((hi*256+lo:Nat):Int)):=by simp
 have p0:(((w.alloc (o_ #[.int k_ 0,.int k_ 0,.int k_ 0] 202)).alloc (o_ #[.int k_ (area:Int),.int k_ (first:Int),.int k_ ((hi*256+lo:Nat):Int)] 202)).drew).cell? ⟨w.heap.size,0,none⟩=some (.int .i64 0):=by simp
 have p1:(((w.alloc (o_ #[.int k_ 0,.int k_ 0,.int k_ 0] 202)).alloc (o_ #[.int k_ (area:Int),.int k_ (first:Int),.int k_ ((hi*256+lo:Nat):Int)] 202)).drew).cell? ⟨w.heap.size,1,none⟩=some (.int .i64 0):=by simp
 have p2:(((w.alloc (o_ #[.int k_ 0,.int k_ 0,.int k_ 0] 202)).alloc (o_ #[.int k_ (area:Int),.int k_ (first:Int),.int k_ ((hi*256+lo:Nat):Int)] 202)).drew).cell? ⟨w.heap.size,2,none⟩=some (.int .i64 0):=by simp
 have pf:∀ j,(((w.alloc (o_ #[.int k_ 0,.int k_ 0,.int k_ 0] 202)).alloc (o_ #[.int k_ (area:Int),.int k_ (first:Int),.int k_ ((hi*256+lo:Nat):Int)] 202)).drew).frozen? ⟨w.heap.size,j,none⟩=false:=fun j=>aE (a_ _ _).drew (by simp) (aQ w _ _ j);have HB:Hid (Below w.heap.size w (((w.alloc (o_ #[.int k_ 0,.int k_ 0,.int k_ 0] 202)).alloc (o_ #[.int k_ (area:Int),.int k_ (first:Int),.int k_ ((hi*256+lo:Nat):Int)] 202)).drew)):=(aB (a_ w _) (n_ _) (a_ _ _)).drew;generalize ((w.alloc (o_ #[.int k_ 0,.int k_ 0,.int k_ 0] 202)).alloc (o_ #[.int k_ (area:Int),.int k_ (first:Int),.int k_ ((hi*256+lo:Nat):Int)] 202)).drew=W at *;generalize hz:hi*256+lo=size at *;have z0:(size:Int)<=2304:=by omega
 have HZ:=hide hz;clear hz;clear HOR h0 h1 h2 h3 g00 g1 g2 g3 wa wf wl wh wk h4 hs HC;go_wp2
 go_region_held3 (fun w'=>w'.cell? ⟨w.heap.size+1,0,none⟩=some (.int .i64 (area:Int))/\w'.cell? ⟨w.heap.size+1,1,none⟩=some (.int .i64 (first:Int))/\w'.cell? ⟨w.heap.size+1,2,none⟩=some (.int .i64 (size:Int))) (first|go_keep|exact⟨q0,q1,q2⟩) (fail)
 go_wp2;have hk:=keep3' (W:=W) (b:=w.heap.size) (x:=.int .i64 (area:Int)) (y:=.int .i64 (first:Int)) (z:=.int .i64 (size:Int)) p0 p1 p2;obtain⟨k0,k1,k2⟩:=hk;refine bodyPost_ret (v:=.tuple #[.agg #[.int .i64 (area:Int),.int .i64 (first:Int),.int .i64 (size:Int)],.bool true]) (by simp[results,Tryz.results203,go_sem,k0,k1,k2]) rfl ⟨by rw[HZ.out],?_⟩;exact(((HB.out.setCell (n_ _) _).setCell (n_ _) _).setCell (n_ _) _).drew
theorem zBj (area first size:Nat):(aH (iG area first size)).data.toList=nT.data.toList++(jX area first size++List.replicate 80 0):=by
 have e:(iG area first size).size=16:=rfl;unfold aH;rw[e];unfold iG;rw[ByteArray.data_append];simp
theorem wA (area first size:Nat):Lib.hasPrefix (aH (iG area first size)).data.toList nT.data.toList=true:=by
 rw[zBj];simp[Lib.hasPrefix]
theorem zHm (area first size:Nat):(⟨(Lib.trimPrefix (aH (iG area first size)).data.toList nT.data.toList).toArray⟩:ByteArray)=⟨(jX area first size++List.replicate 80 0).toArray⟩:=by
 have h:=wA area first size;unfold Lib.trimPrefix;rw[h,zBj];simp
theorem zGe (area first size:Nat) (ha:area<=1) (hf:1<=first) (hf2:first<=2) (hs:size<=2280) (w:World):
  Calls p_ 203 #[.string (aH (iG area first size))] w fun e w'=>e=.returned (.tuple #[.agg #[.int .i64 (area:Int),.int .i64 (first:Int),.int .i64 (size:Int)],.bool true])/\Below w.heap.size w w':=by
 have h:=zJa (aH (iG area first size)) ⟨(jX area first size++List.replicate 80 0).toArray⟩ area first (size % 256) (size / 256) (wA ..) (zHm ..) (by show 4<=(jX area first size++List.replicate 80 0).length;simp[jX]) (by show(jX area first size++List.replicate 80 0).length<=96;simp[jX])
  (by show(UInt8.ofNat area).toNat=area;rw[UInt8.toNat_ofNat'];omega) (by show(UInt8.ofNat first).toNat=first;rw[UInt8.toNat_ofNat'];omega) (by show(UInt8.ofNat size).toNat=_;rw[UInt8.toNat_ofNat']) (by show(UInt8.ofNat (size / 256)).toNat=_;rw[UInt8.toNat_ofNat'];omega) ha hf (by omega) (by omega) (by omega) w (by omega)
 rw[show size / 256*256+size % 256=size by omega] at h;exact h
section
variable {B db:Nat} {S:Nat->Prop} {s:DSt}
theorem zFc (w:World) (hk:DK w B db S s) (hd:s.down=false) (at_:Nat) (t:ByteArray) (h:s.now[at_]?=some t):Calls p_ 202 #[.pointer (some ⟨db,0,none⟩),.int .i64 (at_:Int)] w fun e w'=>e=.returned (.tuple #[.string t,.nilIface])/\w'=w:=by
 have hr:=tV (at_:Int) w hk;have hl:=(List.getElem?_eq_some_iff.1 h).1;have e1:lI s (at_:Int)=0:=by unfold lI;rw[hd,if_neg (by decide),if_neg (by omega)]
 have e2:nX s (at_:Int)=t:=by unfold nX;rw[if_pos e1,Int.toNat_natCast,h];rfl
 rw[e1,e2,aR] at hr;exact hr
theorem zBX (area first size:Nat) (w:World) (hk:DK w B db S s) (hd:s.down=false) (ha:area<=1) (hf:1<=first) (hf2:first<=2) (hs:size<=2280) (h54:54<=s.now.length) (hr:s.now[0]?=some (aH (iG area first size))):
  Calls p_ 139 #[.pointer (some ⟨db,0,none⟩)] w fun e w'=>e=.returned (.tuple #[.agg #[.int .i64 (area:Int),.int .i64 (first:Int),.int .i64 (size:Int)],.nilIface])/\Below w.heap.size w w':=by
 have HP:=fun w'=>hide (zGe area first size ha hf hf2 hs w');have HRD:Hid (∀ W,Below w.heap.size w W->Calls p_ 202 #[.pointer (some ⟨db,0,none⟩),.int .i64 0] W fun e w'=>e=.returned (.tuple #[.string (aH (iG area first size)),.nilIface])/\w'=W):=fun W hb=>zFc W (hk.on hb) hd 0 _ hr;have HSE:Hid (∀ W,Below w.heap.size w W->Calls p_ 123 #[.pointer (some ⟨db,0,none⟩)] W fun e w'=>e=.returned (.int .i64 (s.now.length:Int))/\w'=W):=fun W hb=>mU W (hk.on hb);have hmany:=hk.many;clear hk hd hr;generalize aH (iG area first size)=t at *;generalize s.now.length=n at *;have h54':¬(n:Int)<54:=by omega
 have n200:(n:Int)<=200:=by omega
 have hB0:=a_ w (o_ #[.int k_ 0,.int k_ 0,.int k_ 0] 202);have p0:(w.alloc (o_ #[.int k_ 0,.int k_ 0,.int k_ 0] 202)).cell? ⟨w.heap.size,0,none⟩=some (.int .i64 0):=aC _ _ _ 0;have p1:(w.alloc (o_ #[.int k_ 0,.int k_ 0,.int k_ 0] 202)).cell? ⟨w.heap.size,1,none⟩=some (.int .i64 0):=aC _ _ _ 1;have p2:(w.alloc (o_ #[.int k_ 0,.int k_ 0,.int k_ 0] 202)).cell? ⟨w.heap.size,2,none⟩=some (.int .i64 0):=aC _ _ _ 2;have pf:=aQ w #[i_ k_ 0,i_ k_ 0,i_ k_ 0] 202;have hlt0:w.heap.size<(w.alloc (o_ #[.int k_ 0,.int k_ 0,.int k_ 0] 202)).heap.size:=by simp
 go_enter Tryz.func139,Tryz.ntmps139;go_wp2_with fail;refine(HRD.out _ hB0).mono ?_;rintro e w1 ⟨rfl,rfl⟩;go_wp2_with fail;refine((HP _).out).mono ?_;rintro e w2 ⟨rfl,hb2⟩;replace p0:=aA hb2 p0;replace p1:=aA hb2 p1;replace p2:=aA hb2 p2;have pf2:=fun j=>aE hb2 hlt0 (pf j);have hB2:=aB hB0 (n_ _) hb2;have HB2:=hide hB2;clear pf hb2 hB0;have hlt2:w.heap.size<w2.heap.size:=World.block_lt_of_cell? _ _ p0;have hB3:=aB hB2 (n_ _) (a_ w2 (o_ #[.int k_ (area:Int),.int k_ (first:Int),.int k_ (size:Int)] 202));have HB3:=hide hB3;clear hB3 hB2 hlt0;go_wp2_with fail;refine(HSE.out _ HB3.out).mono ?_;rintro e w3 ⟨rfl,rfl⟩;go_wp2;obtain⟨k0,k1,k2⟩:=keep3' (x:=.int .i64 (area:Int)) (y:=.int .i64 (first:Int)) (z:=.int .i64 (size:Int)) p0 p1 p2;have HV:=hide (((HB2.out.setCell (p:=⟨w.heap.size,0,none⟩) (n_ _) (.int .i64 (area:Int))).setCell (p:=⟨w.heap.size,1,none⟩) (n_ _) (.int .i64 (first:Int))).setCell (p:=⟨w.heap.size,2,none⟩) (n_ _) (.int .i64 (size:Int)));generalize ((w2.setCell ⟨w.heap.size,0,none⟩ (i_ k_ (area:Int))).setCell ⟨w.heap.size,1,none⟩ (i_ k_ (first:Int))).setCell ⟨w.heap.size,2,none⟩ (i_ k_ (size:Int))=V at *;have j0:=aA (a_ V (o_ #[.int k_ (area:Int),.int k_ (first:Int),.int k_ (size:Int)] 202)) k0;have j1:=aA (a_ V (o_ #[.int k_ (area:Int),.int k_ (first:Int),.int k_ (size:Int)] 202)) k1;have j2:=aA (a_ V (o_ #[.int k_ (area:Int),.int k_ (first:Int),.int k_ (size:Int)] 202)) k2;exact bodyPost_ret (v:=.tuple #[.agg #[.int .i64 (area:Int),.int .i64 (first:Int),.int .i64 (size:Int)],.nilIface]) (by simp[results,Tryz.results139,go_sem,j0,j1,j2]) rfl ⟨rfl,aB HV.out (n_ _) (a_ _ _)⟩
theorem zHS (w:World) (hk:DK w B db S s) (hd:s.down=false) (hn:50<s.now.length):
  Calls p_ 183 #[.pointer (some ⟨db,0,none⟩),.int .i64 50] w fun e w'=>e=.returned (.tuple #[.int .i64 (aM s.now:Int),.nilIface])/\Below w.heap.size w w':=by
 have hr:s.now[50]?=some s.now[50]:=List.getElem?_eq_getElem hn;have h96:=hk.whole.1 _ (List.getElem_mem hn);have HRD:=hide (zFc w hk hd 50 _ hr);have hfr:aM s.now=if (decL s.now[50] 1).isSome then 2 else 1:=by unfold aM;rw[hr];rfl
 generalize s.now[50]=t at *;clear hk hd hr hn
 cases hdc:decL t 1 with
 | none=>
  rw[hdc] at hfr;have e:aM s.now=1:=hfr;rw[e];have HD:=fun w'=>hide (wQ t 1 (by decide) h96 hdc w');clear hfr e hdc;go_enter Tryz.func183,Tryz.ntmps183;go_wp2_with (first
   | (go_at_call 202;refine HRD.out.mono ?_;rintro e w1 ⟨rfl,rfl⟩)
   | (go_at_call 240;refine((HD _).out).mono ?_;rintro e w2 ⟨rfl,hb2⟩)
   | fail)
  go_ret2;exact⟨rfl,hb2⟩
 | some kd=>
  obtain⟨k,d⟩:=kd;rw[hdc] at hfr;have e:aM s.now=2:=hfr;rw[e];have HD:=fun w'=>hide (wL t 1 k d (by decide) h96 hdc w');clear hfr e hdc;go_enter Tryz.func183,Tryz.ntmps183;go_wp2_with (first
   | (go_at_call 202;refine HRD.out.mono ?_;rintro e w1 ⟨rfl,rfl⟩)
   | (go_at_call 240;refine((HD _).out).mono ?_;rintro e w2 ⟨rfl,hb2⟩)
   | fail)
  go_ret2;exact⟨rfl,hb2⟩
end
theorem zGN:∃ i,Tryz.prog.info? 5=some i/\i.zero=some (.int .u8 0)/\i.size=1/\i.bytes=1:=by
 have h:(Tryz.prog.info? 5).map (fun i=>(i.zero,i.size,i.bytes))=some (some (.int .u8 0),1,1):=by kernel_rfl
 cases hi:Tryz.prog.info? 5 with
 | none=>rw[hi] at h;cases h
 | some i=>
  rw[hi] at h;simp only[Option.map_some,Option.some.injEq,Prod.mk.injEq] at h;exact⟨i,rfl,h.1,h.2.1,h.2.2⟩
def zLJ (w w':World) (v:Value) (t:ByteArray):Prop:=w'.ownsRow w.heap.size 5 1 v t.size (Go.Lib.strCells t)/\Below w.heap.size w w'
def mD (w:World) (b:Nat) (c:Chg):Prop:=w.heap[b]?=some (.cells #[.string c.key,.string c.val,.bool c.gone] 133 (0,0))
theorem zJE {w:World} {b B n:Nat} {c:Chg} {v:Value} {xs:List Value} (h:mD w b c) (ho:w.ownsRow B 5 1 v n xs):v.ownBlock≠some b:=by
 intro e;rcases ho.2 with⟨rfl,_⟩|⟨g,cap,cur,rfl,_,hg,_⟩
 ·cases e
 ·have:g=b:=by simpa[Value.ownBlock] using e
  subst this;rw[h] at hg;simp at hg
theorem uG {w w':World} {b B n:Nat} {c:Chg} {v:Value} {xs:List Value} (h:mD w b c) (ho:w.ownsRow B 5 1 v n xs) (hg:w.grownBy w' v.ownBlock):mD w' b c:=
 (hg.block b (Array.getElem?_eq_some_iff.1 h).1 (fun e=>zJE h ho e.symm)).trans h
theorem zI5 {w w':World} {b:Nat} {c:Chg} (h:mD w b c) (hb:Below w.heap.size w w'):mD w' b c:=
 (hb.block b (Array.getElem?_eq_some_iff.1 h).1).trans h
theorem uX {w:World} {b:Nat} {c:Chg} (h:mD w b c):w.cell? ⟨b,0,none⟩=some (.string c.key)/\w.cell? ⟨b,1,none⟩=some (.string c.val)/\w.cell? ⟨b,2,none⟩=some (.bool c.gone):=by
 unfold mD at h;refine⟨?_,?_,?_⟩<;>simp[World.cell?,h]
theorem zHs (w:World) (i j:Int) (c:Chg):∀ k u,([.int .u8 i,.int .u8 j]:List Value)[k]?=some u->((w.alloc (o_ #[.string c.key,.string c.val,.bool c.gone] 133)).alloc (o_ #[.int .u8 i,.int .u8 j] 5)).cell? ((⟨w.heap.size+1,0,none⟩:Addr).add k)=some u:=by
 intro k u h;have e:(w.alloc (o_ #[.string c.key,.string c.val,.bool c.gone] 133)).heap.size=w.heap.size+1:=by simp
 generalize w.alloc (o_ #[.string c.key,.string c.val,.bool c.gone] 133)=W at *;rw[<-e,Go.WideShapes.add_plain,Nat.zero_add,aC W];simpa using h
theorem zMg (i j:Int):∀ u∈([.int .u8 i,.int .u8 j]:List Value),u.oneCell'=true:=by
 intro u h;simp only[List.mem_cons,List.not_mem_nil,or_false] at h;rcases h with rfl|rfl<;>rfl
theorem zKa (l:List Chg) (ao:Option Addr) (cap:Nat) (w:World) (hd:bW w ao l) (hl:l.length<=1000) (hsz:∀ c∈l,c.key.size<=255/\c.val.size<=255):
  Calls p_ 180 #[.slice ao l.length cap] w fun e w'=>∃ v,e=.returned v/\zLJ w w' v (aO l):=by
 have HD:=hide hd;have HZ:=hide hsz;clear hd hsz;obtain⟨i0,hi0,hz0,hi2,hi24⟩:=zGN;go_enter Tryz.func180,Tryz.ntmps180;go_wp2
 go_loopw [3,8] (fun v iv wr=>∃ k:Nat,k<=l.length/\iv=.int .i64 (k:Int)/\zLJ w wr v (aO (l.take k))) (fun _ iv _=>l.length-(intOf iv).toNat)
 case atStart=>exact⟨0,Nat.zero_le _,rfl,⟨rfl,.inl ⟨rfl,rfl⟩⟩,r_ _ _⟩
 case round=>
  obtain⟨k,hk,rfl,ho,hb⟩:=hrel;by_cases hlt:k<l.length
  ·have hlt':(k:Int)<(l.length:Int):=by omega
   have hk0:(0:Int)<=(k:Int):=by omega
   rcases HD.out with e|⟨b,off,e,hch⟩
   ·rw[e] at hlt;simp at hlt
   subst e;obtain⟨x0,x1,x2⟩:=hch k hlt;have hsn:aO (l.take (k+1))=aO (l.take k)++rowB l[k]:=by
    rw[List.take_succ_eq_append_getElem hlt,zGO]
   have hps:(aO (l.take k)).size<=512000:=by
    have h1:=sP (l.take k) 510 fun c hc=>by have:=HZ.out c (List.mem_of_mem_take hc);omega
    rw[List.length_take] at h1;have:min k l.length*(510+2)<=1000*512:=Nat.mul_le_mul (by omega) (by omega);omega
   obtain⟨z1,z2⟩:=HZ.out _ (List.getElem_mem hlt);clear hch;generalize l[k]=x at *;generalize aO (l.take k)=pt at *;replace x0:=aA hb x0;replace x1:=aA hb x1;replace x2:=aA hb x2;have HO:=hide ho;have HBR:=hide hb;have HSN:=hide hsn;clear ho hb hsn;have hal:∀ (W:World),mD (W.alloc (o_ #[.string x.key,.string x.val,.bool x.gone] 133)) W.heap.size x:=fun W=>by
    unfold mD World.alloc;simp
   have HBLK:=hide (hal wr);clear hal;have hbx:=a_ wr (o_ #[.string x.key,.string x.val,.bool x.gone] 133);have HBX:=hide (aB HBR.out (n_ _) hbx);have HO1:=hide (bQ HO.out hbx);clear HO hbx;have s1:(Go.Lib.strCells ⟨#[UInt8.ofNat x.key.size,UInt8.ofNat x.val.size]⟩)=[.int .u8 (x.key.size:Int),.int .u8 (x.val.size:Int)]:=zIL _ _ (by omega) (by omega);have HS1:=hide s1;clear s1;go_wp2_with (at_builtin;first
    | (refine wpList_append_own _ rfl _ _ 247 rfl w.heap.size 5 i0 _ 1 1 Tryz.underlying247 hi0 hz0 hi2 hi24 rfl (by omega) _ pt.size _ rfl (HO1.out.alloc _) ⟨wr.heap.size+1,0,none⟩ 2 2 [.int .u8 (x.key.size:Int),.int .u8 (x.val.size:Int)] rfl rfl (zHs _ _ _ _) (zMg _ _) (by unfold maxLen;omega) (by omega) (by have:=HBX.out.size;simp at this ⊢;omega) ?_;intro v7 w7 ho7 hg7 _;have HK7:=hide (uG (zI5 HBLK.out (a_ _ _)) (HO1.out.alloc _) hg7);have HB7:=hide ((aB HBX.out (n_ _) (a_ _ _)).grown hg7 (aB HBX.out (n_ _) (a_ _ _)).size (fun k hk=>(HO1.out.lt k hk).1));have HO7:=hide ho7;obtain⟨y0,y1,_⟩:=uX HK7.out;clear ho7 hg7)
    | (refine Go.Lib.wpList_append_own_string _ rfl _ _ 247 9 rfl w.heap.size 5 i0 Tryz.underlying247 Tryz.underlying9 hi0 hz0 hi2 hi24 _ (pt.size+2) _ rfl HO7.out x.key rfl (by unfold maxLen;omega) (by omega) HB7.out.size ?_;intro v8 w8 ho8 hg8 _;have HK8:=hide (uG HK7.out HO7.out hg8);have HB8:=hide (HB7.out.grown hg8 HB7.out.size (fun k hk=>(HO7.out.lt k hk).1));have HO8:=hide ho8;obtain⟨q0,q1,_⟩:=uX HK8.out;clear ho8 hg8 y0 y1)
    | (refine Go.Lib.wpList_append_own_string _ rfl _ _ 247 9 rfl w.heap.size 5 i0 Tryz.underlying247 Tryz.underlying9 hi0 hz0 hi2 hi24 _ (pt.size+2+x.key.size) _ rfl HO8.out x.val rfl (by unfold maxLen;omega) (by omega) HB8.out.size ?_;intro v9 w9 ho9 hg9 _;have HB9:=hide (HB8.out.grown hg9 HB8.out.size (fun k hk=>(HO8.out.lt k hk).1));have HO9:=hide ho9;clear ho9 hg9))
   refine⟨⟨k+1,by omega,by go_num,?_,HB9.out⟩,by simp[intOf];omega⟩;have e:(pt++rowB x).size=pt.size+2+x.key.size+x.val.size:=by rw[ByteArray.size_append,oA];omega
   have e2:Go.Lib.strCells (pt++rowB x)=Go.Lib.strCells pt++[.int .u8 (x.key.size:Int),.int .u8 (x.val.size:Int)]++Go.Lib.strCells x.key++Go.Lib.strCells x.val:=by
    unfold rowB;rw[mE,mE,mE,HS1.out];simp only[List.append_assoc]
   rw[HSN.out,e,e2];exact HO9.out
  ·have ek:k=l.length:=by omega
   subst ek;have hlt':¬(l.length:Int)<(l.length:Int):=by omega
   rw[List.take_length] at ho;have HO:=hide ho;have HBR:=hide hb;clear ho hb;go_wp2;go_ret;exact⟨_,rfl,HO.out,HBR.out⟩
theorem zE8 (o:DOp) (s:DSt) (j:Nat) (h:∀ a d,o=some (a,d)->a≠j):(opD o s).now[j]?=s.now[j]?:=by
 cases o with
 | some x=>
  obtain⟨a,d⟩:=x;have ha:=h a d rfl;show(cV s a d).now[j]?=_;unfold cV;split
  ·rfl
  ·split
   ·show((bR s).now.set _ _)[j]?=_;rw[Int.toNat_natCast,List.getElem?_set_ne ha,(eH s).1]
   ·rw[(eH s).1]
 | none=>
  show(bZ s).now[j]?=_;unfold bZ;split
  ·show(bR s).now[j]?=_;rw[(eH s).1]
  ·rw[(eH s).1]
theorem zKV (l:List DOp) (j:Nat):∀ s,(∀ o∈l,∀ a d,o=some (a,d)->a≠j)->(runD l s).2.now[j]?=s.now[j]?:=by
 induction l with
 | nil=>intro s _;rfl
 | cons o l ih=>
  intro s h;show(if opF o s=0 then runD l (opD o s) else (opF o s,opD o s)).2.now[j]?=_;split
  ·rw[ih _ fun o' h'=>h o' (List.mem_cons_of_mem _ h')];exact zE8 o s j (h o (List.mem_cons_self ..))
  ·exact zE8 o s j (h o (List.mem_cons_self ..))
theorem zMw {s:DSt} (h:cD s=0):(bR s).down=false:=by
 unfold cD at h
 cases hd:s.down with
 | true=>rw[hd] at h;simp at h
 | false=>
  rw[hd] at h;by_cases hl:s.left=0
  ·simp[hl] at h
  ·unfold bR;simp[hd,hl]
theorem zJK {s:DSt} (h:cD s=0):(bZ s).down=false:=by
 unfold bZ;rw[if_pos h];exact zMw h
theorem zG3 {N M:List ByteArray} (h:N[50]?=M[50]?):aM N=aM M:=by unfold aM;rw[h]
theorem zIK {t:ByteArray} (h:t.size=0):t=⟨#[]⟩:=by
 apply ByteArray.ext;exact Array.size_eq_zero_iff.1 h
def zIp (rv:Value) (f area first size:Nat):Prop:=∃ x y z:Int,rv=.agg #[.int .i64 x,.int .i64 y,.int .i64 z]/\(f=0->x=(area:Int)/\y=(first:Int)/\z=(size:Int))
def dC (area:Nat) (rows:List Chg) (s:DSt):Nat×DSt:=runD (oH area (aM s.now) rows) s
theorem zFV (area:Nat) (rows:List Chg) (s:DSt):dC area rows s =
  if (runD (aL (aJ area) (bI (aO rows))) s).1=0 then
   if cD (runD (aL (aJ area) (bI (aO rows))) s).2=0 then
    if dO (bZ (runD (aL (aJ area) (bI (aO rows))) s).2) 0 (eK area (aM s.now) rows)=0 then (cD (cV (bZ (runD (aL (aJ area) (bI (aO rows))) s).2) 0 (eK area (aM s.now) rows)),bZ (cV (bZ (runD (aL (aJ area) (bI (aO rows))) s).2) 0 (eK area (aM s.now) rows)))
    else (dO (bZ (runD (aL (aJ area) (bI (aO rows))) s).2) 0 (eK area (aM s.now) rows),cV (bZ (runD (aL (aJ area) (bI (aO rows))) s).2) 0 (eK area (aM s.now) rows))
   else (cD (runD (aL (aJ area) (bI (aO rows))) s).2,bZ (runD (aL (aJ area) (bI (aO rows))) s).2)
  else runD (aL (aJ area) (bI (aO rows))) s:=by
 unfold dC oH;rw[gE];by_cases h1:(runD (aL (aJ area) (bI (aO rows))) s).1=0
 ·rw[if_pos h1,if_pos h1];generalize (runD (aL (aJ area) (bI (aO rows))) s).2=s1;rw[gE,jC];show(if cD s1=0 then _ else (cD s1,bZ s1))=_;by_cases h2:cD s1=0
  ·rw[if_pos h2,if_pos h2];show runD _ (bZ s1)=_;generalize bZ s1=s2;rw[gE,jC];show(if dO s2 0 (eK area (aM s.now) rows)=0 then runD _ (cV s2 0 (eK area (aM s.now) rows)) else (dO s2 0 (eK area (aM s.now) rows),cV s2 0 (eK area (aM s.now) rows)))=_;by_cases h3:dO s2 0 (eK area (aM s.now) rows)=0
   ·rw[if_pos h3,if_pos h3,List.append_nil,jC];rfl
   ·rw[if_neg h3,if_neg h3]
  ·rw[if_neg h2,if_neg h2]
 ·rw[if_neg h1,if_neg h1]
end
section
open Go.RowKit Go.Joins
def oQ (c:Chg) (s:Bool×List (ByteArray×ByteArray)) (r:ByteArray×ByteArray):Bool×List (ByteArray×ByteArray):=
 (s.1 || leS c.key r.1,(if !s.1&&leS c.key r.1 then s.2++[(c.key,c.val)] else s.2)++if eqS r.1 c.key then [] else [r])
def endA (c:Chg) (s:Bool×List (ByteArray×ByteArray)):List (ByteArray×ByteArray):=if s.1 then s.2 else s.2++[(c.key,c.val)]
def apply1 (l:List (ByteArray×ByteArray)) (c:Chg):List (ByteArray×ByteArray):=endA c (l.foldl (oQ c) (c.gone,[]))
def iB (l:List (ByteArray×ByteArray)) (cs:List Chg):List (ByteArray×ByteArray):=cs.foldl apply1 l
abbrev bV (l:List (ByteArray×ByteArray)):Prop:=l.Pairwise fun a b=>ltS a.1 b.1=true
theorem rH {a b:ByteArray} (h:a≠b):eqS a b=false:=by
 cases e:eqS a b with
 | false=>rfl
 | true=>exact absurd ((eV _ _).1 e) h
theorem pG (a:ByteArray):eqS a a=true:=(eV _ _).2 rfl
theorem uE (c:Chg):∀ (l out:List (ByteArray×ByteArray)),(l.foldl (oQ c) (true,out))=(true,out++l.filter fun r=>!eqS r.1 c.key)
 | [],out=>by simp
 | r::l,out=>by
  rw[List.foldl_cons];have e:oQ c (true,out) r=(true,out++if eqS r.1 c.key then [] else [r]):=by simp[oQ]
  rw[e,uE c l];cases h:eqS r.1 c.key<;>simp[h]
theorem zS (c:Chg):∀ (l out:List (ByteArray×ByteArray)),bV l->endA c (l.foldl (oQ c) (false,out))=out++(l.filter fun r=>ltS r.1 c.key)++(c.key,c.val)::l.filter fun r=>ltS c.key r.1
 | [],out,_=>by simp[endA]
 | r::l,out,h=>by
  replace h:=List.pairwise_cons.1 h;rw[List.foldl_cons]
  cases hle:leS c.key r.1 with
  | false=>
   have hlt:ltS r.1 c.key=true:=by have:=mA c.key r.1;rw[hle] at this;simpa using this
   have hne:eqS r.1 c.key=false:=rH fun e=>by rw[e,bA] at hlt;cases hlt
   have hgt:ltS c.key r.1=false:=by
    cases e:ltS c.key r.1 with
    | false=>rfl
    | true=>have:=cL e hlt;rw[bA] at this;cases this
   have e:oQ c (false,out) r=(false,out++[r]):=by simp[oQ,hle,hne]
   rw[e,zS c l _ h.2];simp[hlt,hgt]
  | true=>
   have e:oQ c (false,out) r=(true,out++[(c.key,c.val)]++if eqS r.1 c.key then [] else [r]):=by simp[oQ,hle]
   rw[e,uE];have hup:∀ x∈l,ltS c.key x.1=true:=fun x hx=>by
    have h1:=h.1 x hx;rcases(jM _ _).1 hle with h2|h2
    ·exact cL h2 h1
    ·rw[h2];exact h1
   have f1:(l.filter fun r=>ltS r.1 c.key)=[]:=List.filter_eq_nil_iff.2 fun x hx e=>by
    have:=cL (hup x hx) e;rw[bA] at this;cases this
   have f2:(l.filter fun r=>ltS c.key r.1)=l:=List.filter_eq_self.2 hup;have f3:(l.filter fun r=>!eqS r.1 c.key)=l:=List.filter_eq_self.2 fun x hx=>by
    rw[rH fun e=>by have:=hup x hx;rw[e,bA] at this;cases this];rfl
   have hlt:ltS r.1 c.key=false:=by have:=mA c.key r.1;rw[hle] at this;simpa using this
   rw[f3]
   cases heq:eqS r.1 c.key with
   | true=>
    have e2:=(eV _ _).1 heq;have hgt:ltS c.key r.1=false:=by rw[e2,bA]
    simp[endA,hlt,hgt,f1,f2]
   | false=>
    have hgt:ltS c.key r.1=true:=by
     rcases(jM _ _).1 hle with h2|h2
     ·exact h2
     ·rw[h2,pG] at heq;cases heq
    simp[endA,hlt,hgt,f1,f2]
theorem iF {l:List (ByteArray×ByteArray)} {c:Chg} (h:c.gone=true):apply1 l c=l.filter fun r=>!eqS r.1 c.key:=by
 unfold apply1;rw[h,uE];simp[endA]
theorem iX {l:List (ByteArray×ByteArray)} {c:Chg} (hl:bV l) (h:c.gone=false):apply1 l c=(l.filter fun r=>ltS r.1 c.key)++(c.key,c.val)::l.filter fun r=>ltS c.key r.1:=by
 unfold apply1;rw[h,zS c l [] hl];simp
theorem jO {l:List (ByteArray×ByteArray)} (hl:bV l) (c:Chg):bV (apply1 l c):=by
 cases h:c.gone with
 | true=>rw[iF h];exact hl.filter _
 | false=>
  rw[iX hl h];unfold bV;rw[List.pairwise_append];refine⟨hl.filter _,?_,?_⟩
  ·rw[List.pairwise_cons];exact⟨fun x hx=>(List.mem_filter.1 hx).2,hl.filter _⟩
  ·intro x hx y hy;have h1:=(List.mem_filter.1 hx).2;rcases List.mem_cons.1 hy with rfl|hy
   ·exact h1
   ·exact cL h1 (List.mem_filter.1 hy).2
theorem zAt {l:List (ByteArray×ByteArray)} (hl:bV l) (cs:List Chg):bV (iB l cs):=by
 unfold iB
 induction cs generalizing l with
 | nil=>exact hl
 | cons c cs ih=>exact ih (jO hl c)
end
section
open Go.RowKit Go.Joins
attribute [local go_sem ↓] Go.wp_at_zero Go.wp_at_succ
def jW (l:List Chg):Nat:=if 12<l.length then 2 else bS l
theorem zFX (l:List Chg) (ao:Option Addr) (cap:Nat) (w:World) (hd:bW w ao l) (hl:l.length<=1000) (hsz:∀ c∈l,c.key.size<=maxLen):
  Calls p_ 191 #[.slice ao l.length cap] w fun e w'=>e=.returned (errV (jW l))/\Below w.heap.size w w':=by
 by_cases hm:12<l.length
 ·have e:jW l=2:=if_pos hm;have hm':(12:Int)<(l.length:Int):=by omega
  rw[e,aP (by decide)];go_enter Tryz.func191,Tryz.ntmps191;go_wp2;go_ret;exact⟨rfl,r_ _ _⟩
 ·have hm':¬(12:Int)<(l.length:Int):=by omega
  have e:jW l=bS l:=if_neg hm;rw[e];have HD:=hide hd;have HZ:=hide hsz;clear hd hsz e hm;go_enter Tryz.func191,Tryz.ntmps191;go_wp2
  go_loopw [12] (fun iv wr=>∃ k:Nat,k<=l.length/\iv=.int .i64 (k:Int)/\bS (l.take k)=0/\Below w.heap.size w wr) (fun iv _=>l.length-(intOf iv).toNat)
  case atStart=>exact⟨0,Nat.zero_le _,rfl,rfl,r_ _ _⟩
  case round=>
   obtain⟨k,hk,rfl,hc0,hb⟩:=hrel;by_cases hlt:k<l.length
   ·have hlt':(k:Int)<(l.length:Int):=by omega
    have hk0:(0:Int)<=(k:Int):=by omega
    rcases HD.out with e|⟨b,off,e,hch⟩
    ·rw[e] at hlt;simp at hlt
    subst e;obtain⟨x0,x1,x2⟩:=hch k hlt;have hcf:=zC hlt hc0;have hz:=HZ.out _ (List.getElem_mem hlt);clear hch;generalize l[k]=x at *;replace x0:=aA hb x0;replace x1:=aA hb x1;replace x2:=aA hb x2;have HBR:=hide hb;have HCK:=fun w'=>hide (gB x w' hz);have HBX:=hide (a_ wr (o_ #[.string x.key,.string x.val,.bool x.gone] 133));clear hb;by_cases hf:aD x=0
    ·have HC1:=hide (hcf.1.trans hf);rw[hf,aR] at HCK;clear hf hcf;go_wp2_with (first
      | (go_at_call 170;refine((HCK _).out).mono ?_;rintro e w7 ⟨rfl,hb7⟩;replace HBX:=hide (aB HBX.out (n_ _) hb7);clear hb7))
     exact⟨⟨k+1,by omega,by go_num,HC1.out,aB HBR.out (n_ _) HBX.out⟩,by simp[intOf];omega⟩
    ·have HC1:=hide (hcf.2 hf);have HER:Hid (errV (aD x)=.iface 114 (.int .i64 (aD x))):=aP hf;rw[HER.out] at HCK;clear hf hcf;go_wp2_with (first
      | (go_at_call 170;refine((HCK _).out).mono ?_;rintro e w7 ⟨rfl,hb7⟩;replace HBX:=hide (aB HBX.out (n_ _) hb7);clear hb7))
     go_ret;refine⟨?_,aB HBR.out (n_ _) HBX.out⟩;rw[HC1.out,HER.out];rfl
   ·have ek:k=l.length:=by omega
    subst ek;have hlt':¬(l.length:Int)<(l.length:Int):=by omega
    rw[List.take_length] at hc0;have HC0:=hide hc0;have HBR:=hide hb;clear hc0 hb;go_wp2;go_ret;rw[HC0.out];exact⟨rfl,HBR.out⟩
end
section
open Go.RowKit Go.Joins
def kvC (c:Chg):ByteArray×ByteArray:=(c.key,c.val)
def fQ (c:Chg):Bool:=!c.gone
def aK (rows l:List Chg):List Chg:=(l.foldl insL rows).filter fQ
def aS (l:List Chg):List (ByteArray×ByteArray):=l.map kvC
theorem zHD {l:List Chg} (c:Chg) (h:rises l):insL l c=(l.filter fun x=>ltS x.key c.key)++c::l.filter fun x=>ltS c.key x.key:=by
 induction l with
 | nil=>rfl
 | cons x l ih=>
  obtain⟨h1,h2⟩:=List.pairwise_cons.1 h;unfold insL;rcases zD x.key c.key with⟨a1,a2,a3,a4⟩|a1|⟨a1,a2,a3,a4⟩
  ·rw[if_pos a1,ih h2,List.filter_cons,if_pos a1,List.filter_cons,if_neg (by rw[a3];decide)];rfl
  ·have hup:∀ y∈l,ltS c.key y.key=true:=fun y hy=>by rw[<-a1];exact h1 y hy
   have f1:(l.filter fun y=>ltS y.key c.key)=[]:=List.filter_eq_nil_iff.2 fun y hy e=>by
    have:=cL (hup y hy) e;rw[bA] at this;cases this
   have f2:(l.filter fun y=>ltS c.key y.key)=l:=List.filter_eq_self.2 hup;have n1:ltS x.key c.key=false:=by rw[a1];exact bA _
   have n2:ltS c.key x.key=false:=by rw[a1];exact bA _
   rw[if_neg (by rw[n1];decide),if_pos (by rw[a1];exact xB _),List.filter_cons,if_neg (by rw[n1];decide),List.filter_cons,if_neg (by rw[n2];decide),f1,f2];rfl
  ·have hup:∀ y∈l,ltS c.key y.key=true:=fun y hy=>cL a3 (h1 y hy);have f1:(l.filter fun y=>ltS y.key c.key)=[]:=List.filter_eq_nil_iff.2 fun y hy e=>by
    have:=cL (hup y hy) e;rw[bA] at this;cases this
   have f2:(l.filter fun y=>ltS c.key y.key)=l:=List.filter_eq_self.2 hup;rw[if_neg (by rw[a1];decide),if_neg (by rw[a2];decide),List.filter_cons,if_neg (by rw[a1];decide),List.filter_cons,if_pos a3,f1,f2];rfl
theorem zK2 {l:List (ByteArray×ByteArray)} (k:ByteArray) (h:bV l):(l.filter fun r=>!eqS r.1 k)=(l.filter fun r=>ltS r.1 k)++l.filter fun r=>ltS k r.1:=by
 induction l with
 | nil=>rfl
 | cons x l ih=>
  obtain⟨h1,h2⟩:=List.pairwise_cons.1 h;have ih:=ih h2;rcases zD x.1 k with⟨a1,a2,a3,a4⟩|a1|⟨a1,a2,a3,a4⟩
  ·rw[List.filter_cons,if_pos (by rw[a2];rfl),List.filter_cons,if_pos a1,List.filter_cons,if_neg (by rw[a3];decide),ih];rfl
  ·have n1:ltS x.1 k=false:=by rw[a1];exact bA _
   have n2:ltS k x.1=false:=by rw[a1];exact bA _
   have n3:eqS x.1 k=true:=by rw[a1];exact xB _
   rw[List.filter_cons,if_neg (by rw[n3];decide),List.filter_cons,if_neg (by rw[n1];decide),List.filter_cons,if_neg (by rw[n2];decide),ih]
  ·have hup:∀ y∈l,ltS k y.1=true:=fun y hy=>cL a3 (h1 y hy);have f1:(l.filter fun y=>ltS y.1 k)=[]:=List.filter_eq_nil_iff.2 fun y hy e=>by
    have:=cL (hup y hy) e;rw[bA] at this;cases this
   rw[f1,List.nil_append] at ih;rw[List.filter_cons,if_pos (by rw[a2];rfl),List.filter_cons,if_neg (by rw[a1];decide),List.filter_cons,if_pos a3,ih,f1];rfl
theorem oY {l:List Chg} (h:rises l):bV (aS l):=by
 unfold bV aS;rw[List.pairwise_map];exact h
theorem zHq {l:List Chg} (c:Chg) (h:rises l):aS ((insL l c).filter fQ)=apply1 (aS (l.filter fQ)) c:=by
 have hr:bV (aS (l.filter fQ)):=oY (h.filter _);rw[zHD c h,List.filter_append,List.filter_cons,List.filter_filter,List.filter_filter];have e1:∀ (p:ByteArray->Bool),(aS (l.filter fQ)).filter (fun r=>p r.1)=aS (l.filter fun x=>fQ x&&p x.key):=fun p=>by
  unfold aS;rw[List.filter_map,List.filter_filter];congr 1;apply List.filter_congr;intro x _;show(p x.key&&fQ x)=(fQ x&&p x.key);exact Bool.and_comm _ _
 have e2:=e1 (fun k=>ltS k c.key);have e3:=e1 (fun k=>ltS c.key k)
 cases hg:c.gone with
 | true=>
  rw[iF hg,zK2 _ hr,e2,e3,if_neg (by unfold fQ;rw[hg];decide)];unfold aS;rw[List.map_append]
 | false=>
  rw[iX hr hg,e2,e3,if_pos (by unfold fQ;rw[hg];rfl)];unfold aS;rw[List.map_append,List.map_cons];rfl
theorem yX (l:List Chg):∀ (rows:List Chg),rises rows->aS ((l.foldl insL rows).filter fQ)=iB (aS (rows.filter fQ)) l/\rises (l.foldl insL rows):=by
 induction l with
 | nil=>intro rows h;exact⟨rfl,h⟩
 | cons c l ih=>
  intro rows h;obtain⟨a,b⟩:=ih (insL rows c) (zA8 c h);refine⟨?_,b⟩;show aS ((l.foldl insL (insL rows c)).filter fQ)=iB (apply1 (aS (rows.filter fQ)) c) l;rw[a,zHq c h]
theorem zJm {rows:List Chg} (h:fH rows):rows.filter fQ=rows:=List.filter_eq_self.2 fun c hc=>by
 unfold fQ;rw[(h.1 c hc).2];rfl
theorem zBY {rows:List Chg} (h:fH rows) (l:List Chg):aS (aK rows l)=iB (aS rows) l:=by
 have:=(yX l rows h.2).1;rw[zJm h] at this;exact this
theorem zLz (l:List Chg):∀ (rows:List Chg) (c:Chg),c∈l.foldl insL rows->c∈l∨c∈rows:=by
 induction l with
 | nil=>intro rows c h;exact .inr h
 | cons x l ih=>
  intro rows c h;rcases ih _ c h with h|h
  ·exact .inl (List.mem_cons_of_mem _ h)
  ·rcases vU h with rfl|h
   ·exact .inl (List.mem_cons_self ..)
   ·exact .inr h
theorem tW (l:List Chg):∀ (rows:List Chg),(l.foldl insL rows).length<=rows.length+l.length:=by
 induction l with
 | nil=>intro rows;exact n_ _
 | cons x l ih=>
  intro rows;have h1:=ih (insL rows x);have h2:=yP rows x;show(l.foldl insL (insL rows x)).length<=_;rw[List.length_cons];omega
theorem zGt (rows l:List Chg):(aK rows l).length<=rows.length+l.length:=Nat.le_trans (List.length_filter_le _ _) (tW l rows)
theorem zI3 {l:List Chg} (h:bS l=0):∀ c∈l,aD c=0:=by
 induction l with
 | nil=>intro c hc;exact absurd hc List.not_mem_nil
 | cons x l ih=>
  intro c hc;have h':(if aD x=0 then bS l else aD x)=0:=h;by_cases e:aD x=0
  ·rw[if_pos e] at h';rcases List.mem_cons.1 hc with rfl|hc
   ·exact e
   ·exact ih h' c hc
  ·rw[if_neg e] at h';exact absurd h' e
theorem zEG {rows l:List Chg} (h:fH rows) (hl:bS l=0):fH (aK rows l):=by
 refine⟨fun c hc=>?_,((yX l rows h.2).2).filter _⟩;obtain⟨h1,h2⟩:=List.mem_filter.1 hc;refine⟨?_,by unfold fQ at h2;simpa using h2⟩;rcases zLz l rows c h1 with h1|h1
 ·exact zI3 hl c h1
 ·exact(h.1 c h1).1
theorem xS:fH []:=⟨fun _ hc=>absurd hc List.not_mem_nil,List.Pairwise.nil⟩
end
end Go.Proofs.YtnboipekkahmnaaGreatDoor
