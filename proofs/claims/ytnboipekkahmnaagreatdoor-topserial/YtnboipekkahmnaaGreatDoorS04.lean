import Derived.Test.YtnboipekkahmnaaGreatDoorS03
set_option maxHeartbeats 8000000
set_option maxRecDepth 100000
namespace Go.Proofs.YtnboipekkahmnaaGreatDoor
open Obj renaming cells→o_
open World renaming cell?_of_block→b_,ownsRow.lt→l_
open Go.RowKit.Below renaming heap_setCell→h_,refl→r_
open Nat renaming le_refl→n_
open Tryz renaming prog→p_
open Go.Joins renaming below_alloc1→a_
section
open Go.RowKit Go.Joins
attribute [local go_sem ↓] Go.wp_at_zero Go.wp_at_succ
structure AddI (w:World) (B lb db:Nat) (S:Nat->Prop) (fr many first used sb cap:Nat) (secs:List ByteArray) (s:DSt):Prop where
 dk:DK w B db S s
 hd:LHd w lb db fr many first used
 nl:¬S lb
 ce:∀ i (h:i<secs.length),w.cell? ⟨sb,i,none⟩=some (.string secs[i])
 ns:¬S sb
 pos:0<secs.length
 fit:used+secs.length<=many/\fr+many<=s.now.length
section
variable {w w':World} {B lb db:Nat} {S:Nat->Prop} {fr many first used sb cap:Nat} {secs:List ByteArray} {s s':DSt}
theorem AddI.lt (h:AddI w B lb db S fr many first used sb cap secs s):sb<w.heap.size:=World.block_lt_of_cell? _ _ (h.ce 0 h.pos)
theorem AddI.on (h:AddI w B lb db S fr many first used sb cap secs s) (hb:Below w.heap.size w w'):AddI w' B lb db S fr many first used sb cap secs s:=
 ⟨h.dk.on hb,h.hd.kept (hb.block lb h.hd.lt),h.nl,fun i hi=>aA hb (h.ce i hi),h.ns,h.pos,h.fit⟩
theorem AddI.step {S':Nat->Prop} (h:AddI w B lb db S fr many first used sb cap secs s) (hk:DK w' B db S' s') (hs:aG w w' B S S') (hl:s'.now.length=s.now.length):AddI w' B lb db S' fr many first used sb cap secs s':=
 have f1:=hs.far lb h.hd.lt h.nl;have f2:=hs.far sb h.lt h.ns
 ⟨hk,h.hd.kept f1.1,f1.2,fun i hi=>(b_ (a:=⟨sb,i,none⟩) f2.1).trans (h.ce i hi),f2.2,h.pos,by rw[hl];exact h.fit⟩
theorem pD (i:Nat) (d:ByteArray) (w:World) (h:AddI w B lb db S fr many first used sb cap secs s) (hi:i<=many):
  Calls p_ 316 #[.agg #[.pointer (some ⟨lb,0,none⟩),.slice (some ⟨sb,0,none⟩) secs.length cap],.int .i64 (i:Int),.string d] w fun e w'=>e=.returned (errV (opF (some (fr+used+i,d)) s))/\ActD w w' B db S (opD (some (fr+used+i,d)) s):=by
 have hmany:=h.dk.many;have hfit:=h.fit;have HB:=hide (a_ w (o_ #[.pointer (some ⟨lb,0,none⟩),.slice (some ⟨sb,0,none⟩) secs.length cap] 327));have H2:=hide (h.on HB.out);have c0:=H2.out.hd.c0;have c1:=H2.out.hd.c1;have c4:=H2.out.hd.c4;have a0:(w.alloc (o_ #[.pointer (some ⟨lb,0,none⟩),.slice (some ⟨sb,0,none⟩) secs.length cap] 327)).cell? ⟨w.heap.size,0,none⟩=some (.pointer (some ⟨lb,0,none⟩)):=aC _ _ _ 0;have HNW:Hid (¬S w.heap.size):=fun e=>by have:=h.dk.lt e;omega
 have HST:Hid (aG w (w.alloc (o_ #[.pointer (some ⟨lb,0,none⟩),.slice (some ⟨sb,0,none⟩) secs.length cap] 327)) B S S):=.on h.dk.lo HB.out;clear h;generalize hW:w.alloc (o_ #[.pointer (some ⟨lb,0,none⟩),.slice (some ⟨sb,0,none⟩) secs.length cap] 327)=W at *;have HWR:=hide (sH ((fr:Int)+(used:Int)+(i:Int)) d W.drew (H2.out.dk.on (r_ _ W).drew));have e:(fr:Int)+(used:Int)+(i:Int)=((fr+used+i:Nat):Int):=by omega
 have HE:Hid (opF (some (fr+used+i,d)) s=dO s ((fr:Int)+(used:Int)+(i:Int)) d/\opD (some (fr+used+i,d)) s=cV s ((fr:Int)+(used:Int)+(i:Int)) d):=by rw[e];exact⟨rfl,rfl⟩
 rw[HE.out.1,HE.out.2];generalize dO s ((fr:Int)+(used:Int)+(i:Int)) d=ff at *;generalize cV s ((fr:Int)+(used:Int)+(i:Int)) d=s2 at *;have k1:IntKind.i64.wrap ((fr:Int)+(used:Int))=(fr:Int)+(used:Int):=by rw[IntKind.wrap_i64];omega
 have k2:IntKind.i64.wrap ((fr:Int)+(used:Int)+(i:Int))=(fr:Int)+(used:Int)+(i:Int):=by rw[IntKind.wrap_i64];omega
 clear HE e HB;go_enter Tryz.func316,Tryz.ntmps316;go_wp2
 go_region_held3 (fun w'=>w'.cell? ⟨w.heap.size,0,none⟩=some (.pointer (some ⟨lb,0,none⟩))/\w'.cell? ⟨lb,0,none⟩=some (.pointer (some ⟨db,0,none⟩))/\w'.cell? ⟨lb,1,none⟩=some (.int .i64 (fr:Int))/\w'.cell? ⟨lb,4,none⟩=some (.int .i64 (used:Int))) (first|exact⟨a0,c0,c1,c4⟩|exact HS3.out)
  ((go_at_call 184;refine HWR.out.mono ?_;rintro e w7 ⟨rfl,ha7⟩;obtain⟨S7,hk7,hs7⟩:=ha7;have f1:=(hs7.far lb H2.out.hd.lt H2.out.nl).1;have f2:=(hs7.far w.heap.size (World.block_lt_of_cell? _ _ a0) HNW.out).1;have HS3:Hid (w7.cell? ⟨w.heap.size,0,none⟩=some (.pointer (some ⟨lb,0,none⟩))/\w7.cell? ⟨lb,0,none⟩=some (.pointer (some ⟨db,0,none⟩))/\w7.cell? ⟨lb,1,none⟩=some (.int .i64 (fr:Int))/\w7.cell? ⟨lb,4,none⟩=some (.int .i64 (used:Int))):=⟨(b_ (a:=⟨w.heap.size,0,none⟩) f2).trans a0,(b_ (a:=⟨lb,0,none⟩) f1).trans c0,(b_ (a:=⟨lb,1,none⟩) f1).trans c1,(b_ (a:=⟨lb,4,none⟩) f1).trans c4⟩;have HA7:Hid (ActD W.drew w7 B db S s2):=⟨S7,hk7,hs7⟩;clear hk7 hs7 f1 f2))
 go_wp2;go_ret;exact⟨rfl,ActD.after HST.out (ActD.after (.on H2.out.dk.lo (r_ _ W).drew) HA7.out)⟩
end
section
variable {w w':World} {B lb db:Nat} {S:Nat->Prop} {fr many first used sb cap:Nat} {secs:List ByteArray} {s s':DSt}
theorem AddI.box (h:AddI w B lb db S fr many first used sb cap secs s):AddI (w.alloc (o_ #[.pointer (some ⟨lb,0,none⟩),.slice (some ⟨sb,0,none⟩) secs.length cap] 327)) B lb db S fr many first used sb cap secs s/\aG w (w.alloc (o_ #[.pointer (some ⟨lb,0,none⟩),.slice (some ⟨sb,0,none⟩) secs.length cap] 327)) B S S/\¬S w.heap.size:=
 ⟨h.on (a_ _ _),.on h.dk.lo (a_ _ _),fun e=>by have:=h.dk.lt e;omega⟩
theorem zKH (w:World) (h:AddI w B lb db S fr many first used sb cap secs s):
  Calls p_ 284 #[.agg #[.pointer (some ⟨lb,0,none⟩),.slice (some ⟨sb,0,none⟩) secs.length cap]] w fun e w'=>e=.returned (errV (runD [some (fr+used,bF)] s).1)/\ActD w w' B db S (runD [some (fr+used,bF)] s).2:=by
 obtain⟨h2,hst,_⟩:=h.box;have HW:=hide (pD 0 bF _ h2 (Nat.zero_le _));have HST:=hide hst;have a0:(w.alloc (o_ #[.pointer (some ⟨lb,0,none⟩),.slice (some ⟨sb,0,none⟩) secs.length cap] 327)).cell? ⟨w.heap.size,0,none⟩=some (.pointer (some ⟨lb,0,none⟩)):=aC _ _ _ 0;have a1:(w.alloc (o_ #[.pointer (some ⟨lb,0,none⟩),.slice (some ⟨sb,0,none⟩) secs.length cap] 327)).cell? ⟨w.heap.size,1,none⟩=some (.slice (some ⟨sb,0,none⟩) secs.length cap):=aC _ _ _ 1;rw[jC];rw[Nat.add_zero] at HW;unfold bF at *;generalize opF (some (fr+used,⟨#[]⟩)) s=ff at *;generalize opD (some (fr+used,⟨#[]⟩)) s=s2 at *;clear h h2 hst;go_enter Tryz.func284,Tryz.ntmps284;go_wp2_with (go_at_call 316;refine HW.out.mono ?_;rintro e w7 ⟨rfl,ha7⟩;have HA7:=hide ha7;clear ha7)
 go_ret;exact⟨rfl,ActD.after HST.out HA7.out⟩
theorem zHd (w:World) (h:AddI w B lb db S fr many first used sb cap secs s):
  Calls p_ 287 #[.agg #[.pointer (some ⟨lb,0,none⟩),.slice (some ⟨sb,0,none⟩) secs.length cap]] w fun e w'=>e=.returned (errV (runD [some (fr+used,secs.headD bF)] s).1)/\ActD w w' B db S (runD [some (fr+used,secs.headD bF)] s).2:=by
 obtain⟨h2,hst,hnw⟩:=h.box;have hpos:=h.pos;have hpos':(0:Int)<(secs.length:Int):=by omega
 obtain⟨t,hq⟩:∃ t,secs.headD bF=t/\secs[0]=t:=by
  cases secs with
  | nil=>simp at hpos
  | cons t l=>exact⟨t,rfl,rfl⟩
 have a0:(w.alloc (o_ #[.pointer (some ⟨lb,0,none⟩),.slice (some ⟨sb,0,none⟩) secs.length cap] 327)).cell? ⟨w.heap.size,0,none⟩=some (.pointer (some ⟨lb,0,none⟩)):=aC _ _ _ 0;have a1:(w.alloc (o_ #[.pointer (some ⟨lb,0,none⟩),.slice (some ⟨sb,0,none⟩) secs.length cap] 327)).cell? ⟨w.heap.size,1,none⟩=some (.slice (some ⟨sb,0,none⟩) secs.length cap):=aC _ _ _ 1;have c0:=h2.ce 0 hpos;rw[hq.2] at c0;rw[hq.1];have HST:=hide hst;have HNW:=hide hnw;have H2:=hide h2;clear h h2 hst hq hnw;generalize hW:w.alloc (o_ #[.pointer (some ⟨lb,0,none⟩),.slice (some ⟨sb,0,none⟩) secs.length cap] 327)=W at *;have HW:=hide (pD 0 t _ (H2.out.on (r_ _ W).drew) (Nat.zero_le _));rw[jC];rw[Nat.add_zero] at HW;generalize opF (some (fr+used,t)) s=ff at *;generalize opD (some (fr+used,t)) s=s2 at *;go_enter Tryz.func287,Tryz.ntmps287;go_wp2
 go_region_held3 (fun w'=>w'.cell? ⟨w.heap.size,0,none⟩=some (.pointer (some ⟨lb,0,none⟩))/\w'.cell? ⟨w.heap.size,1,none⟩=some (.slice (some ⟨sb,0,none⟩) secs.length cap)/\w'.cell? ⟨sb,0,none⟩=some (.string t)) (first|exact⟨a0,a1,c0⟩|exact HS3.out)
 ((go_at_call 316;refine HW.out.mono ?_;rintro e w7 ⟨rfl,ha7⟩;obtain⟨S7,hk7,hs7⟩:=ha7;have f1:=(hs7.far sb H2.out.lt H2.out.ns).1;have f2:=(hs7.far w.heap.size (World.block_lt_of_cell? _ _ a0) HNW.out).1;have HS3:Hid (w7.cell? ⟨w.heap.size,0,none⟩=some (.pointer (some ⟨lb,0,none⟩))/\w7.cell? ⟨w.heap.size,1,none⟩=some (.slice (some ⟨sb,0,none⟩) secs.length cap)/\w7.cell? ⟨sb,0,none⟩=some (.string t)):=⟨(b_ (a:=⟨w.heap.size,0,none⟩) f2).trans a0,(b_ (a:=⟨w.heap.size,1,none⟩) f2).trans a1,(b_ (a:=⟨sb,0,none⟩) f1).trans c0⟩;have HA7:Hid (ActD W.drew w7 B db S s2):=⟨S7,hk7,hs7⟩;clear hk7 hs7 f1 f2))
 go_wp2;go_ret;exact⟨rfl,ActD.after HST.out (ActD.after (.on H2.out.dk.lo (r_ _ W).drew) HA7.out)⟩
theorem vB (w:World) (h:LHd w lb db fr many first used) (hu:used<=many) (hm:many<=1000):Calls p_ 247 #[.pointer (some ⟨lb,0,none⟩)] w fun e w'=>e=.returned (.int .i64 ((many-used:Nat):Int))/\∃ n,w'=w.drewN n:=by
 have c2:=h.c2;have c4:=h.c4;have e:((many-used:Nat):Int)=(many:Int)-(used:Int):=by omega
 have k0:(0:Int)<=(used:Int):=by omega
 have k1:(many:Int)<=1000:=by omega
 have k2:(used:Int)<=(many:Int):=by omega
 rw[e];clear h e;go_enter Tryz.func247,Tryz.ntmps247;go_wp2;go_quiet (fail);go_wp2;go_ret;exact⟨rfl,_,rfl⟩
theorem zKr (w:World) (h:AddI w B lb db S fr many first used sb cap secs s):
  Calls p_ 286 #[.agg #[.pointer (some ⟨lb,0,none⟩),.slice (some ⟨sb,0,none⟩) secs.length cap]] w fun e w'=>e=.returned (errV (runD (if secs.length=many-used then [] else [some (fr+used+secs.length,bF)]) s).1)/\ActD w w' B db S (runD (if secs.length=many-used then [] else [some (fr+used+secs.length,bF)]) s).2:=by
 obtain⟨h2,hst,hnw⟩:=h.box;have hmany:=h.dk.many;have hfit:=h.fit;have a0:(w.alloc (o_ #[.pointer (some ⟨lb,0,none⟩),.slice (some ⟨sb,0,none⟩) secs.length cap] 327)).cell? ⟨w.heap.size,0,none⟩=some (.pointer (some ⟨lb,0,none⟩)):=aC _ _ _ 0;have a1:(w.alloc (o_ #[.pointer (some ⟨lb,0,none⟩),.slice (some ⟨sb,0,none⟩) secs.length cap] 327)).cell? ⟨w.heap.size,1,none⟩=some (.slice (some ⟨sb,0,none⟩) secs.length cap):=aC _ _ _ 1;have HST:=hide hst;have H2:=hide h2;clear h h2 hst hnw;generalize hW:w.alloc (o_ #[.pointer (some ⟨lb,0,none⟩),.slice (some ⟨sb,0,none⟩) secs.length cap] 327)=W at *;have HRM:=hide (fun n=>(vB (W.drewN n) (H2.out.hd.kept rfl) (by omega) (by omega)));by_cases hr:secs.length=many-used
 ·rw[if_pos hr];have hr':((secs.length:Int)==((many-used:Nat):Int))=true:=by rw[hr];simp
  have HR:=hide hr;clear hr hmany hfit;generalize many-used=room at *;go_enter Tryz.func286,Tryz.ntmps286;go_wp2;go_quiet ((go_at_call 247;exact Calls.quiet_of (HRM.out _)))
  go_wp2;go_ret;exact⟨rfl,ActD.after HST.out (H2.out.dk.stay (below_drewN (r_ _ _) _))⟩
 ·rw[if_neg hr,jC];have hr':((secs.length:Int)==((many-used:Nat):Int))=false:=by simp;omega
  have HW:=hide (fun n=>pD secs.length bF _ (H2.out.on (below_drewN (r_ _ W) n)) (by omega));unfold bF at *;generalize opF (some (fr+used+secs.length,⟨#[]⟩)) s=ff at *;generalize opD (some (fr+used+secs.length,⟨#[]⟩)) s=s2 at *;clear hr hmany hfit;generalize many-used=room at *;go_enter Tryz.func286,Tryz.ntmps286;go_wp2;go_quiet ((go_at_call 247;exact Calls.quiet_of (HRM.out _)))
  go_wp2_with (go_at_call 316;refine(HW.out _).mono ?_;rintro e w7 ⟨rfl,ha7⟩;have HA7:=hide ha7;clear ha7)
  go_ret;exact⟨rfl,ActD.after HST.out (ActD.after (.on H2.out.dk.lo (below_drewN (r_ _ W) _)) HA7.out)⟩
theorem zH0 {a i:Nat} {secs:List ByteArray} (hi:i<secs.length):aL (a+i) (secs.drop i)=some (a+i,secs[i])::aL (a+(i+1)) (secs.drop (i+1)):=by
 rw[List.drop_eq_getElem_cons hi];rfl
theorem zIi (a:Nat) (secs:List ByteArray):aL (a+1) secs.tail=aL (a+1) (secs.drop 1):=by rw[List.drop_one]
theorem zHW (w:World) (h:AddI w B lb db S fr many first used sb cap secs s):
  Calls p_ 285 #[.agg #[.pointer (some ⟨lb,0,none⟩),.slice (some ⟨sb,0,none⟩) secs.length cap]] w fun e w'=>e=.returned (errV (runD (aL (fr+used+1) secs.tail) s).1)/\ActD w w' B db S (runD (aL (fr+used+1) secs.tail) s).2:=by
 obtain⟨h2,hst,hnw⟩:=h.box;have hmany:=h.dk.many;have hfit:=h.fit;have hpos:=h.pos;have a0:(w.alloc (o_ #[.pointer (some ⟨lb,0,none⟩),.slice (some ⟨sb,0,none⟩) secs.length cap] 327)).cell? ⟨w.heap.size,0,none⟩=some (.pointer (some ⟨lb,0,none⟩)):=aC _ _ _ 0;have a1:(w.alloc (o_ #[.pointer (some ⟨lb,0,none⟩),.slice (some ⟨sb,0,none⟩) secs.length cap] 327)).cell? ⟨w.heap.size,1,none⟩=some (.slice (some ⟨sb,0,none⟩) secs.length cap):=aC _ _ _ 1;have HA0:=hide a0;have HA1:=hide a1;have HXL:Hid (w.heap.size<(w.alloc (o_ #[.pointer (some ⟨lb,0,none⟩),.slice (some ⟨sb,0,none⟩) secs.length cap] 327)).heap.size):=hide (by simp);have HST:=hide hst;have HNW:=hide hnw;have H2:=hide h2;clear h h2 hst hnw a0 a1;generalize hW:w.alloc (o_ #[.pointer (some ⟨lb,0,none⟩),.slice (some ⟨sb,0,none⟩) secs.length cap] 327)=W at *;rw[zIi];generalize hres:runD (aL (fr+used+1) (secs.drop 1)) s=res;have HRES:=hide hres;clear hres;go_enter Tryz.func285,Tryz.ntmps285;go_wp2
 go_loopw [3] (fun iv wr=>∃ (i:Nat) (S':Nat->Prop) (s':DSt),1<=i/\i<=secs.length/\iv=.int .i64 (i:Int)/\AddI wr B lb db S' fr many first used sb cap secs s'/\aG W wr B S S'/\runD (aL (fr+used+i) (secs.drop i)) s'=res) (fun iv _=>secs.length-(intOf iv).toNat)
 case atStart=>exact⟨1,S,s,n_ _,hpos,rfl,H2.out,.refl H2.out.dk.lo,HRES.out⟩
 case round=>
  obtain⟨i,S',s',hi1,hi,rfl,hA,hV,hr⟩:=hrel;have fW:=hV.far w.heap.size HXL.out HNW.out;have a0:=(b_ (a:=⟨w.heap.size,0,none⟩) fW.1).trans HA0.out;have a1:=(b_ (a:=⟨w.heap.size,1,none⟩) fW.1).trans HA1.out;have HNW2:=hide fW.2;clear fW;by_cases hlt:i<secs.length
  ·have hlt':(i:Int)<(secs.length:Int):=by omega
   have hi0:(0:Int)<=(i:Int):=by omega
   rw[zH0 hlt] at hr;have c0:=hA.ce i hlt;generalize secs[i]=t at *;have HW:=hide (pD i t _ (hA.on (r_ _ wr).drew) (by omega));have H3:=hide hA;have HV:=hide hV;have HR:=hide hr;have HLN:=hide (zAj (some (fr+used+i,t)) s');clear hA hV hr;by_cases hf:opF (some (fr+used+i,t)) s'=0
   ·rw[hf,aR] at HW;have HR2:Hid (runD (aL (fr+used+(i+1)) (secs.drop (i+1))) (opD (some (fr+used+i,t)) s')=res):=by
     have:=HR.out;unfold runD at this;rw[if_pos hf] at this;exact this
    clear hf HR;generalize opD (some (fr+used+i,t)) s'=s2 at *;go_wp2
    go_region_held3 (fun w'=>w'.cell? ⟨w.heap.size,0,none⟩=some (.pointer (some ⟨lb,0,none⟩))/\w'.cell? ⟨w.heap.size,1,none⟩=some (.slice (some ⟨sb,0,none⟩) secs.length cap)/\w'.cell? ⟨sb,i,none⟩=some (.string t)) (first|exact⟨a0,a1,c0⟩|exact HS3.out)
     ((go_at_call 316;refine HW.out.mono ?_;rintro e w7 ⟨rfl,ha7⟩;obtain⟨S7,hk7,hs7⟩:=ha7;have f1:=(hs7.far sb H3.out.lt H3.out.ns).1;have f2:=(hs7.far w.heap.size (World.block_lt_of_cell? _ _ a0) HNW2.out).1;have HS3:Hid (w7.cell? ⟨w.heap.size,0,none⟩=some (.pointer (some ⟨lb,0,none⟩))/\w7.cell? ⟨w.heap.size,1,none⟩=some (.slice (some ⟨sb,0,none⟩) secs.length cap)/\w7.cell? ⟨sb,i,none⟩=some (.string t)):=⟨(b_ (a:=⟨w.heap.size,0,none⟩) f2).trans a0,(b_ (a:=⟨w.heap.size,1,none⟩) f2).trans a1,(b_ (a:=⟨sb,i,none⟩) f1).trans c0⟩;have HA7:Hid (ActD wr.drew w7 B db S' s2):=⟨S7,hk7,hs7⟩;clear hk7 hs7 f1 f2))
    go_wp2;obtain⟨S8,hk8,hs8⟩:=HA7.out;have hst8:aG wr w7 B S' S8:=(aG.on H3.out.dk.lo (r_ _ wr).drew).trans hs8;exact⟨⟨i+1,S8,s2,by omega,by omega,by go_num,H3.out.step hk8 hst8 HLN.out,HV.out.trans hst8,HR2.out⟩,by simp[intOf];omega⟩
   ·rw[aP hf] at HW;have HR2:Hid ((opF (some (fr+used+i,t)) s',opD (some (fr+used+i,t)) s')=res):=by
     have:=HR.out;unfold runD at this;rw[if_neg hf] at this;exact this
    have HF:=hide hf;clear hf HR;generalize opD (some (fr+used+i,t)) s'=s2 at *;generalize opF (some (fr+used+i,t)) s'=ff at *;go_wp2
    go_region_held3 (fun w'=>w'.cell? ⟨w.heap.size,0,none⟩=some (.pointer (some ⟨lb,0,none⟩))/\w'.cell? ⟨w.heap.size,1,none⟩=some (.slice (some ⟨sb,0,none⟩) secs.length cap)/\w'.cell? ⟨sb,i,none⟩=some (.string t)) (first|exact⟨a0,a1,c0⟩|exact HS3.out)
     ((go_at_call 316;refine HW.out.mono ?_;rintro e w7 ⟨rfl,ha7⟩;obtain⟨S7,hk7,hs7⟩:=ha7;have f1:=(hs7.far sb H3.out.lt H3.out.ns).1;have f2:=(hs7.far w.heap.size (World.block_lt_of_cell? _ _ a0) HNW2.out).1;have HS3:Hid (w7.cell? ⟨w.heap.size,0,none⟩=some (.pointer (some ⟨lb,0,none⟩))/\w7.cell? ⟨w.heap.size,1,none⟩=some (.slice (some ⟨sb,0,none⟩) secs.length cap)/\w7.cell? ⟨sb,i,none⟩=some (.string t)):=⟨(b_ (a:=⟨w.heap.size,0,none⟩) f2).trans a0,(b_ (a:=⟨w.heap.size,1,none⟩) f2).trans a1,(b_ (a:=⟨sb,i,none⟩) f1).trans c0⟩;have HA7:Hid (ActD wr.drew w7 B db S' s2):=⟨S7,hk7,hs7⟩;clear hk7 hs7 f1 f2))
    go_wp2;go_ret;rw[<-HR2.out];exact⟨by show _=Ending.returned (errV ff);rw[aP HF.out];rfl,ActD.after (HST.out.trans HV.out) (ActD.after (.on H3.out.dk.lo (r_ _ wr).drew) HA7.out)⟩
  ·have ei:i=secs.length:=by omega
   subst ei;have hlt':¬(secs.length:Int)<(secs.length:Int):=by omega
   rw[List.drop_eq_nil_of_le (n_ _)] at hr;have HR:Hid ((0,s')=res):=hr;have HV:=hide hV;have H3:=hide hA;clear hV hA hr;go_wp2;go_ret;rw[<-HR.out];exact⟨rfl,S',H3.out.dk,HST.out.trans HV.out⟩
end
section
variable {B db:Nat} {S:Nat->Prop} {s:DSt}
theorem zH8:∀ w,(zeroValue 196).run p_ w=.ok (.slice none 0 0) w:=by
  have h:(Tryz.prog.info? 196).bind (fun i=>i.zero)=some (.slice none 0 0):=by kernel_rfl
  intro w
  cases hi:Tryz.prog.info? 196 with
  | none=>rw[hi] at h;cases h
  | some i=>
    rw[hi] at h
    have hz:i.zero=some (.slice none 0 0):=h
    simp[zeroValue,typeInfo,hi,hz]
theorem zGG (n:Nat):(Builtin.zeroCells (Value.slice none 0 0).cells n).toList=List.replicate n (.slice none 0 0):=by
  have e:(Value.slice none 0 0).cells=#[.slice none 0 0]:=rfl
  rw[e]
  simp only[Builtin.zeroCells,Array.toList_map]
  apply List.ext_getElem
  · simp
  · intro i h1 h2
    simp[Nat.mod_one]
theorem zB {α:Type} (L cs:List α) (h:cs.length=L.length):splice L 0 cs=cs:=by
  unfold splice;rw[List.take_zero,List.nil_append,Nat.zero_add,h,List.drop_length,List.append_nil]
theorem DK.settled {w:World} {nb kb lb n:Nat} {lv:List Value} {loose:List (List Wr)} {L next:Int} (h1:DHd w db nb kb lb n next L s.down) (h2:DBy w B db nb kb lb n lv s.now s.kept loose) (hS:S=inD db nb kb lb lv) (h6:s.down=false->zC3 L s.left) (h7:B<=w.heap.size):
    ActD w ((w.setCells lb 0 (List.replicate n (.slice none 0 0))).setCell ⟨db,3,none⟩ (.int .i64 0)) B db S { s with wait:=[] }:=by
  have hlb:=h2.lo.2.2.2
  have hap:=h2.ap
  have hlt:db<w.heap.size:=h1.lt
  have k1:∀ k,k≠lb->(w.setCells lb 0 (List.replicate n (.slice none 0 0))).heap[k]?=w.heap[k]?:=fun k hk=>cA lb _ _ _ hk
  have hl1:(w.setCells lb 0 (List.replicate n (.slice none 0 0))).heap[lb]?=some (.cells (List.replicate n (.slice none 0 0)).toArray 196 (0,0)):=by
    rw[eY lb _ (0,0) _ 0 w lv h2.hl (by rw[List.length_replicate,h2.nl];omega),zB _ _ (by rw[List.length_replicate,h2.nl])]
  have hd1:DHd (w.setCells lb 0 (List.replicate n (.slice none 0 0))) db nb kb lb n next L s.down:=h1.kept (k1 db hap.2.2.1)
  have hb1:DBy (w.setCells lb 0 (List.replicate n (.slice none 0 0))) B db nb kb lb n (List.replicate n (.slice none 0 0)) s.now s.kept (List.replicate n []):=
    { hn:=(k1 nb hap.2.2.2.2.1).trans h2.hn
      hk:=(k1 kb hap.2.2.2.2.2).trans h2.hk
      hl:=hl1
      nn:=h2.nn,nk:=h2.nk,nl:=by simp,no:=by simp,sn:=h2.sn,sk:=h2.sk
      own:=fun i _ _=>by rw[List.getElem_replicate,List.getElem_replicate];exact⟨⟨rfl,.inl ⟨rfl,rfl⟩⟩,fun x hx=>(List.not_mem_nil hx).elim⟩
      dis:=fun i j _ _ k e=>by rw[List.getElem_replicate] at e;cases e
      apo:=fun i _ k e=>by rw[List.getElem_replicate] at e;cases e
      ap:=h2.ap,lo:=h2.lo,n1:=h2.n1 }
  refine⟨inD db nb kb lb (List.replicate n (.slice none 0 0)),⟨nb,kb,lb,n,_,_,L,hd1.next' 0,hb1.head _ _,rfl,jK.none n,fun x hx=>(List.not_mem_nil hx).elim,h6,?_⟩,⟨(dW hlb _ _ _ (r_ _ _)).setCell (p:=⟨db,3,none⟩) h2.lo.1 _,fun k hk hn=>⟨?_,?_⟩⟩⟩
  · have:=(dW (B:=B) (a:=w) hlb (List.replicate n (.slice none 0 0)) 0 w (r_ _ _)).size
    simp;omega
  · rw[hS] at hn
    rw[h_ _ _ _ _ (fun e=>hn (.inl e))]
    exact k1 k fun e=>hn (.inr (.inr (.inr (.inl e))))
  · rw[hS] at hn
    rintro(e|e|e|e|⟨i,hi,e⟩)
    · exact hn (.inl e)
    · exact hn (.inr (.inl e))
    · exact hn (.inr (.inr (.inl e)))
    · exact hn (.inr (.inr (.inr (.inl e))))
    · rw[List.getElem_replicate] at e;cases e
theorem zDW (w:World) (h:DK w B db S s):Calls p_ 122 #[.pointer (some ⟨db,0,none⟩)] w fun e w'=>e=.returned (.tuple #[])/\ActD w w' B db S { s with wait:=[] }:=by
  obtain⟨nb,kb,lb,n,lv,loose,L,h1,h2,hS,h4,h5,h6,h7⟩:=h
  have HE:=hide (DK.settled h1 h2 hS h6 h7)
  have hcl:=oJ (P:=p_) w 192 196 0 (.slice none 0 0) Tryz.underlying192 zH8 (fun v hv=>by have e:(Value.slice none 0 0).cells=#[.slice none 0 0]:=rfl;rw[e] at hv;simp at hv;rw[hv];rfl) lb 0 n n lv _ h2.hl (by show 0+n*1<=_;rw[h2.nl];omega)
  rw[zGG] at hcl
  have c2:=h1.c2
  have k1:(w.setCells lb 0 (List.replicate n (.slice none 0 0))).heap[db]?=w.heap[db]?:=cA lb _ _ _ h2.ap.2.2.1
  have c3:=(b_ (a:=⟨db,3,none⟩) k1).trans h1.c3
  have f3:=(World.frozen?_of_block (a:=⟨db,3,none⟩) k1).trans (h1.soft 3)
  have hn:=h2.n1
  have hn1:n≠0:=by omega
  clear h1 h2 h4 h5 h6 hS k1
  generalize List.replicate n (Value.slice none 0 0)=zs at *
  go_enter Tryz.func122,Tryz.ntmps122
  go_wp2
  go_end0
  exact⟨rfl,HE.out⟩
theorem DK.keep {w:World} {nb kb lb n:Nat} {lv:List Value} {loose:List (List Wr)} {L next:Int} (h1:DHd w db nb kb lb n next L s.down) (h2:DBy w B db nb kb lb n lv s.now s.kept loose) (l:List ByteArray) (hl:l.length=n) (hs:∀ x∈l,x.size=96):
    DHd (w.setCells kb 0 (l.flatMap secV)) db nb kb lb n next L s.down/\DBy (w.setCells kb 0 (l.flatMap secV)) B db nb kb lb n lv s.now l loose/\aG w (w.setCells kb 0 (l.flatMap secV)) B (inD db nb kb lb lv) (inD db nb kb lb lv):=by
  have hap:=h2.ap
  have hfl:(l.flatMap secV).length=n*96:=by rw[cC (z:=96) fun x hx=>(cM x).trans (hs x hx),hl]
  have hkl:(s.kept.flatMap secV).length=n*96:=by rw[cC (z:=96) fun x hx=>(cM x).trans (h2.sk x hx),h2.nk]
  have k1:∀ k,k≠kb->(w.setCells kb 0 (l.flatMap secV)).heap[k]?=w.heap[k]?:=fun k hk=>cA kb _ _ _ hk
  refine⟨h1.kept (k1 db hap.2.1),{ h2 with hn:=(k1 nb hap.2.2.2.1).trans h2.hn,hk:=?_,hl:=(k1 lb hap.2.2.2.2.2.symm).trans h2.hl,nk:=hl,sk:=hs,own:=fun i hi h'=>gD (h2.own i hi h') fun k e=>k1 k (h2.apo i hi k e).2.2.1 },⟨dW h2.lo.2.2.1 _ _ _ (r_ _ _),fun k _ hn=>⟨k1 k fun e=>hn (.inr (.inr (.inl e))),hn⟩⟩⟩
  rw[eY kb _ (0,0) _ 0 w _ h2.hk (by rw[hfl,hkl];omega),zB _ _ (by rw[hfl,hkl])]
theorem tC (w:World) (h:DK w B db S s):Calls p_ 182 #[.pointer (some ⟨db,0,none⟩)] w fun e w'=>e=.returned (errV (cD s))/\ActD w w' B db S (bZ s):=by
  have HS:=hide (zBt w h)
  unfold bZ
  have HN:Hid ((bR s).now=s.now):=by unfold bR;split;rfl;split<;>rfl
  clear h
  generalize bR s=s1 at *
  generalize cD s=f at *
  by_cases hf:f=0
  · subst hf
    rw[if_pos rfl,aR]
    rw[aR] at HS
    go_enter Tryz.func182,Tryz.ntmps182
    go_wp2_with (go_at_call 239;refine HS.out.mono ?_;rintro e w1 ⟨rfl,ha⟩;obtain⟨S1,hk1,hs1⟩:=ha)
    obtain⟨nb,kb,lb,n,lv,loose,L,h1,h2,hS,h4,h5,h6,h7⟩:=hk1
    have hcp:=uY (P:=p_) w1.drew 191 191 3 198 96 kb 0 n n n (.slice (some ⟨nb,0,none⟩) n n) (s1.kept.flatMap secV) 198 (s1.now.flatMap secV) Tryz.underlying191 nV (show w1.drew.heap[kb]?=_ from h2.hk) rfl
      (by
        have hl:=run_loadCells_list (P:=p_) w1.drew ⟨nb,0,none⟩ (s1.now.flatMap secV) (fun j v hv=>by
          rw[Go.Addr.add_mid,cell_of_row w1.drew nb (0+j) _ _ _ (show w1.drew.heap[nb]?=_ from h2.hn),List.getElem?_toArray,Nat.zero_add];exact hv)
        rw[cC (z:=96) fun x hx=>(cM x).trans (h2.sn x hx),h2.nn] at hl
        simp only[Builtin.firstCells,Nat.min_self]
        exact hl)
      (by rw[cC (z:=96) fun x hx=>(cM x).trans (h2.sn x hx),h2.nn,cC (z:=96) fun x hx=>(cM x).trans (h2.sk x hx),h2.nk];omega)
      (fun v hv=>by obtain⟨x,_,hx⟩:=List.mem_flatMap.1 hv;exact rV x v hx)
    have c0:=h1.c0
    have c1:=h1.c1
    have hd0:=(show w1.drew.heap[kb]?=_ from h2.hk)
    have HK:Hid (ActD w1 (w1.drew.setCells kb 0 (s1.now.flatMap secV)) B db S1 { s1 with kept:=s1.now }):=by
      obtain⟨k1,k2,k3⟩:=DK.keep (h1.kept (w':=w1.drew) rfl) (h2.kept (w':=w1.drew) fun _ _ _=>rfl) s1.now h2.nn h2.sn
      refine⟨S1,⟨nb,kb,lb,n,lv,loose,L,k1,k2,hS,h4,h5,h6,?_⟩,(aG.on h7 (r_ _ w1).drew).trans (by rw[hS];exact k3)⟩
      have:=k3.bel.size
      simp at this
      omega
    have k9:(w1.drew.setCells kb 0 (s1.now.flatMap secV)).heap[db]?=w1.heap[db]?:=cA kb _ _ w1.drew h2.ap.2.1
    have HC:Hid ((w1.drew.setCells kb 0 (s1.now.flatMap secV)).cell? ⟨db,0,none⟩=some (.slice (some ⟨nb,0,none⟩) n n)/\(w1.drew.setCells kb 0 (s1.now.flatMap secV)).cell? ⟨db,1,none⟩=some (.slice (some ⟨kb,0,none⟩) n n)):=⟨(b_ (a:=⟨db,0,none⟩) k9).trans c0,(b_ (a:=⟨db,1,none⟩) k9).trans c1⟩
    have hmn:Nat.min n n=n:=Nat.min_self n
    clear hd0 k9 h1 h2 h4 h5 h6 hS
    generalize s1.now.flatMap secV=cs at *
    go_region_held3 (fun w'=>w'.cell? ⟨db,0,none⟩=some (.slice (some ⟨nb,0,none⟩) n n)/\w'.cell? ⟨db,1,none⟩=some (.slice (some ⟨kb,0,none⟩) n n)) (first|go_keep|exact HC.out) (fail)
    obtain⟨S2,hk2,hs2⟩:=HK.out
    have HT:=hide (zDW _ hk2)
    have HS2:=hide (hs1.trans hs2)
    clear hk2 hs2 HK HC hcp
    go_wp2_with (go_at_call 122;refine HT.out.mono ?_;rintro e w3 ⟨rfl,ha⟩)
    go_ret
    rw[<-HN.out]
    exact⟨rfl,ActD.after HS2.out ha⟩
  · have hf':=aP hf
    rw[if_neg hf,hf']
    rw[hf'] at HS
    go_enter Tryz.func182,Tryz.ntmps182
    go_wp2_with (go_at_call 239;refine HS.out.mono ?_;rintro e w1 ⟨rfl,ha⟩)
    go_ret
    exact⟨rfl,ha⟩
end
section
variable {w w':World} {B lb db:Nat} {S:Nat->Prop} {fr many first used sb cap:Nat} {secs:List ByteArray} {s s':DSt}
theorem rU (w:World) (h:AddI w B lb db S fr many first used sb cap secs s):Calls p_ 182 #[.pointer (some ⟨db,0,none⟩)] w fun e w'=>e=.returned (errV (runD [none] s).1)/\ActD w w' B db S (runD [none] s).2:=by
 rw[jC];exact tC w h.dk
theorem zLu (w:World) (h:AddI w B lb db S fr many first used sb cap secs s):
  Calls p_ 249 #[.agg #[.pointer (some ⟨lb,0,none⟩),.slice (some ⟨sb,0,none⟩) secs.length cap]] w fun e w'=>e=.returned (errV (runD (iP (fr+used) secs (many-used)) s).1)/\ActD w w' B db S (runD (iP (fr+used) secs (many-used)) s).2:=by
 obtain⟨h2,hst,hnw⟩:=h.box;have hmany:=h.dk.many;have hfit:=h.fit;have hpos:=h.pos;have a0:(w.alloc (o_ #[.pointer (some ⟨lb,0,none⟩),.slice (some ⟨sb,0,none⟩) secs.length cap] 327)).cell? ⟨w.heap.size,0,none⟩=some (.pointer (some ⟨lb,0,none⟩)):=aC _ _ _ 0;have a1:(w.alloc (o_ #[.pointer (some ⟨lb,0,none⟩),.slice (some ⟨sb,0,none⟩) secs.length cap] 327)).cell? ⟨w.heap.size,1,none⟩=some (.slice (some ⟨sb,0,none⟩) secs.length cap):=aC _ _ _ 1;have c0:=h2.hd.c0;have HST:=hide hst;have HNW:=hide hnw;have H2:=hide h2;clear h h2 hst hnw;generalize hW:w.alloc (o_ #[.pointer (some ⟨lb,0,none⟩),.slice (some ⟨sb,0,none⟩) secs.length cap] 327)=W at *;have HF:Hid (∀ i (hi:i<7),(W.alloc (o_ #[Value.func (Fn.func 284) #[Value.agg #[.pointer (some ⟨lb,0,none⟩),.slice (some ⟨sb,0,none⟩) secs.length cap]] #[],Value.func (Fn.func 182) #[Value.pointer (some ⟨db,0,none⟩)] #[],Value.func (Fn.func 285) #[Value.agg #[.pointer (some ⟨lb,0,none⟩),.slice (some ⟨sb,0,none⟩) secs.length cap]] #[],Value.func (Fn.func 286) #[Value.agg #[.pointer (some ⟨lb,0,none⟩),.slice (some ⟨sb,0,none⟩) secs.length cap]] #[],Value.func (Fn.func 182) #[Value.pointer (some ⟨db,0,none⟩)] #[],Value.func (Fn.func 287) #[Value.agg #[.pointer (some ⟨lb,0,none⟩),.slice (some ⟨sb,0,none⟩) secs.length cap]] #[],Value.func (Fn.func 182) #[Value.pointer (some ⟨db,0,none⟩)] #[]] 56)).cell? ⟨W.heap.size,i,none⟩=some ((#[Value.func (Fn.func 284) #[Value.agg #[.pointer (some ⟨lb,0,none⟩),.slice (some ⟨sb,0,none⟩) secs.length cap]] #[],Value.func (Fn.func 182) #[Value.pointer (some ⟨db,0,none⟩)] #[],Value.func (Fn.func 285) #[Value.agg #[.pointer (some ⟨lb,0,none⟩),.slice (some ⟨sb,0,none⟩) secs.length cap]] #[],Value.func (Fn.func 286) #[Value.agg #[.pointer (some ⟨lb,0,none⟩),.slice (some ⟨sb,0,none⟩) secs.length cap]] #[],Value.func (Fn.func 182) #[Value.pointer (some ⟨db,0,none⟩)] #[],Value.func (Fn.func 287) #[Value.agg #[.pointer (some ⟨lb,0,none⟩),.slice (some ⟨sb,0,none⟩) secs.length cap]] #[],Value.func (Fn.func 182) #[Value.pointer (some ⟨db,0,none⟩)] #[]]:Array Value)[i]'hi)):=fun i hi=>by
  rw[aC];exact Array.getElem?_eq_getElem hi
 have HWB:=hide (a_ W (o_ #[Value.func (Fn.func 284) #[Value.agg #[.pointer (some ⟨lb,0,none⟩),.slice (some ⟨sb,0,none⟩) secs.length cap]] #[],Value.func (Fn.func 182) #[Value.pointer (some ⟨db,0,none⟩)] #[],Value.func (Fn.func 285) #[Value.agg #[.pointer (some ⟨lb,0,none⟩),.slice (some ⟨sb,0,none⟩) secs.length cap]] #[],Value.func (Fn.func 286) #[Value.agg #[.pointer (some ⟨lb,0,none⟩),.slice (some ⟨sb,0,none⟩) secs.length cap]] #[],Value.func (Fn.func 182) #[Value.pointer (some ⟨db,0,none⟩)] #[],Value.func (Fn.func 287) #[Value.agg #[.pointer (some ⟨lb,0,none⟩),.slice (some ⟨sb,0,none⟩) secs.length cap]] #[],Value.func (Fn.func 182) #[Value.pointer (some ⟨db,0,none⟩)] #[]] 56));have HFN:Hid (¬S W.heap.size):=fun e=>by have:=H2.out.dk.lt e;omega
 have HFL:Hid (W.heap.size<(W.alloc (o_ #[Value.func (Fn.func 284) #[Value.agg #[.pointer (some ⟨lb,0,none⟩),.slice (some ⟨sb,0,none⟩) secs.length cap]] #[],Value.func (Fn.func 182) #[Value.pointer (some ⟨db,0,none⟩)] #[],Value.func (Fn.func 285) #[Value.agg #[.pointer (some ⟨lb,0,none⟩),.slice (some ⟨sb,0,none⟩) secs.length cap]] #[],Value.func (Fn.func 286) #[Value.agg #[.pointer (some ⟨lb,0,none⟩),.slice (some ⟨sb,0,none⟩) secs.length cap]] #[],Value.func (Fn.func 182) #[Value.pointer (some ⟨db,0,none⟩)] #[],Value.func (Fn.func 287) #[Value.agg #[.pointer (some ⟨lb,0,none⟩),.slice (some ⟨sb,0,none⟩) secs.length cap]] #[],Value.func (Fn.func 182) #[Value.pointer (some ⟨db,0,none⟩)] #[]] 56)).heap.size):=hide (by simp);have HRES0:Hid (∃ res,runD (iP (fr+used) secs (many-used)) s=res):=⟨_,rfl⟩;obtain⟨res,hres⟩:=HRES0.out;rw[hres];have HRES:=hide hres;clear hres HRES0;have HSS:Hid (aG w (W.alloc (o_ #[Value.func (Fn.func 284) #[Value.agg #[.pointer (some ⟨lb,0,none⟩),.slice (some ⟨sb,0,none⟩) secs.length cap]] #[],Value.func (Fn.func 182) #[Value.pointer (some ⟨db,0,none⟩)] #[],Value.func (Fn.func 285) #[Value.agg #[.pointer (some ⟨lb,0,none⟩),.slice (some ⟨sb,0,none⟩) secs.length cap]] #[],Value.func (Fn.func 286) #[Value.agg #[.pointer (some ⟨lb,0,none⟩),.slice (some ⟨sb,0,none⟩) secs.length cap]] #[],Value.func (Fn.func 182) #[Value.pointer (some ⟨db,0,none⟩)] #[],Value.func (Fn.func 287) #[Value.agg #[.pointer (some ⟨lb,0,none⟩),.slice (some ⟨sb,0,none⟩) secs.length cap]] #[],Value.func (Fn.func 182) #[Value.pointer (some ⟨db,0,none⟩)] #[]] 56)) B S S):=HST.out.trans (.on H2.out.dk.lo HWB.out);have H3:=hide (H2.out.on HWB.out);generalize hfb:W.heap.size=fb at *;have HFB:=hide hfb;go_enter Tryz.func249,Tryz.ntmps249;go_wp2;generalize (W.alloc (o_ #[Value.func (Fn.func 284) #[Value.agg #[.pointer (some ⟨lb,0,none⟩),.slice (some ⟨sb,0,none⟩) secs.length cap]] #[],Value.func (Fn.func 182) #[Value.pointer (some ⟨db,0,none⟩)] #[],Value.func (Fn.func 285) #[Value.agg #[.pointer (some ⟨lb,0,none⟩),.slice (some ⟨sb,0,none⟩) secs.length cap]] #[],Value.func (Fn.func 286) #[Value.agg #[.pointer (some ⟨lb,0,none⟩),.slice (some ⟨sb,0,none⟩) secs.length cap]] #[],Value.func (Fn.func 182) #[Value.pointer (some ⟨db,0,none⟩)] #[],Value.func (Fn.func 287) #[Value.agg #[.pointer (some ⟨lb,0,none⟩),.slice (some ⟨sb,0,none⟩) secs.length cap]] #[],Value.func (Fn.func 182) #[Value.pointer (some ⟨db,0,none⟩)] #[]] 56))=W2 at *;clear hfb
 go_loopw [26] (fun iv wr=>∃ (i:Nat) (S':Nat->Prop) (s':DSt),i<=7/\iv=.int .i64 (i:Int)/\AddI wr B lb db S' fr many first used sb cap secs s'/\aG W2 wr B S S'/\runD ((dR (fr+used) secs (many-used)).drop i).flatten s'=res) (fun iv _=>7-(intOf iv).toNat)
 case atStart=>exact⟨0,S,s,Nat.zero_le _,rfl,H3.out,.refl H3.out.dk.lo,HRES.out⟩
 case round=>
  obtain⟨i,S',s',hi,rfl,hA,hV,hr⟩:=hrel;have fW:=hV.far fb HFL.out HFN.out;have HA:=hide hA;have HV:=hide hV;have HR:=hide hr;clear hA hV hr;by_cases hlt:i<7
  ·have ca:=(b_ (a:=⟨fb,i,none⟩) fW.1).trans (HF.out i hlt);clear fW;rcases(show i=0∨i=1∨i=2∨i=3∨i=4∨i=5∨i=6 by omega) with rfl|rfl|rfl|rfl|rfl|rfl|rfl
   ·have hR2:=HR.out;have eS:((dR (fr+used) secs (many-used)).drop 0).flatten=[some (fr+used,bF)]++((dR (fr+used) secs (many-used)).drop 1).flatten:=rfl;rw[eS] at hR2;have HC:Hid (Calls p_ 284 #[.agg #[.pointer (some ⟨lb,0,none⟩),.slice (some ⟨sb,0,none⟩) secs.length cap]] wr fun e w'=>e=.returned (errV (runD ([some (fr+used,bF)]) s').1)/\ActD wr w' B db S' (runD ([some (fr+used,bF)]) s').2):=(by have h:=HA.out;exact zKH _ h);have HLN:=hide (fS ([some (fr+used,bF)]) s');have ca':wr.cell? ⟨fb,0,none⟩=some (Value.func (Fn.func 284) #[Value.agg #[.pointer (some ⟨lb,0,none⟩),.slice (some ⟨sb,0,none⟩) secs.length cap]] #[]):=ca;clear ca eS;by_cases hf:(runD ([some (fr+used,bF)]) s').1=0
    ·have HR3:=hide (hR2.symm.trans (kF hf)).symm;rw[hf,aR] at HC;clear hf hR2 HR;generalize (runD ([some (fr+used,bF)]) s').2=s2 at *;go_wp2_with (go_at_call 284;refine HC.out.mono ?_;rintro e w7 ⟨rfl,ha7⟩;have HA7:=hide ha7;clear ha7)
     obtain⟨S8,hk8,hs8⟩:=HA7.out;exact⟨⟨1,S8,s2,by omega,rfl,HA.out.step hk8 hs8 HLN.out,HV.out.trans hs8,HR3.out⟩,by simp[intOf]⟩
    ·have HR3:=hide (hR2.symm.trans (kC hf)).symm;rw[aP hf] at HC;have HFF:=hide hf;clear hf hR2 HR;generalize runD ([some (fr+used,bF)]) s'=r2 at *;go_wp2_with (go_at_call 284;refine HC.out.mono ?_;rintro e w7 ⟨rfl,ha7⟩;have HA7:=hide ha7;clear ha7)
     go_ret;rw[<-HR3.out];exact⟨by show _=Ending.returned (errV r2.1);rw[aP HFF.out];rfl,ActD.after HSS.out (ActD.after HV.out HA7.out)⟩
   ·have hR2:=HR.out;have eS:((dR (fr+used) secs (many-used)).drop 1).flatten=[none]++((dR (fr+used) secs (many-used)).drop 2).flatten:=rfl;rw[eS] at hR2;have HC:Hid (Calls p_ 182 #[.pointer (some ⟨db,0,none⟩)] wr fun e w'=>e=.returned (errV (runD ([none]) s').1)/\ActD wr w' B db S' (runD ([none]) s').2):=(by have h:=HA.out;exact rU _ h);have HLN:=hide (fS ([none]) s');have ca':wr.cell? ⟨fb,1,none⟩=some (Value.func (Fn.func 182) #[Value.pointer (some ⟨db,0,none⟩)] #[]):=ca;clear ca eS;by_cases hf:(runD ([none]) s').1=0
    ·have HR3:=hide (hR2.symm.trans (kF hf)).symm;rw[hf,aR] at HC;clear hf hR2 HR;generalize (runD ([none]) s').2=s2 at *;go_wp2_with (go_at_call 182;refine HC.out.mono ?_;rintro e w7 ⟨rfl,ha7⟩;have HA7:=hide ha7;clear ha7)
     obtain⟨S8,hk8,hs8⟩:=HA7.out;exact⟨⟨2,S8,s2,by omega,rfl,HA.out.step hk8 hs8 HLN.out,HV.out.trans hs8,HR3.out⟩,by simp[intOf]⟩
    ·have HR3:=hide (hR2.symm.trans (kC hf)).symm;rw[aP hf] at HC;have HFF:=hide hf;clear hf hR2 HR;generalize runD ([none]) s'=r2 at *;go_wp2_with (go_at_call 182;refine HC.out.mono ?_;rintro e w7 ⟨rfl,ha7⟩;have HA7:=hide ha7;clear ha7)
     go_ret;rw[<-HR3.out];exact⟨by show _=Ending.returned (errV r2.1);rw[aP HFF.out];rfl,ActD.after HSS.out (ActD.after HV.out HA7.out)⟩
   ·have hR2:=HR.out;have eS:((dR (fr+used) secs (many-used)).drop 2).flatten=aL (fr+used+1) secs.tail++((dR (fr+used) secs (many-used)).drop 3).flatten:=rfl;rw[eS] at hR2;have HC:Hid (Calls p_ 285 #[.agg #[.pointer (some ⟨lb,0,none⟩),.slice (some ⟨sb,0,none⟩) secs.length cap]] wr fun e w'=>e=.returned (errV (runD (aL (fr+used+1) secs.tail) s').1)/\ActD wr w' B db S' (runD (aL (fr+used+1) secs.tail) s').2):=(by have h:=HA.out;exact zHW _ h);have HLN:=hide (fS (aL (fr+used+1) secs.tail) s');have ca':wr.cell? ⟨fb,2,none⟩=some (Value.func (Fn.func 285) #[Value.agg #[.pointer (some ⟨lb,0,none⟩),.slice (some ⟨sb,0,none⟩) secs.length cap]] #[]):=ca;clear ca eS;by_cases hf:(runD (aL (fr+used+1) secs.tail) s').1=0
    ·have HR3:=hide (hR2.symm.trans (kF hf)).symm;rw[hf,aR] at HC;clear hf hR2 HR;generalize (runD (aL (fr+used+1) secs.tail) s').2=s2 at *;go_wp2_with (go_at_call 285;refine HC.out.mono ?_;rintro e w7 ⟨rfl,ha7⟩;have HA7:=hide ha7;clear ha7)
     obtain⟨S8,hk8,hs8⟩:=HA7.out;exact⟨⟨3,S8,s2,by omega,rfl,HA.out.step hk8 hs8 HLN.out,HV.out.trans hs8,HR3.out⟩,by simp[intOf]⟩
    ·have HR3:=hide (hR2.symm.trans (kC hf)).symm;rw[aP hf] at HC;have HFF:=hide hf;clear hf hR2 HR;generalize runD (aL (fr+used+1) secs.tail) s'=r2 at *;go_wp2_with (go_at_call 285;refine HC.out.mono ?_;rintro e w7 ⟨rfl,ha7⟩;have HA7:=hide ha7;clear ha7)
     go_ret;rw[<-HR3.out];exact⟨by show _=Ending.returned (errV r2.1);rw[aP HFF.out];rfl,ActD.after HSS.out (ActD.after HV.out HA7.out)⟩
   ·have hR2:=HR.out;have eS:((dR (fr+used) secs (many-used)).drop 3).flatten=(if secs.length=many-used then [] else [some (fr+used+secs.length,bF)])++((dR (fr+used) secs (many-used)).drop 4).flatten:=rfl;rw[eS] at hR2;have HC:Hid (Calls p_ 286 #[.agg #[.pointer (some ⟨lb,0,none⟩),.slice (some ⟨sb,0,none⟩) secs.length cap]] wr fun e w'=>e=.returned (errV (runD ((if secs.length=many-used then [] else [some (fr+used+secs.length,bF)])) s').1)/\ActD wr w' B db S' (runD ((if secs.length=many-used then [] else [some (fr+used+secs.length,bF)])) s').2):=(by have h:=HA.out;exact zKr _ h);have HLN:=hide (fS ((if secs.length=many-used then [] else [some (fr+used+secs.length,bF)])) s');have ca':wr.cell? ⟨fb,3,none⟩=some (Value.func (Fn.func 286) #[Value.agg #[.pointer (some ⟨lb,0,none⟩),.slice (some ⟨sb,0,none⟩) secs.length cap]] #[]):=ca;clear ca eS;by_cases hf:(runD ((if secs.length=many-used then [] else [some (fr+used+secs.length,bF)])) s').1=0
    ·have HR3:=hide (hR2.symm.trans (kF hf)).symm;rw[hf,aR] at HC;clear hf hR2 HR;generalize (runD ((if secs.length=many-used then [] else [some (fr+used+secs.length,bF)])) s').2=s2 at *;go_wp2_with (go_at_call 286;refine HC.out.mono ?_;rintro e w7 ⟨rfl,ha7⟩;have HA7:=hide ha7;clear ha7)
     obtain⟨S8,hk8,hs8⟩:=HA7.out;exact⟨⟨4,S8,s2,by omega,rfl,HA.out.step hk8 hs8 HLN.out,HV.out.trans hs8,HR3.out⟩,by simp[intOf]⟩
    ·have HR3:=hide (hR2.symm.trans (kC hf)).symm;rw[aP hf] at HC;have HFF:=hide hf;clear hf hR2 HR;generalize runD ((if secs.length=many-used then [] else [some (fr+used+secs.length,bF)])) s'=r2 at *;go_wp2_with (go_at_call 286;refine HC.out.mono ?_;rintro e w7 ⟨rfl,ha7⟩;have HA7:=hide ha7;clear ha7)
     go_ret;rw[<-HR3.out];exact⟨by show _=Ending.returned (errV r2.1);rw[aP HFF.out];rfl,ActD.after HSS.out (ActD.after HV.out HA7.out)⟩
   ·have hR2:=HR.out;have eS:((dR (fr+used) secs (many-used)).drop 4).flatten=[none]++((dR (fr+used) secs (many-used)).drop 5).flatten:=rfl;rw[eS] at hR2;have HC:Hid (Calls p_ 182 #[.pointer (some ⟨db,0,none⟩)] wr fun e w'=>e=.returned (errV (runD ([none]) s').1)/\ActD wr w' B db S' (runD ([none]) s').2):=(by have h:=HA.out;exact rU _ h);have HLN:=hide (fS ([none]) s');have ca':wr.cell? ⟨fb,4,none⟩=some (Value.func (Fn.func 182) #[Value.pointer (some ⟨db,0,none⟩)] #[]):=ca;clear ca eS;by_cases hf:(runD ([none]) s').1=0
    ·have HR3:=hide (hR2.symm.trans (kF hf)).symm;rw[hf,aR] at HC;clear hf hR2 HR;generalize (runD ([none]) s').2=s2 at *;go_wp2_with (go_at_call 182;refine HC.out.mono ?_;rintro e w7 ⟨rfl,ha7⟩;have HA7:=hide ha7;clear ha7)
     obtain⟨S8,hk8,hs8⟩:=HA7.out;exact⟨⟨5,S8,s2,by omega,rfl,HA.out.step hk8 hs8 HLN.out,HV.out.trans hs8,HR3.out⟩,by simp[intOf]⟩
    ·have HR3:=hide (hR2.symm.trans (kC hf)).symm;rw[aP hf] at HC;have HFF:=hide hf;clear hf hR2 HR;generalize runD ([none]) s'=r2 at *;go_wp2_with (go_at_call 182;refine HC.out.mono ?_;rintro e w7 ⟨rfl,ha7⟩;have HA7:=hide ha7;clear ha7)
     go_ret;rw[<-HR3.out];exact⟨by show _=Ending.returned (errV r2.1);rw[aP HFF.out];rfl,ActD.after HSS.out (ActD.after HV.out HA7.out)⟩
   ·have hR2:=HR.out;have eS:((dR (fr+used) secs (many-used)).drop 5).flatten=[some (fr+used,secs.headD bF)]++((dR (fr+used) secs (many-used)).drop 6).flatten:=rfl;rw[eS] at hR2;have HC:Hid (Calls p_ 287 #[.agg #[.pointer (some ⟨lb,0,none⟩),.slice (some ⟨sb,0,none⟩) secs.length cap]] wr fun e w'=>e=.returned (errV (runD ([some (fr+used,secs.headD bF)]) s').1)/\ActD wr w' B db S' (runD ([some (fr+used,secs.headD bF)]) s').2):=(by have h:=HA.out;exact zHd _ h);have HLN:=hide (fS ([some (fr+used,secs.headD bF)]) s');have ca':wr.cell? ⟨fb,5,none⟩=some (Value.func (Fn.func 287) #[Value.agg #[.pointer (some ⟨lb,0,none⟩),.slice (some ⟨sb,0,none⟩) secs.length cap]] #[]):=ca;clear ca eS;by_cases hf:(runD ([some (fr+used,secs.headD bF)]) s').1=0
    ·have HR3:=hide (hR2.symm.trans (kF hf)).symm;rw[hf,aR] at HC;clear hf hR2 HR;generalize (runD ([some (fr+used,secs.headD bF)]) s').2=s2 at *;go_wp2_with (go_at_call 287;refine HC.out.mono ?_;rintro e w7 ⟨rfl,ha7⟩;have HA7:=hide ha7;clear ha7)
     obtain⟨S8,hk8,hs8⟩:=HA7.out;exact⟨⟨6,S8,s2,by omega,rfl,HA.out.step hk8 hs8 HLN.out,HV.out.trans hs8,HR3.out⟩,by simp[intOf]⟩
    ·have HR3:=hide (hR2.symm.trans (kC hf)).symm;rw[aP hf] at HC;have HFF:=hide hf;clear hf hR2 HR;generalize runD ([some (fr+used,secs.headD bF)]) s'=r2 at *;go_wp2_with (go_at_call 287;refine HC.out.mono ?_;rintro e w7 ⟨rfl,ha7⟩;have HA7:=hide ha7;clear ha7)
     go_ret;rw[<-HR3.out];exact⟨by show _=Ending.returned (errV r2.1);rw[aP HFF.out];rfl,ActD.after HSS.out (ActD.after HV.out HA7.out)⟩
   ·have hR2:=HR.out;have eS:((dR (fr+used) secs (many-used)).drop 6).flatten=[none]++((dR (fr+used) secs (many-used)).drop 7).flatten:=rfl;rw[eS] at hR2;have HC:Hid (Calls p_ 182 #[.pointer (some ⟨db,0,none⟩)] wr fun e w'=>e=.returned (errV (runD ([none]) s').1)/\ActD wr w' B db S' (runD ([none]) s').2):=(by have h:=HA.out;exact rU _ h);have HLN:=hide (fS ([none]) s');have ca':wr.cell? ⟨fb,6,none⟩=some (Value.func (Fn.func 182) #[Value.pointer (some ⟨db,0,none⟩)] #[]):=ca;clear ca eS;by_cases hf:(runD ([none]) s').1=0
    ·have HR3:=hide (hR2.symm.trans (kF hf)).symm;rw[hf,aR] at HC;clear hf hR2 HR;generalize (runD ([none]) s').2=s2 at *;go_wp2_with (go_at_call 182;refine HC.out.mono ?_;rintro e w7 ⟨rfl,ha7⟩;have HA7:=hide ha7;clear ha7)
     obtain⟨S8,hk8,hs8⟩:=HA7.out;exact⟨⟨7,S8,s2,by omega,rfl,HA.out.step hk8 hs8 HLN.out,HV.out.trans hs8,HR3.out⟩,by simp[intOf]⟩
    ·have HR3:=hide (hR2.symm.trans (kC hf)).symm;rw[aP hf] at HC;have HFF:=hide hf;clear hf hR2 HR;generalize runD ([none]) s'=r2 at *;go_wp2_with (go_at_call 182;refine HC.out.mono ?_;rintro e w7 ⟨rfl,ha7⟩;have HA7:=hide ha7;clear ha7)
     go_ret;rw[<-HR3.out];exact⟨by show _=Ending.returned (errV r2.1);rw[aP HFF.out];rfl,ActD.after HSS.out (ActD.after HV.out HA7.out)⟩
  ·have ei:i=7:=by omega
   subst ei;have hR2:(0,s')=res:=HR.out;have HR2:=hide hR2;clear hR2 HR fW;go_wp2;go_ret;rw[<-HR2.out];exact⟨rfl,S',HA.out.dk,HSS.out.trans HV.out⟩
end
section
variable {w:World} {B db:Nat} {S:Nat->Prop} {s:DSt}
structure mC (w w':World) (lb db fr many first:Nat) (dv:Value) (ds:List (List Chg)) (u:Nat):Prop where
 de:∃ l,zJi w' w.heap.size dv l/\l.map (·.chs)=ds/\∀ d∈l,(ddV d).ownBlock≠some lb
 dn:dv.ownBlock≠some lb
 hd:LHd w' lb db fr many first u
 new:w.heap.size<=lb
 bel:Below w.heap.size w w'
theorem zHf (fr many first:Nat) (w:World) (hk:DK w B db S s) (hd:s.down=false) (h1:1<=many) (h2:1<=first) (hf:first<=1500000) (hm:fr+many<=s.now.length):
  Calls p_ 201 #[.pointer (some ⟨db,0,none⟩),.int .i64 (fr:Int),.int .i64 (many:Int),.int .i64 (first:Int)] w fun e w'=>∃ lb dv,e=.returned (.tuple #[.pointer (some ⟨lb,0,none⟩),dv,.nilIface])/\mC w w' lb db fr many first dv (mX (eB s fr many) first) (mH (eB s fr many) first):=by
 have HS:=hide (mU w hk);have hmany:=hk.many;have g1:¬(fr:Int)<0:=by omega
 have g2:¬(many:Int)<1:=by omega
 have g3:¬(first:Int)<1:=by omega
 have g4:¬(s.now.length:Int)-(fr:Int)<(many:Int):=by omega
 have g5:(s.now.length:Int)<=200:=by omega
 have hb:=a_ w (o_ #[.pointer (some ⟨db,0,none⟩),.int .i64 (fr:Int),.int .i64 (many:Int),.int .i64 (first:Int),.int .i64 0] 329);have HH:Hid (LHd (w.alloc (o_ #[.pointer (some ⟨db,0,none⟩),.int .i64 (fr:Int),.int .i64 (many:Int),.int .i64 (first:Int),.int .i64 0] 329)) w.heap.size db fr many first 0):=⟨aC _ _ _ 0,aC _ _ _ 1,aC _ _ _ 2,aC _ _ _ 3,aC _ _ _ 4,fun j=>aQ _ _ _ j⟩;have HR:=hide (zJe _ (hk.on hb) HH.out (fun e=>by have:=hk.lt e;omega) hk.lo hd hf hm);have HB:=hide hb;clear hk hd hb;generalize mX (eB s fr many) first=ds at *;generalize mH (eB s fr many) first=u at *;generalize s.now.length=n at *;go_enter Tryz.func201,Tryz.ntmps201;go_wp2_with (first
  | (go_at_call 123;refine HS.out.mono ?_;rintro e w1 ⟨rfl,rfl⟩)
  | (go_at_call 253;refine HR.out.mono ?_;rintro e w2 ⟨dv,rfl,hra⟩;have HRA:=hide hra;clear hra)
  | fail)
 go_ret3;refine⟨_,dv,rfl,?_⟩;obtain⟨l,h3,h4,h5,h6⟩:=HRA.out;have hz:(w1.alloc (o_ #[.pointer (some ⟨db,0,none⟩),.int .i64 (fr:Int),.int .i64 (many:Int),.int .i64 (first:Int),.int .i64 0] 329)).heap.size=w1.heap.size+1:=by simp
 have hlow:∀ v:Value,∀ e z n xs,w2.ownsRow (w1.alloc (o_ #[.pointer (some ⟨db,0,none⟩),.int .i64 (fr:Int),.int .i64 (many:Int),.int .i64 (first:Int),.int .i64 0] 329)).heap.size e z v n xs->v.ownBlock≠some w1.heap.size:=fun v e z n xs ho he=>by
  have:=(l_ ho _ he).1;rw[hz] at this;omega
 refine⟨⟨l,⟨ownsRow_le h3.1 (by rw[hz];omega),fun d hd=>dJ (h3.2.1 d hd) (by rw[hz];omega),h3.2.2⟩,h4,fun d hd=>hlow _ _ _ _ _ (h3.2.1 d hd)⟩,hlow _ _ _ _ _ h3.1,h5,n_ _,?_⟩;exact⟨h6.bel.os.trans HB.out.os,h6.bel.tape.trans HB.out.tape,h6.bel.output.trans HB.out.output,Nat.le_trans HB.out.size h6.bel.size,fun k hk=>(h6.far k (by rw[hz];omega) (by omega)).trans (HB.out.block k hk)⟩
end
structure LK (w:World) (B lb db:Nat) (S:Nat->Prop) (fr many first used:Nat) (s:DSt):Prop where
 dk:DK w B db S s
 hd:LHd w lb db fr many first used
 nl:¬S lb
 lo:B<=lb
 us:used<=many
 fit:fr+many<=s.now.length
 f1:1<=first/\first<=1500000
def inL (lb:Nat) (S:Nat->Prop) (k:Nat):Prop:=k=lb∨S k
def addF (l:List Chg) (room:Nat):Nat:=if 12<l.length then 2 else if room<l.length+1 then 8 else bS l
def addR (fr many first used:Nat) (s:DSt) (l:List Chg):Nat×Nat×DSt:=
 if addF l (many-used)≠0 then (addF l (many-used),used,s)
 else
  let r:=runD (iP (fr+used) (cB (first+used) l) (many-used)) s
  (r.1,if r.1=0 then used+l.length+1 else used,r.2)
def pB (w w':World) (B lb db:Nat) (S:Nat->Prop) (fr many first used:Nat) (s:DSt):Prop:=∃ S',LK w' B lb db S' fr many first used s/\aG w w' B (inL lb S) (inL lb S')
section
variable {w w':World} {B lb db:Nat} {S:Nat->Prop} {fr many first used:Nat} {s s':DSt}
theorem LK.on (h:LK w B lb db S fr many first used s) (hb:Below w.heap.size w w'):LK w' B lb db S fr many first used s:=
 ⟨h.dk.on hb,h.hd.kept (hb.block lb h.hd.lt),h.nl,h.lo,h.us,h.fit,h.f1⟩
theorem LK.stay (h:LK w B lb db S fr many first used s) (hb:Below w.heap.size w w'):pB w w' B lb db S fr many first used s:=⟨S,h.on hb,.on h.dk.lo hb⟩
theorem zDL {S':Nat->Prop} (hs:aG w w' B S S'):aG w w' B (inL lb S) (inL lb S'):=
 ⟨hs.bel,fun j hj hn2=>⟨(hs.far j hj fun e=>hn2 (.inr e)).1,fun e=>e.elim (fun e=>hn2 (.inl e)) (hs.far j hj fun e=>hn2 (.inr e)).2⟩⟩
theorem LK.step {S':Nat->Prop} (h:LK w B lb db S fr many first used s) (hk:DK w' B db S' s') (hs:aG w w' B S S') (hl:s'.now.length=s.now.length):LK w' B lb db S' fr many first used s':=
 have f1:=hs.far lb h.hd.lt h.nl
 ⟨hk,h.hd.kept f1.1,f1.2,h.lo,h.us,by rw[hl];exact h.fit,h.f1⟩
theorem LK.use (h:LK w B lb db S fr many first used s) (n:Nat) (hn:n<=many):pB w (w.setCell ⟨lb,4,none⟩ (.int .i64 (n:Int))) B lb db S fr many first n s:=by
 refine⟨S,⟨h.dk.kept (by simp) fun k e=>h_ _ _ _ _ fun e2=>h.nl (by have e3:k=lb:=e2;rw[<-e3];exact e),h.hd.use n,h.nl,h.lo,hn,h.fit,h.f1⟩,⟨(r_ _ _).setCell (p:=⟨lb,4,none⟩) h.lo _,fun j hj hn=>⟨h_ _ _ _ _ fun e=>hn (.inl e),hn⟩⟩⟩
theorem pB.after {w1 w2:World} {S1:Nat->Prop} {n:Nat} (hs:aG w w1 B (inL lb S) (inL lb S1)) (ha:pB w1 w2 B lb db S1 fr many first n s):pB w w2 B lb db S fr many first n s:=by
 obtain⟨S2,h1,h2⟩:=ha;exact⟨S2,h1,hs.trans h2⟩
theorem zDn (l:List Chg) (ao:Option Addr) (cap:Nat) (w:World) (h:LK w B lb db S fr many first used s) (hd:bW w ao l) (hsz:∀ c∈l,c.key.size<=1000/\c.val.size<=1000) (hlen:l.length<=1000):
  Calls p_ 194 #[.pointer (some ⟨lb,0,none⟩),.slice ao l.length cap] w fun e w'=>e=.returned (errV (addR fr many first used s l).1)/\pB w w' B lb db S fr many first (addR fr many first used s l).2.1 (addR fr many first used s l).2.2:=by
 have hmany:=h.dk.many;have hfit:=h.fit;have hus:=h.us;have hf1:=h.f1;unfold addR addF;by_cases h12:12<l.length
 ·have h12':(12:Int)<(l.length:Int):=by omega
  rw[if_pos h12,if_pos (by decide)];have H:=hide h;clear h;go_enter Tryz.func194,Tryz.ntmps194;go_wp2;go_ret;exact⟨rfl,H.out.stay (r_ _ _)⟩
 rw[if_neg h12];have h12':¬(12:Int)<(l.length:Int):=by omega
 have HRM:=hide (vB w h.hd h.us (by omega));by_cases hroom:many-used<l.length+1
 ·have hroom':((many-used:Nat):Int)<(l.length:Int)+1:=by omega
  rw[if_pos hroom,if_pos (by decide)];have H:=hide h;clear h hmany hfit hus;generalize many-used=room at *;go_enter Tryz.func194,Tryz.ntmps194;go_wp2_with (go_at_call 247;refine HRM.out.mono ?_;rintro e w1 ⟨rfl,nn,rfl⟩)
  go_ret;exact⟨rfl,H.out.stay (below_drewN (r_ _ _) _)⟩
 rw[if_neg hroom];have hroom':¬((many-used:Nat):Int)<(l.length:Int)+1:=by omega
 have HSE:=hide (fun n=>zCu l ao cap (w.drewN n) (eA (below_drewN (r_ _ _) n) hd) (by omega) hsz (h.hd.kept (w':=w.drewN n) rfl) (by omega));by_cases hcf:bS l=0
 ·rw[if_neg (by rw[hcf];decide)];have hdl:=nB (first+used) l;have HLK:=hide h;have HSE2:Hid (∀ n v w',lR (w.drewN n) w' v l (first+used)->∃ g c,v=.slice (some ⟨g,0,none⟩) (l.length+1) c/\AddI w' B lb db S fr many first used g c (cB (first+used) l) s/\Below w.heap.size w w'):=fun n v w' hp=>by
   unfold lR at hp;rw[if_pos hcf] at hp;obtain⟨ho,hb⟩:=hp;have hb2:Below w.heap.size w w':=(below_drewN (r_ w.heap.size w) n).trans (hb.mono (n_ _));obtain⟨g,c,hv,hce⟩:=zJg (w:=w') (B:=w.heap.size) (l:=cB (first+used) l) ho (by omega);rw[hdl] at hv;have hk2:=h.on hb2;refine⟨g,c,hv,⟨hk2.dk,hk2.hd,hk2.nl,hce,fun e=>?_,by omega,by omega,h.fit⟩,hb2⟩;have h1:=h.dk.lt e;have h2:=(l_ ho g (by rw[hv];rfl)).1;have h3:w.heap.size<=g:=h2;omega
  rw[hcf,aR] at HSE;obtain⟨r,hr⟩:∃ r,runD (iP (fr+used) (cB (first+used) l) (many-used)) s=r:=⟨_,rfl⟩;simp only[hr];have HRU:Hid (∀ w' g c,AddI w' B lb db S fr many first used g c (cB (first+used) l) s->Calls p_ 249 #[.agg #[.pointer (some ⟨lb,0,none⟩),.slice (some ⟨g,0,none⟩) (l.length+1) c]] w' fun e w''=>e=.returned (errV r.1)/\ActD w' w'' B db S r.2):=fun w' g c ha=>by
   have:=zLu w' ha;rw[hdl,hr] at this;exact this
  have HRL:Hid (r.2.now.length=s.now.length):=by rw[<-hr];exact fS _ _
  clear h hr hdl;by_cases hr0:r.1=0
  ·rw[if_pos hr0,hr0,aR];have HR0:=hide hr0;simp only[hr0,aR] at HRU;have HNU:Hid ((used:Int)+((l.length:Int)+1)=((used+l.length+1:Nat):Int)):=hide (by omega);clear hr0;generalize hrm:many-used=room at *;have HRMD:=hide hrm;clear hrm;go_enter Tryz.func194,Tryz.ntmps194;go_wp2_with (first
    | (go_at_call 247;refine HRM.out.mono ?_;rintro e w1 ⟨rfl,nn,rfl⟩)
    | (go_at_call 248;refine(HSE.out _).mono ?_;rintro e w2 ⟨v2,rfl,hp2⟩;obtain⟨g2,cc2,rfl,ha2,hb2⟩:=HSE2.out _ _ _ hp2;have HA2:=hide ha2;have HB2:=hide hb2;clear ha2 hb2 hp2)
    | (go_at_call 249;refine(HRU.out _ _ _ HA2.out).mono ?_;rintro e w3 ⟨rfl,ha3⟩;obtain⟨S3,hk3,hs3⟩:=ha3;have HL3:=hide ((HLK.out.on HB2.out).step hk3 hs3 HRL.out);have HS3:=hide ((aG.on HLK.out.dk.lo HB2.out).trans (zDL (lb:=lb) hs3));have c4:=HL3.out.hd.c4;have f4:=HL3.out.hd.soft 4;clear hk3 hs3)
    | fail)
   go_ret;refine⟨rfl,pB.after HS3.out ?_⟩;have hu:=HL3.out.use (used+l.length+1) (by have:=HRMD.out;omega);rw[<-HNU.out] at hu;exact hu
  ·rw[if_neg hr0];have HR0:=hide hr0;rw[aP hr0] at HRU;have HER:Hid (errV r.1=.iface 114 (.int .i64 r.1)):=aP hr0;rw[HER.out];clear hr0;generalize hrm:many-used=room at *;clear hrm;go_enter Tryz.func194,Tryz.ntmps194;go_wp2_with (first
    | (go_at_call 247;refine HRM.out.mono ?_;rintro e w1 ⟨rfl,nn,rfl⟩)
    | (go_at_call 248;refine(HSE.out _).mono ?_;rintro e w2 ⟨v2,rfl,hp2⟩;obtain⟨g2,cc2,rfl,ha2,hb2⟩:=HSE2.out _ _ _ hp2;have HA2:=hide ha2;have HB2:=hide hb2;clear ha2 hb2 hp2)
    | (go_at_call 249;refine(HRU.out _ _ _ HA2.out).mono ?_;rintro e w3 ⟨rfl,ha3⟩;obtain⟨S3,hk3,hs3⟩:=ha3;have HL3:=hide ((HLK.out.on HB2.out).step hk3 hs3 HRL.out);have HS3:=hide ((aG.on HLK.out.dk.lo HB2.out).trans (zDL (lb:=lb) hs3));clear hk3 hs3)
    | fail)
   go_ret;exact⟨rfl,S3,HL3.out,HS3.out⟩
 ·rw[if_pos hcf];have HLK:=hide h;have HER:Hid (errV (bS l)=.iface 114 (.int .i64 (bS l))):=aP hcf;have HSE2:Hid (∀ n v w',lR (w.drewN n) w' v l (first+used)->Below w.heap.size w w'):=fun n v w' hp=>by
   unfold lR at hp;rw[if_neg hcf] at hp;exact(below_drewN (r_ w.heap.size w) n).trans (hp.mono (n_ _))
  rw[HER.out] at HSE;simp only[HER.out];clear h hcf;generalize hrm:many-used=room at *;clear hrm;go_enter Tryz.func194,Tryz.ntmps194;go_wp2_with (first
   | (go_at_call 247;refine HRM.out.mono ?_;rintro e w1 ⟨rfl,nn,rfl⟩)
   | (go_at_call 248;refine(HSE.out _).mono ?_;rintro e w2 ⟨v2,rfl,hp2⟩;have HB2:=hide (HSE2.out _ _ _ hp2);clear hp2)
   | fail)
  go_ret;exact⟨rfl,HLK.out.stay HB2.out⟩
end
end
structure zV (s:DSt) (fr many first:Nat) (ds:List (List Chg)) (u:Nat):Prop where
 down:s.down=false
 wait:s.wait=[]
 kept:s.kept=s.now
 fit:fr+many<=s.now.length
 has:HasL s.now fr many first ds u
section
variable {s:DSt} {fr many first u:Nat} {ds:List (List Chg)}
theorem zV.us (h:zV s fr many first ds u):u<=many:=h.has.used h.fit
theorem zIb {l:List Chg} {room:Nat} (h:addF l room=0):l.length<=12/\l.length+1<=room/\bS l=0:=by
 unfold addF at h;split at h
 ·cases h
 ·split at h
  ·cases h
  ·exact⟨by omega,by omega,h⟩
theorem zLB (o:DOp) (s:DSt) (hd:s.down=false) (hl:s.left=-1) (ho:∀ a d,o=some (a,d)->a<s.now.length/\d.size<=96):opF o s=0/\(opD o s).down=false/\(opD o s).left=-1/\(opD o s).now.length=s.now.length:=by
 obtain⟨e1,e3⟩:=zC6 hd (show s.left≠0 by rw[hl];decide);have e2:bR s=s:=by rw[e3,if_neg (by rw[hl];decide)]
 cases o with
 | some x=>
  obtain⟨a,d⟩:=x;obtain⟨h1,h2⟩:=ho a d rfl;have hb:¬((a:Int)<0∨(s.now.length:Int)<=(a:Int)∨96<d.size):=by omega
  have eF:opF (some (a,d)) s=0:=by show dO s a d=_;unfold dO;rw[if_neg hb];exact e1
  have eD:opD (some (a,d)) s=sG s a (aH d):=by show cV s a d=_;unfold cV;rw[if_neg hb,if_pos e1,e2,Int.toNat_natCast]
  rw[eF,eD];exact⟨rfl,hd,hl,List.length_set ..⟩
 | none=>
  have eD:opD none s={ s with kept:=s.now,wait:=[] }:=by show bZ s=_;unfold bZ;rw[if_pos e1,e2]
  rw[eD];exact⟨e1,hd,hl,rfl⟩
theorem vA (n:Nat):∀ (ops:List DOp) (s:DSt),s.down=false->s.left=-1->s.now.length=n->(∀ o∈ops,∀ a d,o=some (a,d)->a<n/\d.size<=96)->(runD ops s).1=0/\(runD ops s).2.left=-1
 | [],s,_,hl,_,_=>⟨rfl,hl⟩
 | o::l,s,hd,hl,hn,ho=>by
  obtain⟨q1,q2,q3,q4⟩:=zLB o s hd hl (by rw[hn];exact ho o (List.mem_cons_self ..));show(if opF o s=0 then runD l (opD o s) else (opF o s,opD o s)).1=0/\(if opF o s=0 then runD l (opD o s) else (opF o s,opD o s)).2.left=-1;rw[if_pos q1];exact vA n l _ q2 q3 (by rw[q4];exact hn) fun o' h=>ho o' (List.mem_cons_of_mem _ h)
theorem sX:∀ (l:List ByteArray) (b:Nat) (o:DOp),o∈aL b l->∀ a d,o=some (a,d)->b<=a/\a<b+l.length/\d∈l
 | [],_,o,h,_,_,_=>absurd h List.not_mem_nil
 | t::l,b,o,h,a,d,e=>by
  rcases List.mem_cons.1 h with rfl|h
  ·cases e;exact⟨n_ _,by rw[List.length_cons];omega,List.mem_cons_self ..⟩
  ·obtain⟨q1,q2,q3⟩:=sX l (b+1) o h a d e;exact⟨by omega,by rw[List.length_cons];omega,List.mem_cons_of_mem _ q3⟩
theorem zV.never (h:zV s fr many first ds u) (hl:s.left=-1) (l:List Chg) (hf:addF l (many-u)=0):(addR fr many first u s l).1=0/\(addR fr many first u s l).2.2.left=-1:=by
 obtain⟨_,q2,q3⟩:=zIb hf;have hus:=h.us;have hfit:=h.fit;have hsz:=zBM (n:=first+u) q3;have hdl:=nB (first+u) l;unfold addR;rw[if_neg (by rw[hf];decide)];refine vA s.now.length _ s h.down hl rfl fun o ho a d e=>?_;generalize cB (first+u) l=secs at *;have hem:bF.size<=96:=by decide
 unfold iP dR at ho;simp only[List.flatten_cons,List.flatten_nil,List.append_nil,List.mem_append,List.mem_singleton] at ho;rcases ho with rfl|rfl|ho|ho|rfl|rfl|rfl
 ·cases e;exact⟨by omega,hem⟩
 ·cases e
 ·obtain⟨p1,p2,p3⟩:=sX _ _ o ho a d e;rw[List.length_tail] at p2;exact⟨by omega,hsz d (List.mem_of_mem_tail p3)⟩
 ·split at ho
  ·exact absurd ho List.not_mem_nil
  ·rw[List.mem_singleton] at ho;rw[ho] at e;cases e;exact⟨by omega,hem⟩
 ·cases e
 ·cases e;refine⟨by omega,?_⟩
  cases secs with
  | nil=>simp at hdl
  | cons t0 tl=>exact hsz t0 (List.mem_cons_self ..)
 ·cases e
end
section
open Go.RowKit Go.Joins
def rowB (c:Chg):ByteArray:=⟨#[UInt8.ofNat c.key.size,UInt8.ofNat c.val.size]⟩++c.key++c.val
def aO:List Chg->ByteArray
 | []=>⟨#[]⟩
 | c::l=>rowB c++aO l
theorem pL (b:ByteArray):(⟨#[]⟩:ByteArray)++b=b:=by
 apply ByteArray.ext;simp[ByteArray.data_append]
theorem lP (b:ByteArray):b++(⟨#[]⟩:ByteArray)=b:=by
 apply ByteArray.ext;simp[ByteArray.data_append]
theorem jL (a b c:ByteArray):a++b++c=a++(b++c):=by
 apply ByteArray.ext;simp[ByteArray.data_append,Array.append_assoc]
theorem zGO (l:List Chg) (c:Chg):aO (l++[c])=aO l++rowB c:=by
 induction l with
 | nil=>show rowB c++⟨#[]⟩=⟨#[]⟩++rowB c;rw[pL,lP]
 | cons d l ih=>show rowB d++aO (l++[c])=rowB d++aO l++rowB c;rw[ih,jL]
theorem oA (c:Chg):(rowB c).size=2+c.key.size+c.val.size:=by
 unfold rowB;rw[ByteArray.size_append,ByteArray.size_append];rfl
theorem sP (l:List Chg) (n:Nat) (h:∀ c∈l,c.key.size+c.val.size<=n):(aO l).size<=l.length*(n+2):=by
 induction l with
 | nil=>exact Nat.zero_le _
 | cons c l ih=>
  show(rowB c++aO l).size<=_;rw[ByteArray.size_append,oA,List.length_cons,Nat.succ_mul];have h1:=ih fun d hd=>h d (List.mem_cons_of_mem _ hd);have h2:=h c (List.mem_cons_self ..);omega
theorem mE (a b:ByteArray):Go.Lib.strCells (a++b)=Go.Lib.strCells a++Go.Lib.strCells b:=by
 unfold Go.Lib.strCells;rw[ByteArray.data_append,Array.toList_append,List.map_append]
theorem zIL (i j:Nat) (hi:i<256) (hj:j<256):Go.Lib.strCells ⟨#[UInt8.ofNat i,UInt8.ofNat j]⟩=[.int .u8 (i:Int),.int .u8 (j:Int)]:=by
 unfold Go.Lib.strCells;simp;omega
end
end Go.Proofs.YtnboipekkahmnaaGreatDoor
