import Derived.Test.YtnboipekkahmnaaGreatDoorS00
import Derived.Deep.AppendLies
import Derived.Laws.CopyOwn
set_option maxHeartbeats 8000000
set_option maxRecDepth 100000
namespace Go.Proofs.YtnboipekkahmnaaGreatDoor
open Obj renaming cells→o_
open World renaming cell?_of_block→b_,cell?_setCell_other→t_,cell?_setCell_same→u_,ownsRow.lt→l_
open Go.RowKit.Below renaming heap_setCell→h_,refl→r_
open Nat renaming le_refl→n_
open Tryz renaming prog→p_
open Value renaming int→i_
open Go.Joins renaming below_alloc1→a_
section
open Go.RowKit Go.Joins
def gL (c:Chg):Bool:=decide (c.key.size<=60)&&decide (c.val.size<=100)
def iR (l:List Chg) (n:Nat):Bool:=decide (l.length<=n)&&l.all gL
theorem zEg {l:List Chg} {k:Nat} (hk:k<l.length) (h:(l.take k).all gL=true) (h2:gL l[k]=true):(l.take (k+1)).all gL=true:=by
 rw[List.take_succ_eq_append_getElem hk,List.all_append,h];simp[h2]
theorem yL {l:List Chg} {k n:Nat} (hk:k<l.length) (h:gL l[k]=false):iR l n=false:=by
 unfold iR;have:l.all gL=false:=by
  rw[List.all_eq_false];exact⟨l[k],List.getElem_mem hk,by simp[h]⟩
 rw[this,Bool.and_false]
theorem zAi (l:List Chg) (n b off cap:Nat) (w:World) (hl:dG w b off l) (hm:n<=1000):
  Calls p_ 58 #[.slice (some ⟨b,off,none⟩) l.length cap,.int .i64 n] w fun e w'=>e=.returned (.bool (iR l n))/\w'=w:=by
 by_cases h50:l.length<=n
 ·have hg:decide ((n:Int)<(l.length:Int))=false:=by simp;omega
  go_enter Tryz.func58,Tryz.ntmps58;go_wp2
  go_loop [5] (fun i=>∃ k:Nat,k<=l.length/\i=.int .i64 k/\(l.take k).all gL=true) (fun i=>l.length-(intOf i).toNat)
  case atStart=>exact⟨0,Nat.zero_le _,rfl,by simp⟩
  case round=>
   obtain⟨k,hk,rfl,hall⟩:=hrel;have HA:Hid ((l.take k).all gL=true):=hall;clear hall;by_cases hlt:k<l.length
   ·obtain⟨c0,c1,_⟩:=hl k hlt;go_wp2
    ·go_ret;exact⟨bB (yL hlt (by simp only[gL,Bool.and_eq_false_iff,decide_eq_false_iff_not];omega)).symm,rfl⟩
    ·go_round
     case rel=>refine⟨k+1,by omega,by go_num,?_⟩;exact List.all_eq_true.mp (zEg hlt HA.out (by simp only[gL,Bool.and_eq_true,decide_eq_true_eq];omega))
     case measure=>simp[intOf];omega
    ·go_ret;exact⟨bB (yL hlt (by simp only[gL,Bool.and_eq_false_iff,decide_eq_false_iff_not];omega)).symm,rfl⟩
   ·go_wp2;go_ret;refine⟨bB ?_,rfl⟩;have e:l.take k=l:=List.take_of_length_le (by omega);have:=HA.out;rw[e] at this;simp[iR,this,h50]
 ·have hg:decide ((n:Int)<(l.length:Int))=true:=by simp;omega
  go_enter Tryz.func58,Tryz.ntmps58;go_wp2;go_ret;exact⟨bB (by simp[iR,h50]),rfl⟩
theorem zCj (ao:Option Addr) (n cap:Nat) (w:World):
  Calls p_ 58 #[.slice ao 0 cap,.int .i64 n] w fun e w'=>e=.returned (.bool true)/\w'=w:=by
 have hg:decide ((n:Int)<0)=false:=by simp
 go_enter Tryz.func58,Tryz.ntmps58;go_wp2;refine wp_loop_rounds 1 ?_;rw[rounds_succ];go_wp2;go_ret;exact⟨rfl,rfl⟩
def bW (w:World) (ao:Option Addr) (l:List Chg):Prop:=l=[]∨∃ b off,ao=some ⟨b,off,none⟩/\dG w b off l
theorem eA {w w':World} {ao:Option Addr} {l:List Chg} (hb:Below w.heap.size w w') (h:bW w ao l):bW w' ao l:=by
 rcases h with h|⟨b,off,h,k⟩
 ·exact .inl h
 ·exact .inr ⟨b,off,h,gC hb k⟩
theorem sV (l:List Chg) (n cap:Nat) (ao:Option Addr) (w:World) (hl:bW w ao l) (hm:n<=1000):
  Calls p_ 58 #[.slice ao l.length cap,.int .i64 n] w fun e w'=>e=.returned (.bool (iR l n))/\w'=w:=by
 rcases hl with rfl|⟨b,off,rfl,h⟩
 ·exact zCj _ _ _ _
 ·exact zAi l n b off cap w h hm
structure Dd where
 ao:Option Addr
 cap:Nat
 chs:List Chg
end
section
open Go.RowKit Go.Joins
attribute [local go_sem ↓] Go.wp_at_zero Go.wp_at_succ
theorem zIo:(Tryz.prog.info? 36).map (fun i=>(i.zero,i.size,i.bytes))=some (some (.slice none 0 0),1,24):=by kernel_rfl
def ddV (d:Dd):Value:=.slice d.ao d.chs.length d.cap
def zGV (w:World) (B:Nat) (d:Dd):Prop:=bO w B (ddV d) d.chs
structure RdI (w:World) (B rb:Nat) (dv av:Value) (ds:List Dd) (ah:List Chg):Prop where
 c0:w.cell? ⟨rb,0,none⟩=some dv
 c1:w.cell? ⟨rb,1,none⟩=some av
 soft:∀ j,w.frozen? ⟨rb,j,none⟩=false
 od:w.ownsRow B 36 1 dv ds.length (ds.map ddV)
 oa:bO w B av ah
 hd:∀ d∈ds,zGV w B d
 ap:(∀ k,dv.ownBlock=some k->k≠rb/\av.ownBlock≠some k)/\∀ k,av.ownBlock=some k->k≠rb
 an:∀ d∈ds,∀ k,(ddV d).ownBlock=some k->k≠rb/\dv.ownBlock≠some k/\av.ownBlock≠some k
 lo:B<=rb
 dz:ds=[]->dv=.slice none 0 0
theorem kX {w w':World} {B:Nat} {v:Value} {l:List Chg} (h:bO w B v l) (hk:∀ k,v.ownBlock=some k->w'.heap[k]?=w.heap[k]?):bO w' B v l:=by
 refine⟨h.1,?_⟩;rcases h.2 with e|⟨g,cap,cur,rfl,hB,hg,h3⟩
 ·exact .inl e
 ·exact .inr ⟨g,cap,cur,rfl,hB,(hk g rfl).trans hg,h3⟩
theorem uK {w w':World} {B:Nat} {v:Value} {l:List Value} {n:Nat} (h:w.ownsRow B 36 1 v n l) (hk:∀ k,v.ownBlock=some k->w'.heap[k]?=w.heap[k]?):w'.ownsRow B 36 1 v n l:=by
 refine⟨h.1,?_⟩;rcases h.2 with e|⟨g,cap,cur,rfl,hB,hg,h3⟩
 ·exact .inl e
 ·exact .inr ⟨g,cap,cur,rfl,hB,(hk g rfl).trans hg,h3⟩
def inRd (rb:Nat) (dv av:Value) (ds:List Dd) (k:Nat):Prop:=k=rb∨dv.ownBlock=some k∨av.ownBlock=some k∨∃ d∈ds,(ddV d).ownBlock=some k
section
variable {w w' w5:World} {B rb g cap5:Nat} {dv av:Value} {ds:List Dd} {ah:List Chg}
theorem RdI.lt (h:RdI w B rb dv av ds ah) {k:Nat} (hk:inRd rb dv av ds k):k<w.heap.size:=by
 rcases hk with rfl|e|e|⟨d,hd,e⟩
 ·exact World.block_lt_of_cell? _ _ h.c0
 ·exact(l_ h.od k e).2
 ·exact(l_ h.oa k e).2
 ·exact(l_ (h.hd d hd) k e).2
theorem RdI.kept (h:RdI w B rb dv av ds ah) (hk:∀ k,inRd rb dv av ds k->w'.heap[k]?=w.heap[k]?):RdI w' B rb dv av ds ah:=
 have e:=hk rb (.inl rfl)
 ⟨(b_ (a:=⟨rb,0,none⟩) e).trans h.c0,(b_ (a:=⟨rb,1,none⟩) e).trans h.c1,fun j=>(World.frozen?_of_block (a:=⟨rb,j,none⟩) e).trans (h.soft j),uK h.od fun k e=>hk k (.inr (.inl e)),kX h.oa fun k e=>hk k (.inr (.inr (.inl e))),fun d hd=>kX (h.hd d hd) fun k e=>hk k (.inr (.inr (.inr ⟨d,hd,e⟩))),h.ap,h.an,h.lo,h.dz⟩
theorem RdI.on (h:RdI w B rb dv av ds ah) (hb:Below w.heap.size w w'):RdI w' B rb dv av ds ah:=h.kept fun k hk=>hb.block k (h.lt hk)
theorem RdI.push {c:Chg} (h:RdI w B rb dv av ds ah) (h7:B<=w.heap.size) (ho:w5.ownsRow B 133 3 (.slice (some ⟨g,0,none⟩) (ah.length+1) cap5) (ah.length+1) (cG ah++bN c)) (hgrow:World.grownBy (w.alloc (.cells (bN c).toArray 133)).drew w5 av.ownBlock) (hat:av.ownBlock=some g∨g=w.heap.size+1):
  RdI (w5.setCell ⟨rb,1,none⟩ (.slice (some ⟨g,0,none⟩) (ah.length+1) cap5)) B rb dv (.slice (some ⟨g,0,none⟩) (ah.length+1) cap5) ds (ah++[c])/\Below B w (w5.setCell ⟨rb,1,none⟩ (.slice (some ⟨g,0,none⟩) (ah.length+1) cap5)):=by
 have hza:(w.alloc (.cells (bN c).toArray 133)).drew.heap.size=w.heap.size+1:=by simp
 have ltr:rb<w.heap.size:=h.lt (.inl rfl);have f5:∀ k,k<w.heap.size->av.ownBlock≠some k->w5.heap[k]?=w.heap[k]?:=fun k hk hn=>by
  rw[hgrow.block k (by rw[hza];omega) (Ne.symm hn),(a_ w _).drew.block k hk]
 have hkr:av.ownBlock≠some rb:=fun e=>h.ap.2 rb e rfl;have e5:=f5 rb ltr hkr;have hgr:g≠rb:=by
  rcases hat with e|e
  ·exact fun e2=>hkr (e2▸e)
  ·omega
 have hgl:∀ k,k<w.heap.size->av.ownBlock≠some k->g≠k:=fun k hk hn=>by
  rcases hat with e|e
  ·exact fun e2=>hn (e2▸e)
  ·omega
 have k6:∀ k,k≠rb->(w5.setCell ⟨rb,1,none⟩ (.slice (some ⟨g,0,none⟩) (ah.length+1) cap5)).heap[k]?=w5.heap[k]?:=fun k hk=>h_ _ _ _ _ hk;have cc:∀ j v,w.cell? ⟨rb,j,none⟩=some v->w5.cell? ⟨rb,j,none⟩=some v:=fun j v hv=>(b_ (a:=⟨rb,j,none⟩) e5).trans hv;refine⟨⟨(t_ _ _ _ _ (by simp)).trans (cc 0 _ h.c0),u_ _ _ _ (cc 1 _ h.c1),fun j=>by rw[World.frozen?_setCell,World.frozen?_of_block (a:=⟨rb,j,none⟩) e5];exact h.soft j,?_,?_,fun d hd=>?_,⟨fun k e=>?_,fun k e=>?_⟩,fun d hd k e=>?_,h.lo,h.dz⟩,?_⟩
 ·exact uK h.od fun k e=>(k6 k (h.ap.1 k e).1).trans (f5 k (h.lt (.inr (.inl e))) (h.ap.1 k e).2)
 ·have:bO w5 B (.slice (some ⟨g,0,none⟩) (ah.length+1) cap5) (ah++[c]):=by
   unfold bO;rw[List.length_append,tJ];show w5.ownsRow B _ 3 _ (ah.length+1) (cG ah++(bN c++[]));rw[List.append_nil];exact ho
  exact kX this fun k e=>by cases e;exact k6 g hgr
 ·exact kX (h.hd d hd) fun k e=>(k6 k (h.an d hd k e).1).trans (f5 k (h.lt (.inr (.inr (.inr ⟨d,hd,e⟩)))) (h.an d hd k e).2.2)
 ·exact⟨(h.ap.1 k e).1,fun e2=>hgl k (h.lt (.inr (.inl e))) (h.ap.1 k e).2 (by cases e2;rfl)⟩
 ·cases e;exact hgr
 ·obtain⟨p1,p2,p3⟩:=h.an d hd k e;exact⟨p1,p2,fun e2=>hgl k (h.lt (.inr (.inr (.inr ⟨d,hd,e⟩)))) p3 (by cases e2;rfl)⟩
 ·exact(((a_ w (.cells (bN c).toArray 133)).mono h7).drew.grown hgrow (by rw[hza];omega) (fun k hk=>(l_ h.oa k hk).1)).setCell (p:=⟨rb,1,none⟩) h.lo _
theorem RdI.close {ao:Option Addr} {cap:Nat} (h:RdI w B rb dv (.slice ao ah.length cap) ds ah) (h7:B<=w.heap.size) (ho:w5.ownsRow B 36 1 (.slice (some ⟨g,0,none⟩) (ds.length+1) cap5) (ds.length+1) (ds.map ddV++[.slice ao ah.length cap])) (hgrow:World.grownBy (w.alloc (.cells #[.slice ao ah.length cap] 36)).drew w5 dv.ownBlock) (hat:dv.ownBlock=some g∨g=w.heap.size+1):
  RdI ((w5.setCell ⟨rb,0,none⟩ (.slice (some ⟨g,0,none⟩) (ds.length+1) cap5)).setCell ⟨rb,1,none⟩ (.slice none 0 0)) B rb (.slice (some ⟨g,0,none⟩) (ds.length+1) cap5) (.slice none 0 0) (ds++[⟨ao,cap,ah⟩]) []/\Below B w ((w5.setCell ⟨rb,0,none⟩ (.slice (some ⟨g,0,none⟩) (ds.length+1) cap5)).setCell ⟨rb,1,none⟩ (.slice none 0 0)):=by
 have hza:(w.alloc (.cells #[.slice ao ah.length cap] 36)).drew.heap.size=w.heap.size+1:=by simp
 have ltr:rb<w.heap.size:=h.lt (.inl rfl);have f5:∀ k,k<w.heap.size->dv.ownBlock≠some k->w5.heap[k]?=w.heap[k]?:=fun k hk hn=>by
  rw[hgrow.block k (by rw[hza];omega) (Ne.symm hn),(a_ w _).drew.block k hk]
 have hkr:dv.ownBlock≠some rb:=fun e=>(h.ap.1 rb e).1 rfl;have e5:=f5 rb ltr hkr;have hgr:g≠rb:=by
  rcases hat with e|e
  ·exact fun e2=>hkr (e2▸e)
  ·omega
 have hgl:∀ k,k<w.heap.size->dv.ownBlock≠some k->g≠k:=fun k hk hn=>by
  rcases hat with e|e
  ·exact fun e2=>hn (e2▸e)
  ·omega
 have k6:∀ k,k≠rb->((w5.setCell ⟨rb,0,none⟩ (.slice (some ⟨g,0,none⟩) (ds.length+1) cap5)).setCell ⟨rb,1,none⟩ (.slice none 0 0)).heap[k]?=w5.heap[k]?:=fun k hk=>(h_ _ _ _ _ hk).trans (h_ _ _ _ _ hk);have cc:∀ j v,w.cell? ⟨rb,j,none⟩=some v->w5.cell? ⟨rb,j,none⟩=some v:=fun j v hv=>(b_ (a:=⟨rb,j,none⟩) e5).trans hv;have avd:∀ k,(Value.slice ao ah.length cap).ownBlock=some k->dv.ownBlock≠some k:=fun k e e2=>(h.ap.1 k e2).2 e;refine⟨⟨(t_ _ _ _ _ (by simp)).trans (u_ _ _ _ (cc 0 _ h.c0)),u_ _ _ _ ((t_ _ _ _ _ (by simp)).trans (cc 1 _ h.c1)),fun j=>by rw[World.frozen?_setCell,World.frozen?_setCell,World.frozen?_of_block (a:=⟨rb,j,none⟩) e5];exact h.soft j,?_,⟨rfl,.inl ⟨rfl,rfl⟩⟩,fun d hd=>?_,⟨fun k e=>?_,nofun⟩,fun d hd k e=>?_,h.lo,fun e=>absurd e (by simp)⟩,?_⟩
 ·have:w5.ownsRow B 36 1 (.slice (some ⟨g,0,none⟩) (ds.length+1) cap5) (ds++[(⟨ao,cap,ah⟩:Dd)]).length ((ds++[(⟨ao,cap,ah⟩:Dd)]).map ddV):=by
   rw[List.length_append,List.map_append];exact ho
  exact uK this fun k e=>by cases e;exact k6 g hgr
 ·rcases List.mem_append.1 hd with hd|hd
  ·exact kX (h.hd d hd) fun k e=>(k6 k (h.an d hd k e).1).trans (f5 k (h.lt (.inr (.inr (.inr ⟨d,hd,e⟩)))) (h.an d hd k e).2.1)
  ·rw[List.mem_singleton] at hd;subst hd;exact kX h.oa fun k e=>(k6 k (h.ap.2 k e)).trans (f5 k (h.lt (.inr (.inr (.inl e)))) (avd k e))
 ·cases e;exact⟨hgr,nofun⟩
 ·rcases List.mem_append.1 hd with hd|hd
  ·obtain⟨p1,p2,p3⟩:=h.an d hd k e;exact⟨p1,fun e2=>hgl k (h.lt (.inr (.inr (.inr ⟨d,hd,e⟩)))) p2 (by cases e2;rfl),nofun⟩
  ·rw[List.mem_singleton] at hd;subst hd;exact⟨h.ap.2 k e,fun e2=>hgl k (h.lt (.inr (.inr (.inl e)))) (avd k e) (by cases e2;rfl),nofun⟩
 ·exact((((a_ w (.cells #[.slice ao ah.length cap] 36)).mono h7).drew.grown hgrow (by rw[hza];omega) (fun k hk=>(l_ h.od k hk).1)).setCell (p:=⟨rb,0,none⟩) h.lo _).setCell (p:=⟨rb,1,none⟩) h.lo _
end
theorem zCx (k:Nat) (hk:k<256) (W:World) (b:Nat) (h:W.cell? ⟨b,0,none⟩=some (.int .u8 (k:Int))):(convert 247 9 (.slice (some ⟨b,0,none⟩) 1 1)).run p_ W=.ok (.string ⟨#[UInt8.ofNat k]⟩) W:=by
 have:=run_convert_bytes_back (P:=p_) W 247 9 5 ⟨b,0,none⟩ 1 [UInt8.ofNat k] Tryz.underlying247 Tryz.underlying5 Tryz.underlying9 (fun j hj=>by
  have hj2:j=0:=by simp at hj;omega
  subst hj2;have e:(⟨b,0,none⟩:Addr).add 0=⟨b,0,none⟩:=by simp[Addr.add]
  rw[e,h];simp;omega)
 simpa using this
theorem zM (k n:Nat) (d:ByteArray) (hk:k<256) (hn:n<=2000000000) (hd:d.size<=90) (w:World):Calls p_ 283 #[.int .u8 (k:Int),.int .i64 (n:Int),.string d] w fun e w'=>e=.returned (.string (encL k n d))/\Below w.heap.size w w':=by
 have HF:=fun w=>hide (nK n hn w);have hz1:(d.size:Int)<=90:=by omega
 have hz0:(0:Int)<=(d.size:Int):=by omega
 have k3:IntKind.u8.wrap (d.size:Int)=d.size:=by simp[IntKind.wrap,IntKind.bits];omega
 have hc1:=zCx k hk;have hc2:=zCx d.size (by omega);have hff:(dM n).size=4:=rfl;unfold encL;generalize dM n=ff at *;have FA:∀ w1,Below (w.alloc (o_ #[.int .u8 (k:Int)] 5)).drew.heap.size (w.alloc (o_ #[.int .u8 (k:Int)] 5)).drew w1->w1.cell? ⟨w.heap.size,0,none⟩=some (.int .u8 (k:Int))/\w.heap.size<w1.heap.size:=fun w1 hb=>⟨aA hb (aC w _ _ 0),by have:=hb.size;simp at this;omega⟩;have FB:∀ w1,Below (w.alloc (o_ #[.int .u8 (d.size:Int)] 5)).drew.heap.size (w.alloc (o_ #[.int .u8 (d.size:Int)] 5)).drew w1->w1.cell? ⟨w.heap.size,0,none⟩=some (.int .u8 (d.size:Int))/\w.heap.size<w1.heap.size:=fun w1 hb=>⟨aA hb (aC w _ _ 0),by have:=hb.size;simp at this;omega⟩;have FAB:∀ w1,Below (((w.alloc (o_ #[.int .u8 (k:Int)] 5)).alloc (o_ #[.int .u8 (d.size:Int)] 5)).drew).heap.size (((w.alloc (o_ #[.int .u8 (k:Int)] 5)).alloc (o_ #[.int .u8 (d.size:Int)] 5)).drew) w1->w1.cell? ⟨w.heap.size,0,none⟩=some (.int .u8 (k:Int))/\w1.cell? ⟨w.heap.size+1,0,none⟩=some (.int .u8 (d.size:Int))/\w.heap.size<w1.heap.size/\w.heap.size+1<w1.heap.size:=fun w1 hb=>by
  have h0:(w.alloc (o_ #[.int .u8 (k:Int)] 5)).cell? ⟨w.heap.size,0,none⟩=some (.int .u8 (k:Int)):=aC w _ _ 0;have h1:((w.alloc (o_ #[.int .u8 (k:Int)] 5)).alloc (o_ #[.int .u8 (d.size:Int)] 5)).cell? ⟨w.heap.size,0,none⟩=some (.int .u8 (k:Int)):=aA (a_ _ _) h0;refine⟨aA hb h1,?_,?_,?_⟩
  ·have h:=aA hb (aC (w.alloc (o_ #[.int .u8 (k:Int)] 5)) #[i_ .u8 (d.size:Int)] 5 0);have e:(w.alloc (o_ #[.int .u8 (k:Int)] 5)).heap.size=w.heap.size+1:=by simp
   rw[e] at h;exact h
  ·have:=hb.size;simp at this;omega
  ·have:=hb.size;simp at this;omega
 have FBA:∀ w1,Below (((w.alloc (o_ #[.int .u8 (d.size:Int)] 5)).alloc (o_ #[.int .u8 (k:Int)] 5)).drew).heap.size (((w.alloc (o_ #[.int .u8 (d.size:Int)] 5)).alloc (o_ #[.int .u8 (k:Int)] 5)).drew) w1->w1.cell? ⟨w.heap.size,0,none⟩=some (.int .u8 (d.size:Int))/\w1.cell? ⟨w.heap.size+1,0,none⟩=some (.int .u8 (k:Int))/\w.heap.size<w1.heap.size/\w.heap.size+1<w1.heap.size:=fun w1 hb=>by
  have h0:(w.alloc (o_ #[.int .u8 (d.size:Int)] 5)).cell? ⟨w.heap.size,0,none⟩=some (.int .u8 (d.size:Int)):=aC w _ _ 0;have h1:((w.alloc (o_ #[.int .u8 (d.size:Int)] 5)).alloc (o_ #[.int .u8 (k:Int)] 5)).cell? ⟨w.heap.size,0,none⟩=some (.int .u8 (d.size:Int)):=aA (a_ _ _) h0;refine⟨aA hb h1,?_,?_,?_⟩
  ·have h:=aA hb (aC (w.alloc (o_ #[.int .u8 (d.size:Int)] 5)) #[i_ .u8 (k:Int)] 5 0);have e:(w.alloc (o_ #[.int .u8 (d.size:Int)] 5)).heap.size=w.heap.size+1:=by simp
   rw[e] at h;exact h
  ·have:=hb.size;simp at this;omega
  ·have:=hb.size;simp at this;omega
 have HBAB:Hid (∀ w1,Below (((w.alloc (o_ #[.int .u8 (k:Int)] 5)).alloc (o_ #[.int .u8 (d.size:Int)] 5)).drew).heap.size (((w.alloc (o_ #[.int .u8 (k:Int)] 5)).alloc (o_ #[.int .u8 (d.size:Int)] 5)).drew) w1->Below w.heap.size w w1):=fun w1 h=>aB (aB (a_ _ _) (n_ _) (a_ _ _)).drew (by simp) h;have HBBA:Hid (∀ w1,Below (((w.alloc (o_ #[.int .u8 (d.size:Int)] 5)).alloc (o_ #[.int .u8 (k:Int)] 5)).drew).heap.size (((w.alloc (o_ #[.int .u8 (d.size:Int)] 5)).alloc (o_ #[.int .u8 (k:Int)] 5)).drew) w1->Below w.heap.size w w1):=fun w1 h=>aB (aB (a_ _ _) (n_ _) (a_ _ _)).drew (by simp) h;have HBA:Hid (∀ w1,Below ((w.alloc (o_ #[.int .u8 (k:Int)] 5)).drew).heap.size ((w.alloc (o_ #[.int .u8 (k:Int)] 5)).drew) w1->Below w.heap.size w w1):=fun w1 h=>aB (a_ _ _).drew (by simp) h;have HBB:Hid (∀ w1,Below ((w.alloc (o_ #[.int .u8 (d.size:Int)] 5)).drew).heap.size ((w.alloc (o_ #[.int .u8 (d.size:Int)] 5)).drew) w1->Below w.heap.size w w1):=fun w1 h=>aB (a_ _ _).drew (by simp) h;replace FA:=hide FA;replace FB:=hide FB;replace FAB:=hide FAB;replace FBA:=hide FBA;have s1:¬9223372036854775807<1+ff.size+1+d.size:=by omega
 have s2:¬9223372036854775807<6+d.size:=by omega
 have s3:¬9223372036854775807<d.size+6:=by omega
 go_enter Tryz.func283,Tryz.ntmps283;go_wp2
 go_region_with ((go_at_call 278;refine((HF _).out).mono ?_;rintro e w1 ⟨rfl,hb⟩;(first
  | (have hT:Below (((w.alloc (o_ #[.int .u8 (k:Int)] 5)).alloc (o_ #[.int .u8 (d.size:Int)] 5)).drew).heap.size (((w.alloc (o_ #[.int .u8 (k:Int)] 5)).alloc (o_ #[.int .u8 (d.size:Int)] 5)).drew) w1:=hb;obtain⟨z0,z1,z2,z3⟩:=FAB.out w1 hT;have hW:=HBAB.out w1 hT;clear hT)
  | (have hT:Below (((w.alloc (o_ #[.int .u8 (d.size:Int)] 5)).alloc (o_ #[.int .u8 (k:Int)] 5)).drew).heap.size (((w.alloc (o_ #[.int .u8 (d.size:Int)] 5)).alloc (o_ #[.int .u8 (k:Int)] 5)).drew) w1:=hb;obtain⟨z0,z1,z2,z3⟩:=FBA.out w1 hT;have hW:=HBBA.out w1 hT;clear hT)
  | (have hT:Below ((w.alloc (o_ #[.int .u8 (k:Int)] 5)).drew).heap.size ((w.alloc (o_ #[.int .u8 (k:Int)] 5)).drew) w1:=hb;obtain⟨z0,z1⟩:=FA.out w1 hT;have hW:=HBA.out w1 hT;clear hT)
  | (have hT:Below ((w.alloc (o_ #[.int .u8 (d.size:Int)] 5)).drew).heap.size ((w.alloc (o_ #[.int .u8 (d.size:Int)] 5)).drew) w1:=hb;obtain⟨z0,z1⟩:=FB.out w1 hT;have hW:=HBB.out w1 hT;clear hT)
  | (have hT:Below w.drew.heap.size w.drew w1:=hb;have hW:Below w.heap.size w w1:=aB (r_ _ _).drew (n_ _) hT;clear hT))))
 all_goals
  go_wp2;go_ret;exact⟨rfl,by first|exact hW|exact aB hW (n_ _) (a_ _ _)|exact aB (aB hW (n_ _) (a_ _ _)) (n_ _) (a_ _ _)⟩
def tL (w w':World) (B rb:Nat) (ds:List (List Chg)) (ah:List Chg):Prop:=∃ dv av l,RdI w' B rb dv av l ah/\l.map (·.chs)=ds/\Below B w w'
section
variable {w:World} {B rb:Nat} {dv av:Value} {ds:List Dd} {ah:List Chg}
theorem zLd (d:ByteArray) (hd:d.size<=300) (hp:gI d≠0) (w:World) (h:RdI w B rb dv av ds ah) (h7:B<=w.heap.size):
  Calls p_ 290 #[.pointer (some ⟨rb,0,none⟩),.int .u8 111,.string d] w fun e w'=>e=.returned (.bool false)/\tL w w' B rb (ds.map (·.chs)) ah:=by
 have HP:=hide (zBN d hd w);rw[aP hp] at HP;have H:=hide h;clear h hp;generalize gY d=c at *;generalize gI d=pf at *;go_enter Tryz.func290,Tryz.ntmps290;go_wp2_with (go_at_call 318;refine HP.out.mono ?_;rintro e w1 ⟨rfl,hb1⟩;have HB1:=hide hb1;clear hb1)
 go_ret;have hbb:=aB HB1.out (n_ _) (a_ w1 (o_ #[.string c.key,.string c.val,.bool c.gone] 133));exact⟨rfl,dv,av,ds,H.out.on hbb,rfl,hbb.mono h7⟩
theorem zEB (d:ByteArray) (hd:d.size<=300) (hp:gI d=0) (w:World) (h:RdI w B rb dv av ds ah) (h7:B<=w.heap.size) (hah:ah.length<=1000):
  Calls p_ 290 #[.pointer (some ⟨rb,0,none⟩),.int .u8 111,.string d] w fun e w'=>e=.returned (.bool true)/\tL w w' B rb (ds.map (·.chs)) (ah++[gY d]):=by
 have HP:=hide (zBN d hd w);rw[hp,aR] at HP;have H:=hide h;have hrl:rb<w.heap.size:=h.lt (.inl rfl);have hav:some rb≠av.ownBlock:=fun e=>h.ap.2 rb e.symm rfl;clear h hp;generalize gY d=c at *;obtain⟨i0,hi0,hz0,hz1,hz2⟩:=info_parts qS;go_enter Tryz.func290,Tryz.ntmps290;go_wp2_with (go_at_call 318;refine HP.out.mono ?_;rintro e w1 ⟨rfl,hb1⟩;have HB1:=hide hb1;clear hb1)
 have HB2:=hide (aB HB1.out (n_ _) (a_ w1 (o_ #[.string c.key,.string c.val,.bool c.gone] 133)));have a0:(w1.alloc (o_ #[.string c.key,.string c.val,.bool c.gone] 133)).cell? ⟨w1.heap.size,0,none⟩=some (.string c.key):=aC _ _ _ 0;have a1:(w1.alloc (o_ #[.string c.key,.string c.val,.bool c.gone] 133)).cell? ⟨w1.heap.size,1,none⟩=some (.string c.val):=aC _ _ _ 1;have a2:(w1.alloc (o_ #[.string c.key,.string c.val,.bool c.gone] 133)).cell? ⟨w1.heap.size,2,none⟩=some (.bool c.gone):=aC _ _ _ 2;have H2:=hide (H.out.on HB2.out);have hr2:rb<(w1.alloc (o_ #[.string c.key,.string c.val,.bool c.gone] 133)).heap.size:=H2.out.lt (.inl rfl);have c1:=H2.out.c1;have f1:=H2.out.soft 1;have hB2:B<=(w1.alloc (o_ #[.string c.key,.string c.val,.bool c.gone] 133)).heap.size:=Nat.le_trans h7 HB2.out.size;generalize hcb:w1.heap.size=cb at *;generalize w1.alloc (o_ #[.string c.key,.string c.val,.bool c.gone] 133)=W at *;have HNW:Hid (∀ j u,(bN c)[j]?=some u->(W.alloc (o_ (bN c).toArray 133)).drew.cell? ((⟨W.heap.size,0,none⟩:Addr).add j)=some u):=
  World.news_of_block (cs:=(bN c).toArray) (t:=133) (fr:=(0,0)) (heap_alloc_new W _)
 clear hcb;have d1:=aA (a_ W (o_ (bN c).toArray 133)).drew c1
 go_region_law ((refine step_append_lies _ (by rfl) _ _ _ (by rfl) B 133 i0 _ 3 40 Tryz.underlying36 hi0 hz0 hz1 hz2 rfl (by omega) av ah.length (cG ah) (by rfl) ((H2.out.oa.alloc _).drew) ⟨W.heap.size,0,none⟩ 1 1 (bN c) (by rfl) (by rfl) HNW.out (by simp[bN,Value.oneCell']) (by omega) (by unfold maxLen;omega) (by omega) (by simp;omega) (W.heap.size+1) (by simp) ?_;intro g5 cap5 w5 ho5 hgr5 hat5 hlt5;have e5:w5.heap[rb]?=W.heap[rb]?:=(hgr5.block rb (by simp;omega) hav).trans ((a_ W _).drew.block rb hr2);have d5:=(b_ (a:=⟨rb,1,none⟩) e5).trans c1;have g5':=(World.frozen?_of_block (a:=⟨rb,1,none⟩) e5).trans f1))
 all_goals
  obtain⟨hq1,hq2⟩:=H2.out.push (c:=c) hB2 ho5 hgr5 hat5;have HQ1:=hide hq1;have HQ2:=hide hq2;clear hq1 hq2 e5 d5 g5' ho5 hgr5 hat5 hlt5;go_wp2;go_ret;exact⟨rfl,_,_,ds,HQ1.out,rfl,(HB2.out.mono h7).trans HQ2.out⟩
theorem zFm {w:World} {B:Nat} {v:Value} {l:List Chg} (h:bO w B v l):∃ ao cap,v=.slice ao l.length cap:=by
 rcases h.2 with⟨e,e2⟩|⟨g,cap,cur,e,_⟩
 ·exact⟨none,0,by rw[e,e2]⟩
 ·exact⟨_,cap,e⟩
theorem zGh (d:ByteArray) (hp:(d.toList==(dM ah.length).toList)=false) (w:World) (h:RdI w B rb dv av ds ah) (h7:B<=w.heap.size) (hah:ah.length<=1000):
  Calls p_ 290 #[.pointer (some ⟨rb,0,none⟩),.int .u8 99,.string d] w fun e w'=>e=.returned (.bool false)/\tL w w' B rb (ds.map (·.chs)) ah:=by
 have HF:=hide (nK ah.length (by omega) w);have H:=hide h;obtain⟨ao,cap,rfl⟩:=zFm h.oa;have c1:=h.c1;clear h;generalize dM ah.length=ff at *;go_enter Tryz.func290,Tryz.ntmps290;go_wp2_with (go_at_call 278;refine HF.out.mono ?_;rintro e w1 ⟨rfl,hb1⟩;have HB1:=hide hb1;clear hb1)
 go_ret;exact⟨rfl,dv,_,ds,H.out.on HB1.out,rfl,HB1.out.mono h7⟩
theorem zGj (d:ByteArray) (hp:(d.toList==(dM ah.length).toList)=true) (w:World) (h:RdI w B rb dv av ds ah) (h7:B<=w.heap.size) (hah:ah.length<=1000) (hds:ds.length<=1000):
  Calls p_ 290 #[.pointer (some ⟨rb,0,none⟩),.int .u8 99,.string d] w fun e w'=>e=.returned (.bool true)/\tL w w' B rb (ds.map (·.chs)++[ah]) []:=by
 have HF:=hide (nK ah.length (by omega) w);have H:=hide h;obtain⟨ao,cap,rfl⟩:=zFm h.oa;have c1:=h.c1;have hdv:some rb≠dv.ownBlock:=fun e=>(h.ap.1 rb e.symm).1 rfl;clear h;generalize dM ah.length=ff at *;obtain⟨i0,hi0,hz0,hz1,hz2⟩:=info_parts zIo;go_enter Tryz.func290,Tryz.ntmps290;go_wp2_with (go_at_call 278;refine HF.out.mono ?_;rintro e W ⟨rfl,hb1⟩;have HB1:=hide hb1;clear hb1)
 have H2:=hide (H.out.on HB1.out);replace c1:=H2.out.c1;have c0:=H2.out.c0;have f0:=H2.out.soft 0;have hr2:rb<W.heap.size:=H2.out.lt (.inl rfl);have hB2:B<=W.heap.size:=Nat.le_trans h7 HB1.out.size;have HNW:Hid (∀ j u,[Value.slice ao ah.length cap][j]?=some u->(W.alloc (o_ #[.slice ao ah.length cap] 36)).drew.cell? ((⟨W.heap.size,0,none⟩:Addr).add j)=some u):=
  World.news_of_block (cs:=#[Value.slice ao ah.length cap]) (t:=36) (fr:=(0,0)) (heap_alloc_new W _)
 have d0:=aA (a_ W (o_ #[.slice ao ah.length cap] 36)).drew c0;have d1:=aA (a_ W (o_ #[.slice ao ah.length cap] 36)).drew c1
 go_region_law ((refine step_append_lies _ (by rfl) _ _ _ (by rfl) B 36 i0 _ 1 24 Tryz.underlying225 hi0 hz0 hz1 hz2 rfl (by omega) dv ds.length (ds.map ddV) (by rfl) ((H2.out.od.alloc _).drew) ⟨W.heap.size,0,none⟩ 1 1 [Value.slice ao ah.length cap] (by rfl) (by rfl) HNW.out (by simp[Value.oneCell']) (by omega) (by unfold maxLen;omega) (by omega) (by simp;omega) (W.heap.size+1) (by simp) ?_;intro g5 cap5 w5 ho5 hgr5 hat5 hlt5;have e5:w5.heap[rb]?=W.heap[rb]?:=(hgr5.block rb (by simp;omega) hdv).trans ((a_ W _).drew.block rb hr2);have d5:=(b_ (a:=⟨rb,0,none⟩) e5).trans c0;have d6:=(b_ (a:=⟨rb,1,none⟩) e5).trans c1;have g5':=(World.frozen?_of_block (a:=⟨rb,0,none⟩) e5).trans f0;have g6':=(World.frozen?_of_block (a:=⟨rb,1,none⟩) e5).trans (H2.out.soft 1)))
 all_goals
  obtain⟨hq1,hq2⟩:=H2.out.close hB2 ho5 hgr5 hat5;have HQ1:=hide hq1;have HQ2:=hide hq2;clear hq1 hq2 e5 ho5 hgr5 hat5 hlt5;go_wp2;go_ret;exact⟨rfl,_,_,_,HQ1.out,by simp,(HB1.out.mono h7).trans HQ2.out⟩
end
end
abbrev RSt:=List (List Chg)×List Chg
def fZ (st:RSt) (k:Nat) (d:ByteArray):Option RSt:=
 if k=111 then (if gI d=0 then some (st.1,st.2++[gY d]) else none)
 else if (d.toList==(dM st.2.length).toList)=true then some (st.1++[st.2],[]) else none
def dB (first:Nat):Nat->List ByteArray->RSt->Nat->List (List Chg)×Nat
 | _,[],st,u=>(st.1,u)
 | i,t::l,st,u=>match decL t (first+i) with
  | none=>(st.1,u)
  | some (k,d)=>match fZ st k d with
   | none=>(st.1,u)
   | some st'=>dB first (i+1) l st' (if k=99 then i+1 else u)
def mX (secs:List ByteArray) (first:Nat):List (List Chg):=(dB first 0 secs ([],[]) 0).1
def mH (secs:List ByteArray) (first:Nat):Nat:=(dB first 0 secs ([],[]) 0).2
theorem zBA {t:ByteArray} {n k:Nat} {d:ByteArray} (h:decL t n=some (k,d)):k=111∨k=99:=by
 unfold decL at h;split at h
 case isFalse=>cases h
 case isTrue hh=>simp only[Option.some.injEq,Prod.mk.injEq] at h;rw[<-h.1];exact hh.1
theorem zIW {t:ByteArray} {n k:Nat} {d:ByteArray} (h:decL t n=some (k,d)):d.size<=90:=by
 unfold decL at h;split at h
 case isFalse=>cases h
 case isTrue hh=>
  simp only[Option.some.injEq,Prod.mk.injEq] at h;rw[<-h.2,ByteArray.size_extract];have:=hh.2.2;omega
theorem oI {first i:Nat} {t:ByteArray} {l:List ByteArray} {st:RSt} {u:Nat} (h:decL t (first+i)=none):dB first i (t::l) st u=(st.1,u):=by
 simp only[dB,h]
theorem tY {first i k:Nat} {d t:ByteArray} {l:List ByteArray} {st:RSt} {u:Nat} (h:decL t (first+i)=some (k,d)) (ht:fZ st k d=none):dB first i (t::l) st u=(st.1,u):=by
 simp only[dB,h,ht]
theorem kB {first i k:Nat} {d t:ByteArray} {l:List ByteArray} {st st':RSt} {u:Nat} (h:decL t (first+i)=some (k,d)) (ht:fZ st k d=some st'):dB first i (t::l) st u=dB first (i+1) l st' (if k=99 then i+1 else u):=by
 simp only[dB,h,ht]
theorem zAX {st st':RSt} {k:Nat} {d:ByteArray} (h:fZ st k d=some st'):st'.1.length<=st.1.length+1/\st'.2.length<=st.2.length+1:=by
 unfold fZ at h;split at h
 ·split at h
  ·simp only[Option.some.injEq] at h;rw[<-h];simp
  ·cases h
 ·split at h
  ·simp only[Option.some.injEq] at h;rw[<-h];simp
  ·cases h
section
open Go.RowKit Go.Joins
def secV (d:ByteArray):List Value:=d.data.toList.map fun b=>.int .u8 b.toNat
abbrev Wr:=Int×ByteArray
def bL (x:Wr):List Value:=.int .i64 x.1::secV x.2
theorem cM (d:ByteArray):(secV d).length=d.size:=by unfold secV;rw[List.length_map,Array.length_toList];rfl
theorem rV (d:ByteArray):∀ v∈secV d,v.oneCell'=true:=fun v hv=>by
 obtain⟨b,_,rfl⟩:=List.mem_map.1 hv;rfl
theorem aY {x:Wr} (h:x.2.size=96):(bL x).length=97:=by unfold bL;rw[List.length_cons,cM,h]
theorem qY (x:Wr):∀ v∈bL x,v.oneCell'=true:=fun v hv=>by
 rcases List.mem_cons.1 hv with rfl|hv
 ·rfl
 ·exact rV _ v hv
theorem uZ {α:Type} {f:α->List Value} {z:Nat} {l:List α} (h:∀ x∈l,(f x).length=z):∀ (i c:Nat) (hi:i<l.length),c<z->(l.flatMap f)[i*z+c]?=(f l[i])[c]?:=by
 induction l with
 | nil=>intro i c hi;cases hi
 | cons x l ih=>
  intro i c hi hc;have hx:=h x (List.mem_cons_self ..)
  cases i with
  | zero=>rw[List.flatMap_cons,Nat.zero_mul,Nat.zero_add,List.getElem?_append_left (by omega)];rfl
  | succ i=>
   have e:(i+1)*z=i*z+z:=Nat.succ_mul i z;rw[List.flatMap_cons,List.getElem?_append_right (by omega),show(i+1)*z+c-(f x).length=i*z+c by omega,ih (fun y hy=>h y (List.mem_cons_of_mem _ hy)) i c (by simpa using hi) hc];rfl
theorem cC {α:Type} {f:α->List Value} {z:Nat} {l:List α} (h:∀ x∈l,(f x).length=z):(l.flatMap f).length=l.length*z:=by
 induction l with
 | nil=>simp
 | cons x l ih=>
  rw[List.flatMap_cons,List.length_append,h x (List.mem_cons_self ..),ih (fun y hy=>h y (List.mem_cons_of_mem _ hy)),List.length_cons,Nat.succ_mul];omega
def ownW (w:World) (B:Nat) (v:Value) (l:List Wr):Prop:=w.ownsRow B 200 97 v l.length (l.flatMap bL)/\∀ x∈l,x.2.size=96
theorem gA:(Tryz.prog.info? 200).map (·.size)=some 97:=by kernel_rfl
theorem nV:(Tryz.prog.info? 198).map (·.size)=some 96:=by kernel_rfl
theorem yM {w:World} {B g n cap:Nat} {l:List Wr} (h:ownW w B (.slice (some ⟨g,0,none⟩) n cap) l) {i:Nat} (hi:i<l.length):w.rangeAt g (i*97) (bL l[i]):=fun j v hv=>by
 have hj:j<(bL l[i]).length:=(List.getElem?_eq_some_iff.1 hv).1;rw[aY (h.2 _ (List.getElem_mem hi))] at hj;have e:=World.ownsRow.cells h.1 (g:=g) rfl (i*97+j) v ((uZ (fun x hx=>aY (h.2 x hx)) i j hi hj).trans hv);rw[Go.Addr.add_mid,Nat.zero_add] at e;exact e
theorem mF {W w1:World} {b o:Nat} {cs:List Value} (hb:Below W.heap.size W w1) (h:W.rangeAt b o cs):w1.rangeAt b o cs:=fun j v hv=>aA hb (h j v hv)
theorem zF2 {w:World} {g o:Nat} {x:Wr} (h:w.rangeAt g o (bL x)) (hx:x.2.size=96):(Instr.loadAt 200 (.pointer (some ⟨g,o,none⟩))).run p_ w=.ok (.agg (bL x).toArray) w:=
 run_loadAt_mid w g o _ _ _ h Tryz.underlying200 rfl (by rw[aY hx];exact gA)
end
section
open Go.RowKit Go.Joins
attribute [local go_sem ↓] Go.wp_at_zero Go.wp_at_succ
theorem zFk (pb:Nat) (q:Int) (x:Wr) (w:World) (hq:w.cell? ⟨pb,0,none⟩=some (.int .i64 q)):
  Calls p_ 280 #[.agg (bL x).toArray,.pointer (some ⟨pb,0,none⟩)] w fun e w'=>e=.returned (.bool (x.1==q))/\Below w.heap.size w w':=by
 have hpb:pb<w.heap.size:=World.block_lt_of_cell? _ _ hq;have h0:(bL x)[0]?=some (.int .i64 x.1):=rfl;generalize bL x=cs at *;generalize x.1=b at *;go_enter Tryz.func280,Tryz.ntmps280;go_wp2;go_ret;exact⟨rfl,(r_ _ _).alloc (n_ _) _⟩
def idxW (q:Int):List Wr->Option Nat
 | []=>none
 | x::l=>if x.1==q then some 0 else (idxW q l).map (·+1)
def idxN (q:Int) (l:List Wr):Int:=match idxW q l with|some i=>i|none=>-1
theorem zBa {q:Int}:∀ {l:List Wr} {k:Nat},(∀ i (h:i<l.length),i<k->(l[i].1==q)=false)->∀ (hk:k<l.length),(l[k].1==q)=true->idxW q l=some k
 | [],_,_,hk,_=>by cases hk
 | x::l,0,_,_,e=>by unfold idxW;rw[show(x.1==q)=true from e];rfl
 | x::l,k+1,h,hk,e=>by
  unfold idxW;rw[show(x.1==q)=false from h 0 (by simp) (by omega),zBa (k:=k) (fun i hi hl=>h (i+1) (by simpa using hi) (by omega)) (by simpa using hk) e];rfl
theorem zBJ {q:Int}:∀ {l:List Wr},(∀ i (h:i<l.length),(l[i].1==q)=false)->idxW q l=none
 | [],_=>rfl
 | x::l,h=>by
  unfold idxW;rw[show(x.1==q)=false from h 0 (by simp),zBJ (fun i hi=>h (i+1) (by simpa using hi))];rfl
theorem zKB (pb:Nat) (q:Int) (g cap:Nat) (l:List Wr) (B:Nat) (w:World) (hq:w.cell? ⟨pb,0,none⟩=some (.int .i64 q)) (h:ownW w B (.slice (some ⟨g,0,none⟩) l.length cap) l) (hl:l.length<=1000):
  Calls p_ 315 #[.slice (some ⟨g,0,none⟩) l.length cap,.func (.func 280) #[] #[.pointer (some ⟨pb,0,none⟩)]] w fun e w'=>e=.returned (.int .i64 (idxN q l))/\Below w.heap.size w w':=by
 have H:=hide h;have HQ:=hide hq;clear h hq;go_enter Tryz.func315,Tryz.ntmps315;go_wp2
 go_loopw [8] (fun i wr=>∃ k:Nat,k<=l.length/\i=.int .i64 (k:Int)/\(∀ j (h:j<l.length),j<k->(l[j].1==q)=false)/\Below w.heap.size w wr) (fun i _=>l.length-(intOf i).toNat)
 case atStart=>exact⟨0,Nat.zero_le _,rfl,fun j _ hj=>by omega,r_ _ _⟩
 case round=>
  obtain⟨k,hk,rfl,hno,hB⟩:=hrel;have HNO:=hide hno;clear hno;by_cases hlt:k<l.length
  ·have hlt':(k:Int)<(l.length:Int):=by omega
   have HLD:=hide (mF hB (yM H.out hlt));have HLS:=hide (H.out.2 _ (List.getElem_mem hlt));have HH:=fun W hW=>hide (zFk pb q l[k] W hW);have HE:∀ b,(l[k].1==q)=b->Hid ((l[k].1==q)=b):=fun _ h=>h;generalize hx:l[k]=x at *;have HX:=hide hx;clear hx
   cases hb:(x.1==q) with
   | true=>
    have HR:Hid (idxN q l=k):=by
     unfold idxN;rw[zBa HNO.out hlt (by rw[HX.out];exact hb)];rfl
    go_wp2_with (first
     | (go_at_call 280;refine(HH _ (aA hB HQ.out)).out.mono ?_;rintro e w1 ⟨rfl,hb1⟩)
     | (refine wpList_load_mid (by rfl) 200 _ (by rfl) g (k*97) (by rfl) (bL x) _ HLD.out Tryz.underlying200 (by rfl) (by rw[aY HLS.out];exact gA) ?_))
    go_ret;exact⟨iJ HR.out.symm,aB hB (n_ _) hb1⟩
   | false=>
    go_wp2_with (first
     | (go_at_call 280;refine(HH _ (aA hB HQ.out)).out.mono ?_;rintro e w1 ⟨rfl,hb1⟩)
     | (refine wpList_load_mid (by rfl) 200 _ (by rfl) g (k*97) (by rfl) (bL x) _ HLD.out Tryz.underlying200 (by rfl) (by rw[aY HLS.out];exact gA) ?_))
    exact⟨⟨k+1,by omega,by go_num,fun j h hj=>by
     by_cases e:j=k
     ·subst e;rw[HX.out];exact hb
     ·exact HNO.out j h (by omega),aB hB (n_ _) hb1⟩,by simp[intOf];omega⟩
  ·have ek:k=l.length:=by omega
   subst ek;have HR:Hid (idxN q l=-1):=by
    unfold idxN;rw[zBJ fun i hi=>HNO.out i hi hi];rfl
   have lk:¬(l.length:Int)<(l.length:Int):=by omega
   go_wp2;go_ret;exact⟨iJ HR.out.symm,hB⟩
end
section
open Go.RowKit Go.Joins
theorem wD {α:Type} (L:List α) (o:Nat):splice L o []=L:=by simp[splice]
theorem wI {α:Type} (L:List α) (o:Nat) (v:α) (vs:List α) (h:o<L.length):splice (L.set o v) (o+1) vs=splice L o (v::vs):=by
 unfold splice;have h1:(L.set o v).take (o+1)=L.take o++[v]:=by
  rw[List.take_set];rw[List.take_succ_eq_append_getElem h,List.set_append_right _ _ (by rw[List.length_take];omega),show o-(L.take o).length=0 by simp;omega];rfl
 have h2:(L.set o v).drop (o+1+vs.length)=L.drop (o+(v::vs).length):=by
  rw[List.drop_set,if_pos (by omega),List.length_cons];congr 1;omega
 rw[h1,h2];simp
theorem mS {α:Type} (L:List α) (o:Nat) (cs:List α) (h:o+cs.length<=L.length) (j:Nat):(splice L o cs)[j]?=if j<o then L[j]? else if j<o+cs.length then cs[j-o]? else L[j]?:=by
 unfold splice;by_cases h1:j<o
 ·rw[if_pos h1,List.getElem?_append_left (by rw[List.length_take];omega),List.getElem?_take_of_lt h1]
 ·rw[if_neg h1,List.getElem?_append_right (by rw[List.length_take];omega)];have e:j-(L.take o).length=j-o:=by rw[List.length_take];omega
  rw[e];by_cases h2:j<o+cs.length
  ·rw[if_pos h2,List.getElem?_append_left (by omega)]
  ·rw[if_neg h2,List.getElem?_append_right (by omega),List.getElem?_drop];congr 1;omega
theorem zOd {α:Type} {a b:List α} {n:Nat}:(a++b).take (a.length+n)=a++b.take n:=by rw[List.take_append,List.take_of_length_le (by omega),show a.length+n-a.length=n by omega]
theorem zN9 {α:Type} {a b:List α} {n:Nat}:(a++b).drop (a.length+n)=b.drop n:=by rw[List.drop_append,List.drop_of_length_le (by omega),show a.length+n-a.length=n by omega,List.nil_append]
theorem uV {α:Type} {f:α->List Value} {z:Nat} {l:List α} (h:∀ x∈l,(f x).length=z) (i:Nat) (hi:i<l.length) (x:α) (hx:(f x).length=z):splice (l.flatMap f) (i*z) (f x)=(l.set i x).flatMap f:=by
 induction l generalizing i with
 | nil=>cases hi
 | cons y l ih=>
  have hy:=h y (List.mem_cons_self ..)
  cases i with
  | zero=>
   unfold splice;rw[List.set_cons_zero,List.flatMap_cons,List.flatMap_cons,Nat.zero_mul,List.take_zero,List.nil_append,Nat.zero_add,hx,<-hy,List.drop_left]
  | succ i=>
   have e:=ih (fun a ha=>h a (List.mem_cons_of_mem _ ha)) i (by simpa using hi);rw[List.set_cons_succ,List.flatMap_cons,List.flatMap_cons,<-e];unfold splice;have e2:(i+1)*z=(f y).length+i*z:=by rw[hy,Nat.succ_mul];omega
   rw[e2,zOd,Nat.add_assoc,zN9];rw[List.append_assoc]
theorem eY (g:Nat) (t:TypeId) (fr:Nat×Nat):∀ (vs:List Value) (o:Nat) (w:World) (cur:List Value),w.heap[g]?=some (.cells cur.toArray t fr)->o+vs.length<=cur.length->(w.setCells g o vs).heap[g]?=some (.cells (splice cur o vs).toArray t fr)
 | [],o,w,cur,h,_=>by rw[wD];exact h
 | v::vs,o,w,cur,h,hl=>by
  have hl':o+(vs.length+1)<=cur.length:=hl;rw[World.setCells,<-wI cur o v vs (by omega)];refine eY g t fr vs (o+1) _ (cur.set o v) ?_ (by rw[List.length_set];omega);rw[setCell_eq_setRow w g o cur.toArray t fr v h,setRow_heap w g cur.toArray _ t fr h];congr 2;apply Array.ext';simp
theorem jV (g:Nat) (t:TypeId) (fr:Nat×Nat):∀ (vs:List Value) (o:Nat) (w:World) (cur:List Value),w.heap[g]?=some (.cells cur.toArray t fr)->o+vs.length<=cur.length->w.setCells g o vs=w.setRow g (splice cur o vs).toArray
 | [],o,w,cur,h,_=>by rw[wD,setRow_self w g cur.toArray t fr h];rfl
 | v::vs,o,w,cur,h,hl=>by
  have hl':o+(vs.length+1)<=cur.length:=hl;have e:w.setCell ⟨g,o,none⟩ v=w.setRow g (cur.set o v).toArray:=by
   rw[setCell_eq_setRow w g o cur.toArray t fr v h];congr 1;apply Array.ext';simp
  rw[World.setCells,<-wI cur o v vs (by omega),e,jV g t fr vs (o+1) _ (cur.set o v) (setRow_heap w g cur.toArray _ t fr h) (by rw[List.length_set];omega),setRow_setRow]
theorem rL {w:World} {g:Nat} {cur:List Value} {t:TypeId} (h:w.heap[g]?=some (.cells cur.toArray t (0,0))) {o n:Nat} (hl:o+n<=cur.length):w.there g o n:=fun j hj=>by
 refine⟨?_,by simp[World.frozen?,h]⟩;rw[cell_of_row w g (o+j) cur.toArray t (0,0) h];simp;omega
theorem jD {w:World} {g:Nat} {cur:List Value} {t:TypeId} {fr:Nat×Nat} (h:w.heap[g]?=some (.cells cur.toArray t fr)) {o:Nat} {cs:List Value} (hc:∀ j,j<cs.length->cur[o+j]?=cs[j]?):w.rangeAt g o cs:=fun j v hv=>by
 have hj:j<cs.length:=(List.getElem?_eq_some_iff.1 hv).1;rw[cell_of_row w g (o+j) cur.toArray t fr h,List.getElem?_toArray,hc j hj,hv]
theorem uY {P:Program} (w:World) (dT sT ty elem:TypeId) (size g o dLen dCap m:Nat) (src:Value) (cur:List Value) (t:TypeId) (cs:List Value) (hu:P.underlying dT=some (.slice elem)) (hs:(P.info? elem).map (·.size)=some size)
  (hg:w.heap[g]?=some (.cells cur.toArray t (0,0))) (hm:(Builtin.lenOf src).run P w=.ok m w) (hf:(Builtin.firstCells size (Nat.min m dLen) src).run P w=.ok cs.toArray w) (hfit:o+cs.length<=cur.length) (h1:∀ v∈cs,v.oneCell'=true):
  (Builtin.copy_ #[dT,sT] ty #[.slice (some ⟨g,o,none⟩) dLen dCap,src]).run P w=.ok (goInt (Nat.min m dLen)) (w.setCells g o cs):=by
 have hst:=run_storeCells_at P g o t cs 0 cur.toArray w hg (by simpa using hfit) h1;have e:w.setRow g (cur.toArray.toList.take (o+0)++cs++cur.toArray.toList.drop (o+0+cs.length)).toArray=w.setCells g o cs:=by
  rw[jV g t (0,0) cs o w cur hg hfit];simp[splice]
 rw[e] at hst
 cases hq:P.info? elem with
 | none=>simp[hq] at hs
 | some i=>
  have hi:i.size=size:=by simpa[hq] using hs
  simp[Builtin.copy_,run_underlying hu,hm,hf,hst,hq,hi,typeInfo,sizeOf]
theorem zBB {P:Program} (w:World) (C:Array Value) (t:TypeId) (vs:List Value) (h:vs.length=C.size) (h1:∀ v∈vs,v.oneCell'=true):(storeCells ⟨w.heap.size,0,none⟩ vs).run P (w.alloc (.cells C t))=.ok () (w.alloc (.cells vs.toArray t)):=by
 have hst:=run_storeCells_at P w.heap.size 0 t vs 0 C (w.alloc (.cells C t)) (Go.heap_alloc_new w _) (by omega) h1;have e:(w.alloc (.cells C t)).setRow w.heap.size (C.toList.take (0+0)++vs++C.toList.drop (0+0+vs.length)).toArray=w.alloc (.cells vs.toArray t):=by
  have e1:C.toList.take (0+0)++vs++C.toList.drop (0+0+vs.length)=vs:=by
   rw[List.take_zero,List.nil_append,List.drop_of_length_le (by simp;omega),List.append_nil]
  rw[e1];unfold World.setRow World.alloc
  cases w with
  | mk heap tape drawn os output=>
   congr 1;apply Array.ext
   ·simp
   ·intro k h1 h2;simp only[Array.getElem_modify,Array.getElem_push];split
    ·rename_i hk;subst hk;simp
    ·rename_i hk;have hlt:k<heap.size:=by simp at h2;omega
     rw[dif_pos hlt,dif_pos hlt]
 rw[e] at hst;exact hst
theorem oJ {P:Program} (w:World) (t e ty:TypeId) (z:Value) (ht:P.underlying t=some (.slice e)) (hv:∀ w,(zeroValue e).run P w=.ok z w) (h1:∀ v∈z.cells,v.oneCell'=true) (g o n c:Nat) (cur:List Value) (t':TypeId)
  (hg:w.heap[g]?=some (.cells cur.toArray t' (0,0))) (hfit:o+n*z.cells.size<=cur.length):
  (Builtin.clear_ #[t] ty #[.slice (some ⟨g,o,none⟩) n c]).run P w=.ok (.tuple #[]) (w.setCells g o (Builtin.zeroCells z.cells n).toList):=by
 have hz1:∀ v∈(Builtin.zeroCells z.cells n).toList,v.oneCell'=true:=by
  intro v hv';unfold Builtin.zeroCells at hv';simp only[Array.toList_map,List.mem_map] at hv';obtain⟨i,hi,rfl⟩:=hv';have hi':i<n*z.cells.size:=by simpa using hi
  have hp:0<z.cells.size:=by
   rcases Nat.eq_zero_or_pos z.cells.size with e|e
   ·rw[e] at hi';omega
   ·exact e
  have hm:i % z.cells.size<z.cells.size:=Nat.mod_lt _ hp;rw[getElem!_pos z.cells _ hm];exact h1 _ (by simp)
 have hst:=run_storeCells_at P g o t' (Builtin.zeroCells z.cells n).toList 0 cur.toArray w hg (by simpa[Builtin.zeroCells] using hfit) hz1;have e2:w.setRow g (cur.toArray.toList.take (o+0)++(Builtin.zeroCells z.cells n).toList++cur.toArray.toList.drop (o+0+(Builtin.zeroCells z.cells n).toList.length)).toArray=w.setCells g o (Builtin.zeroCells z.cells n).toList:=by
  rw[jV g t' (0,0) _ o w cur hg (by simpa[Builtin.zeroCells] using hfit)];simp[splice]
 rw[e2] at hst
 cases n with
 | zero=>
  have:(Builtin.zeroCells z.cells 0).toList=[]:=by simp[Builtin.zeroCells]
  rw[this];simp[Builtin.clear_,run_underlying ht];rfl
 | succ m=>simp[Builtin.clear_,run_underlying ht,hv,hst]
end
section
open Go.RowKit Go.Joins
attribute [local go_sem ↓] Go.wp_at_zero Go.wp_at_succ
def offW (q:Int) (l:List Wr):List Wr:=l.filter fun x=>!(x.1==q)
theorem zA2 {q:Int} {l:List Wr} {k:Nat} (hk:k<l.length):offW q (l.take (k+1))=offW q (l.take k)++if (l[k].1==q) then [] else [l[k]]:=by
 unfold offW;rw[List.take_succ_eq_append_getElem hk,List.filter_append];cases h:(l[k].1==q)<;>simp[h]
theorem zHK {q:Int} {l:List Wr} (h:idxW q l=none):offW q l=l:=by
 induction l with
 | nil=>rfl
 | cons x l ih=>
  unfold idxW at h
  cases e:(x.1==q) with
  | true=>rw[e] at h;simp at h
  | false=>
   rw[e] at h;have h':idxW q l=none:=by simpa using h
   show List.filter _ (x::l)=x::l;rw[List.filter_cons,e];have:=ih h';unfold offW at this;simp[this]
theorem zBK {q:Int}:∀ {l:List Wr} {k:Nat},idxW q l=some k->∃ hk:k<l.length,(l[k].1==q)=true/\offW q (l.take k)=l.take k
 | [],_,h=>by cases h
 | x::l,k,h=>by
  unfold idxW at h
  cases e:(x.1==q) with
  | true=>
   rw[e] at h;have h':0=k:=by simpa using h
   subst h';exact⟨by simp,e,rfl⟩
  | false=>
   rw[e] at h
   cases hk:idxW q l with
   | none=>rw[hk] at h;simp at h
   | some j=>
    rw[hk] at h;have h':j+1=k:=by simpa using h
    subst h';obtain⟨a,b,c⟩:=zBK hk;refine⟨by simpa using a,b,?_⟩;unfold offW at c ⊢;rw[List.take_succ_cons,List.filter_cons,e,c];rfl
theorem zD2 (q:Int) (l:List Wr):(offW q l).length<=l.length:=List.length_filter_le _ _
theorem zKj {w:World} {B g cap:Nat} {L:List Wr} (h:ownW w B (.slice (some ⟨g,0,none⟩) L.length cap) L) (i:Nat) (hi:i<L.length) (x:Wr) (hx:x.2.size=96):ownW (w.setCells g (i*97) (bL x)) B (.slice (some ⟨g,0,none⟩) L.length cap) (L.set i x):=by
 obtain⟨⟨hlen,h2⟩,hs⟩:=h;have hs':∀ y∈L.set i x,y.2.size=96:=fun y hy=>(List.mem_or_eq_of_mem_set hy).elim (hs y) (fun e=>by rw[e];exact hx);rcases h2 with⟨e,_⟩|⟨g',cap',cur,e,hB,hg,h3,h4,h5,h6⟩
 ·cases e
 ·cases e;refine⟨⟨by rw[cC (z:=97) (fun y hy=>aY (hs' y hy))],.inr ⟨g,cap,(splice cur.toList (i*97) (bL x)).toArray,by rw[List.length_set],hB,?_,by rw[List.length_set];exact h3,h4,?_,?_⟩⟩,hs'⟩
  ·refine eY g _ (0,0) _ _ w cur.toList (by simpa using hg) ?_;rw[aY hx,Array.length_toList,h5];omega
  ·rw[List.size_toArray,length_splice _ _ _ (by rw[aY hx,Array.length_toList,h5];omega),Array.length_toList,h5]
  ·rw[List.length_set];have hc:∀ y∈L,(bL y).length=97:=fun y hy=>aY (hs y hy);rw[<-uV hc i hi x (aY hx),<-h6];apply List.ext_getElem?;intro j;have hb:i*97+(bL x).length<=cur.toList.length:=by rw[aY hx,Array.length_toList,h5];omega
   have hb2:i*97+(bL x).length<=(cur.toList.take (L.length*97)).length:=by rw[h6,cC hc,aY hx];omega
   rw[mS _ _ _ hb2,List.getElem?_take];by_cases hj:j<L.length*97
   ·rw[if_pos hj,mS _ _ _ hb,List.getElem?_take,if_pos hj]
   ·rw[if_neg hj,List.getElem?_take,if_neg hj,if_neg (by omega),if_neg (by rw[aY hx];omega)]
theorem zKZ {w:World} {B g cap:Nat} {L R:List Wr} (h:ownW w B (.slice (some ⟨g,0,none⟩) L.length cap) L) (hR:L.take R.length=R):ownW w B (.slice (some ⟨g,0,none⟩) R.length cap) R:=by
 obtain⟨⟨hlen,h2⟩,hs⟩:=h;have hRL:R.length<=L.length:=by have:=congrArg List.length hR;rw[List.length_take] at this;omega
 have hs':∀ y∈R,y.2.size=96:=fun y hy=>hs y (List.mem_of_mem_take (by rw[hR];exact hy));rcases h2 with⟨e,_⟩|⟨g',cap',cur,e,hB,hg,h3,h4,h5,h6⟩
 ·cases e
 ·cases e;refine⟨⟨cC (z:=97) fun y hy=>aY (hs' y hy),.inr ⟨g,cap,cur,rfl,hB,hg,by omega,h4,h5,?_⟩⟩,hs'⟩;have e1:cur.toList.take (R.length*97)=(L.flatMap bL).take (R.length*97):=by rw[<-h6,List.take_take];congr 1;omega
  rw[e1]
  conv=>lhs;rw[<-List.take_append_drop R.length L,hR,List.flatMap_append]
  rw[List.take_append_of_le_length (by rw[cC (z:=97) fun y hy=>aY (hs' y hy)];omega),List.take_of_length_le (by rw[cC (z:=97) fun y hy=>aY (hs' y hy)];omega)]
theorem zIu {w:World} {B g cap:Nat} {R:List Wr} (h:ownW w B (.slice (some ⟨g,0,none⟩) R.length cap) R) (zs:List Value) (hz:R.length*97+zs.length<=cap*97):ownW (w.setCells g (R.length*97) zs) B (.slice (some ⟨g,0,none⟩) R.length cap) R:=by
 obtain⟨⟨hlen,h2⟩,hs⟩:=h;rcases h2 with⟨e,_⟩|⟨g',cap',cur,e,hB,hg,h3,h4,h5,h6⟩
 ·cases e
 ·cases e;have hcl:cur.toList.length=cap*97:=(Array.length_toList ..).trans h5;have hb:R.length*97+zs.length<=cur.toList.length:=by rw[hcl];exact hz
  refine⟨⟨hlen,.inr ⟨g,cap,(splice cur.toList (R.length*97) zs).toArray,rfl,hB,eY g _ (0,0) _ _ w cur.toList (by simpa using hg) hb,h3,h4,?_,?_⟩⟩,hs⟩
  ·rw[List.size_toArray,length_splice _ _ _ hb,Array.length_toList,h5]
  ·rw[<-h6];unfold splice;rw[List.take_append_of_le_length (by rw[List.length_take,hcl];omega),List.take_take];congr 1;omega
theorem zFK {w:World} {B g cap:Nat} {L:List Wr} (h:ownW w B (.slice (some ⟨g,0,none⟩) L.length cap) L) {i:Nat} (hi:i<L.length):w.there g (i*97) 97:=by
 rcases h.1.2 with⟨e,_⟩|⟨g',cap',cur,e,hB,hg,h3,h4,h5,h6⟩
 ·cases e
 ·cases e;exact rL (cur:=cur.toList) (by simpa using hg) (by rw[Array.length_toList,h5];omega)
theorem zFR {w:World} {B g cap:Nat} {L:List Wr} (h:ownW w B (.slice (some ⟨g,0,none⟩) L.length cap) L):∃ cur:List Value,w.heap[g]?=some (.cells cur.toArray 200 (0,0))/\cur.length=cap*97:=by
 rcases h.1.2 with⟨e,_⟩|⟨g',cap',cur,e,hB,hg,h3,h4,h5,h6⟩
 ·cases e
 ·cases e;exact⟨cur.toList,by simpa using hg,by rw[Array.length_toList,h5]⟩
theorem gD {w w':World} {B:Nat} {v:Value} {l:List Wr} (h:ownW w B v l) (hk:∀ k,v.ownBlock=some k->w'.heap[k]?=w.heap[k]?):ownW w' B v l:=by
 refine⟨⟨h.1.1,?_⟩,h.2⟩;rcases h.1.2 with e|⟨g,cap,cur,rfl,hB,hg,h3⟩
 ·exact .inl e
 ·exact .inr ⟨g,cap,cur,rfl,hB,(hk g rfl).trans hg,h3⟩
theorem dW {B g:Nat} {a:World} (hb:B<=g):∀ (vs:List Value) (o:Nat) (w:World),Below B a w->Below B a (w.setCells g o vs)
 | [],_,_,h=>h
 | v::vs,o,_,h=>dW hb vs (o+1) _ (h.setCell (p:=⟨g,o,none⟩) hb v)
theorem cA (g:Nat):∀ (vs:List Value) (o:Nat) (w:World) {k:Nat},k≠g->(w.setCells g o vs).heap[k]?=w.heap[k]?
 | [],_,_,_,_=>rfl
 | _::vs,o,_,_,h=>(cA g vs (o+1) _ h).trans (h_ _ _ _ _ h)
structure zGJ (w w':World) (B g:Nat) (v:Value) (l:List Wr):Prop where
 own:ownW w' B v l
 bel:Below B w w'
 far:∀ k,k≠g->k<w.heap.size->w'.heap[k]?=w.heap[k]?
theorem zFW:∃ z:Value,(∀ w,(zeroValue 200).run p_ w=.ok z w)/\z.cells.size=97/\∀ v∈z.cells,v.oneCell'=true:=by
 have h:(Tryz.prog.info? 200).bind (fun i=>i.zero.map fun z=>(z.cells.size,z.cells.all (·.oneCell')))=some (97,true):=by kernel_rfl
 cases hi:Tryz.prog.info? 200 with
 | none=>rw[hi] at h;cases h
 | some i=>
  rw[hi] at h
  cases hz:i.zero with
  | none=>simp[hz] at h
  | some z=>
   simp only[Option.bind_some,hz,Option.map_some,Option.some.injEq,Prod.mk.injEq] at h;exact⟨z,fun w=>by simp[zeroValue,typeInfo,hi,hz],h.1,fun v hv=>Array.all_eq_true_iff_forall_mem.1 h.2 v hv⟩
end
structure DSt where
 now:List ByteArray
 kept:List ByteArray
 wait:List (Nat×ByteArray)
 left:Int
 down:Bool
def pA (k:Int) (b:Nat):Bool:=Go.bits .and .u64 (k / 2 ^ b) 1==1
def oP (k:Int) (l:List Wr) (d:ByteArray):ByteArray:=l.foldl (fun d x=>if pA k x.1.toNat then x.2 else d) d
def kJ (i:Nat) (l:List (Nat×ByteArray)) (at_:Nat):List Wr:=match l with
 | []=>[]
 | x::l=>if x.1=at_ then (((i % 64:Nat):Int),x.2)::kJ (i+1) l at_ else kJ (i+1) l at_
def fJ (k:Int) (i:Nat) (l:List (Nat×ByteArray)) (K:List ByteArray):List ByteArray:=match l with
 | []=>K
 | x::l=>fJ k (i+1) l (if pA k (i % 64) then K.set x.1 x.2 else K)
def bD (n:Nat):ByteArray:=⟨(List.replicate n 0).toArray⟩
def aH (s:ByteArray):ByteArray:=⟨(s.data.toList++List.replicate (96-s.size) 0).toArray⟩
def qQ (n:Nat):DSt:=⟨List.replicate n (bD 96),List.replicate n (bD 96),[],-1,false⟩
def cD (s:DSt):Nat:=if s.down || s.left==0 then 10 else 0
def bR (s:DSt):DSt:=if s.down then s else if s.left==0 then { s with down:=true } else { s with left:=if 0<s.left then s.left-1 else s.left }
def dO (s:DSt) (at_:Int) (d:ByteArray):Nat:=if at_<0∨(s.now.length:Int)<=at_∨96<d.size then 1 else cD s
def sG (s:DSt) (at_:Nat) (d:ByteArray):DSt:={ s with now:=s.now.set at_ d,wait:=s.wait++[(at_,d)] }
def cV (s:DSt) (at_:Int) (d:ByteArray):DSt:=if at_<0∨(s.now.length:Int)<=at_∨96<d.size then s else if cD s=0 then sG (bR s) at_.toNat (aH d) else bR s
def bZ (s:DSt):DSt:=if cD s=0 then { bR s with kept:=s.now,wait:=[] } else bR s
def lI (s:DSt) (at_:Int):Nat:=if s.down then 10 else if at_<0∨(s.now.length:Int)<=at_ then 1 else 0
def nX (s:DSt) (at_:Int):ByteArray:=if lI s at_=0 then s.now[at_.toNat]?.getD ⟨#[]⟩ else ⟨#[]⟩
def kR (s:DSt) (k:Int):DSt:=⟨fJ k 0 s.wait s.kept,fJ k 0 s.wait s.kept,[],-1,false⟩
structure jK (n:Nat) (wait:List (Nat×ByteArray)) (loose:List (List Wr)):Prop where
 len:loose.length=n
 at_:∀ x∈wait,x.1<n
 same:∀ i (h:i<loose.length) k d,oP k loose[i] d=oP k (kJ 0 wait i) d
 bits:∀ i (h:i<loose.length),(∀ x∈loose[i],0<=x.1/\x.1<64/\x.2.size=96)/\(loose[i].map (·.1)).Nodup
theorem sJ {s:ByteArray} (h:s.size<=96):(aH s).size=96:=by
 show(s.data.toList++List.replicate (96-s.size) 0).length=96;have e:s.data.toList.length=s.size:=by rw[Array.length_toList];rfl
 rw[List.length_append,List.length_replicate,e];omega
theorem zEt (n:Nat):(bD n).size=n:=by show(List.replicate n (0:UInt8)).length=n;simp
theorem zCd (l:List (Nat×ByteArray)) (a:Nat) (d:ByteArray) (at_:Nat):∀ i,kJ i (l++[(a,d)]) at_=kJ i l at_++if a=at_ then [((((i+l.length) % 64:Nat):Int),d)] else []:=by
 induction l with
 | nil=>intro i;simp only[List.nil_append,kJ,List.length_nil,Nat.add_zero]
 | cons x l ih=>
  intro i;have e:i+1+l.length=i+(x::l).length:=by rw[List.length_cons];omega
  simp only[List.cons_append,kJ,ih (i+1),e];split<;>simp
theorem zE (k:Int) (l:List Wr) (x:Wr) (d:ByteArray):oP k (l++[x]) d=if pA k x.1.toNat then x.2 else oP k l d:=by
 unfold oP;rw[List.foldl_append];rfl
theorem zId (k q:Int) (l:List Wr) (h:pA k q.toNat=false):∀ d,oP k (offW q l) d=oP k l d:=by
 induction l with
 | nil=>intro d;rfl
 | cons x l ih=>
  intro d;unfold offW;rw[List.filter_cons]
  cases e:(x.1==q) with
  | true=>
   have e':x.1=q:=by simpa using e
   have ih':=ih d;unfold offW at ih';simp only[Bool.not_true,Bool.false_eq_true,if_false];rw[ih'];show oP k l d=oP k l (if pA k x.1.toNat then x.2 else d);rw[e',h];rfl
  | false=>simp only[Bool.not_false,if_true];exact ih _
theorem zDh:∀ (n:Nat) (l:List Int),l.Nodup->(∀ x∈l,0<=x/\x<n)->l.length<=n
 | 0,l,_,h=>by
  cases l with
  | nil=>simp
  | cons x l=>have:=h x (List.mem_cons_self ..);omega
 | n+1,l,hn,h=>by
  have h1:(l.filter (fun x=>!(x==(n:Int)))).length<=n:=zDh n _ (hn.filter _) fun x hx=>by
   obtain⟨a,b⟩:=List.mem_filter.1 hx;have:=h x a;have:x≠(n:Int):=by simpa using b
   omega
  have h2:l.length<=(l.filter (fun x=>!(x==(n:Int)))).length+1:=by
   clear h h1
   induction l with
   | nil=>simp
   | cons x l ih=>
    rw[List.nodup_cons] at hn;rw[List.filter_cons]
    cases e:(x==(n:Int)) with
    | true=>
     have e':x=(n:Int):=by simpa using e
     simp only[Bool.not_true,Bool.false_eq_true,if_false,List.length_cons];have:l.filter (fun x=>!(x==(n:Int)))=l:=by
      rw[List.filter_eq_self];intro y hy;have:y≠(n:Int):=fun e2=>hn.1 (by rw[e',<-e2];exact hy);simpa using this
     rw[this];omega
    | false=>
     simp only[Bool.not_false,if_true,List.length_cons];have:=ih hn.2;omega
  omega
theorem jK.short {n:Nat} {wait:List (Nat×ByteArray)} {loose:List (List Wr)} (h:jK n wait loose) {i:Nat} (hi:i<loose.length):loose[i].length<=64:=by
 have:=zDh 64 _ (h.bits i hi).2 (fun x hx=>by
  obtain⟨y,hy,rfl⟩:=List.mem_map.1 hx;have:=(h.bits i hi).1 y hy;exact⟨this.1,this.2.1⟩)
 rwa [List.length_map] at this
theorem jK.none (n:Nat):jK n [] (List.replicate n []):=
 ⟨by simp,fun _ h=>(List.not_mem_nil h).elim,fun i h k d=>by simp[kJ],fun i h=>by simp⟩
theorem jK.note {n:Nat} {wait:List (Nat×ByteArray)} {loose:List (List Wr)} (h:jK n wait loose) {at_:Nat} (ha:at_<loose.length) {d:ByteArray} (hd:d.size=96):
  jK n (wait++[(at_,d)]) (loose.set at_ (offW ((wait.length % 64:Nat):Int) loose[at_]++[(((wait.length % 64:Nat):Int),d)])):=by
 refine⟨by rw[List.length_set,h.len],fun x hx=>?_,fun i hi k e=>?_,fun i hi=>?_⟩
 ·rcases List.mem_append.1 hx with hx|hx
  ·exact h.at_ x hx
  ·rw[List.mem_singleton] at hx;rw[hx,<-h.len];exact ha
 ·rw[List.length_set] at hi;rw[zCd,Nat.zero_add];by_cases e2:at_=i
  ·subst e2;rw[List.getElem_set_self,if_pos rfl,zE,zE,Int.toNat_natCast]
   cases hb:pA k (wait.length % 64) with
   | true=>rfl
   | false=>
    simp only[Bool.false_eq_true,if_false];rw[zId _ _ _ (by rw[Int.toNat_natCast];exact hb)];exact h.same at_ hi k e
  ·rw[List.getElem_set_ne e2,if_neg e2,List.append_nil];exact h.same i hi k e
 ·rw[List.length_set] at hi;by_cases e2:at_=i
  ·subst e2;rw[List.getElem_set_self];obtain⟨h1,h2⟩:=h.bits at_ hi;have hm:wait.length % 64<64:=Nat.mod_lt _ (by omega);refine⟨fun x hx=>?_,?_⟩
   ·rcases List.mem_append.1 hx with hx|hx
    ·exact h1 x (List.mem_filter.1 hx).1
    ·rw[List.mem_singleton] at hx;rw[hx];exact⟨by show(0:Int)<=((wait.length % 64:Nat):Int);omega,by show((wait.length % 64:Nat):Int)<64;omega,hd⟩
   ·rw[List.map_append,List.nodup_append];refine⟨?_,by simp,fun a ha b hb=>?_⟩
    ·exact h2.sublist (List.Sublist.map _ List.filter_sublist)
    ·obtain⟨y,hy,rfl⟩:=List.mem_map.1 ha;have hy2:=(List.mem_filter.1 hy).2;simp only[List.map_cons,List.map_nil,List.mem_singleton] at hb;rw[hb];simpa using hy2
  ·rw[List.getElem_set_ne e2];exact h.bits i hi
section
open Go.RowKit Go.Joins
structure aG (w w':World) (B:Nat) (S S':Nat->Prop):Prop where
 bel:Below B w w'
 far:∀ j,j<w.heap.size->¬S j->w'.heap[j]?=w.heap[j]?/\¬S' j
theorem aG.trans {w w1 w2:World} {B:Nat} {S S1 S2:Nat->Prop} (h:aG w w1 B S S1) (h':aG w1 w2 B S1 S2):aG w w2 B S S2:=
 ⟨h.bel.trans h'.bel,fun j hj hn=>by
  obtain⟨a,b⟩:=h.far j hj hn;obtain⟨c,d⟩:=h'.far j (Nat.lt_of_lt_of_le hj h.bel.size) b;exact⟨c.trans a,d⟩⟩
theorem aG.on {w w':World} {B:Nat} {S:Nat->Prop} (hB:B<=w.heap.size) (hb:Below w.heap.size w w'):aG w w' B S S:=⟨hb.mono hB,fun j hj hn=>⟨hb.block j hj,hn⟩⟩
theorem aG.refl {w:World} {B:Nat} {S:Nat->Prop} (hB:B<=w.heap.size):aG w w B S S:=.on hB (r_ _ _)
end
end Go.Proofs.YtnboipekkahmnaaGreatDoor
