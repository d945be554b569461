import Derived.Test.YtcfjimdfegejaaaGreatDoorQ00
set_option maxHeartbeats 8000000
set_option maxRecDepth 100000
namespace Go.Proofs.YtcfjimdfegejaaaGreatDoor
open Act renaming put→Y3
open AllReadyH renaming cons→q_,nil→A_
open IntKind renaming bits→V3,i64→G0,u8→U4,wrap→U3
open List renaming getElem_cons_succ→C0,getElem_cons_zero→ZZ,getElem_toArray→F0,setIfInBounds_toArray→QZ,set_cons_succ→P0,set_cons_zero→O0
open Or renaming inl→K5
open Go.Proofs.Tryz
open Go.RowKit.Below renaming refl→r_
open Nat renaming le_refl→n_
open Go.Proofs.Tryz renaming prog→p_
open Value renaming int→i_
open Go.Joins renaming below_alloc1→a_
section
open Go.RowKit Go.Joins
attribute [local go_sem ↓] Go.wp_at_zero Go.wp_at_succ
theorem zCx (k:Nat) (hk:k<256) (W:World) (b:Nat) (h:W.cell? ⟨b,0,none⟩=some (.int .u8 (k:Int))):(convert 226 9 (.slice (some ⟨b,0,none⟩) 1 1)).run p_ W=.ok (.string ⟨#[UInt8.ofNat k]⟩) W:=by
 have:=run_convert_bytes_back (P:=p_) W 226 9 5 ⟨b,0,none⟩ 1 [UInt8.ofNat k] underlying226 underlying5 underlying9 (fun j hj=>by
  have Dj:j=0:=by simp at hj;omega
  subst Dj;have e:(⟨b,0,none⟩:Addr).add 0=⟨b,0,none⟩:=by simp[Addr.add]
  rw[e,h];simp;omega)
 simpa using this
theorem zM (k n:Nat) (d:ByteArray) (hk:k<256) (hn:n<=2000000000) (hd:d.size<=90) (w:World):Calls p_ 250 #[.int .u8 (k:Int),.int .i64 (n:Int),.string d] w fun e w'=>e=.returned (.string (oe k n d))/\Below w.heap.size w w':=by
 have HF:=fun w=>aa (nK n hn w);have Yc:(d.size:Int)<=90:=by omega
 have Xb:(0:Int)<=(d.size:Int):=by omega
 have k3:U4.wrap (d.size:Int)=d.size:=by simp[U3,V3];omega
 have il:=zCx k hk;have Aj:=zCx d.size (by omega);have Gu:(dM n).size=4:=rfl;unfold oe;generalize dM n=ff at *;have FA:∀ w1,Below (w.alloc (KX (k:Int))).drew.heap.size (w.alloc (KX (k:Int))).drew w1->w1.cell? ⟨w.heap.size,0,none⟩=some (.int .u8 (k:Int))/\w.heap.size<w1.heap.size:=fun w1 hb=>⟨aA hb (aC w _ _ 0),by have:=hb.size;simp at this;omega⟩;have FB:∀ w1,Below (w.alloc (KX (d.size:Int))).drew.heap.size (w.alloc (KX (d.size:Int))).drew w1->w1.cell? ⟨w.heap.size,0,none⟩=some (.int .u8 (d.size:Int))/\w.heap.size<w1.heap.size:=fun w1 hb=>⟨aA hb (aC w _ _ 0),by have:=hb.size;simp at this;omega⟩;have WJ:∀ w1,Below (((w.alloc (KX (k:Int))).alloc (KX (d.size:Int))).drew).heap.size (((w.alloc (KX (k:Int))).alloc (KX (d.size:Int))).drew) w1->w1.cell? ⟨w.heap.size,0,none⟩=some (.int .u8 (k:Int))/\w1.cell? ⟨w.heap.size+1,0,none⟩=some (.int .u8 (d.size:Int))/\w.heap.size<w1.heap.size/\w.heap.size+1<w1.heap.size:=fun w1 hb=>by
  have h0:(w.alloc (KX (k:Int))).cell? ⟨w.heap.size,0,none⟩=some (.int .u8 (k:Int)):=aC w _ _ 0;have h1:((w.alloc (KX (k:Int))).alloc (KX (d.size:Int))).cell? ⟨w.heap.size,0,none⟩=some (.int .u8 (k:Int)):=aA (a_ _ _) h0;refine⟨aA hb h1,?_,?_,?_⟩
  ·have h:=aA hb (aC (w.alloc (KX (k:Int))) #[i_ .u8 (d.size:Int)] 5 0);have e:(w.alloc (KX (k:Int))).heap.size=w.heap.size+1:=by simp
   rw[e] at h;exact h
  ·have:=hb.size;simp at this;omega
  ·have:=hb.size;simp at this;omega
 have XJ:∀ w1,Below (((w.alloc (KX (d.size:Int))).alloc (KX (k:Int))).drew).heap.size (((w.alloc (KX (d.size:Int))).alloc (KX (k:Int))).drew) w1->w1.cell? ⟨w.heap.size,0,none⟩=some (.int .u8 (d.size:Int))/\w1.cell? ⟨w.heap.size+1,0,none⟩=some (.int .u8 (k:Int))/\w.heap.size<w1.heap.size/\w.heap.size+1<w1.heap.size:=fun w1 hb=>by
  have h0:(w.alloc (KX (d.size:Int))).cell? ⟨w.heap.size,0,none⟩=some (.int .u8 (d.size:Int)):=aC w _ _ 0;have h1:((w.alloc (KX (d.size:Int))).alloc (KX (k:Int))).cell? ⟨w.heap.size,0,none⟩=some (.int .u8 (d.size:Int)):=aA (a_ _ _) h0;refine⟨aA hb h1,?_,?_,?_⟩
  ·have h:=aA hb (aC (w.alloc (KX (d.size:Int))) #[i_ .u8 (k:Int)] 5 0);have e:(w.alloc (KX (d.size:Int))).heap.size=w.heap.size+1:=by simp
   rw[e] at h;exact h
  ·have:=hb.size;simp at this;omega
  ·have:=hb.size;simp at this;omega
 have CK:Hid (∀ w1,Below (((w.alloc (KX (k:Int))).alloc (KX (d.size:Int))).drew).heap.size (((w.alloc (KX (k:Int))).alloc (KX (d.size:Int))).drew) w1->Below w.heap.size w w1):=fun w1 h=>aB (aB (a_ _ _) (n_ _) (a_ _ _)).drew (by simp) h;have FK:Hid (∀ w1,Below (((w.alloc (KX (d.size:Int))).alloc (KX (k:Int))).drew).heap.size (((w.alloc (KX (d.size:Int))).alloc (KX (k:Int))).drew) w1->Below w.heap.size w w1):=fun w1 h=>aB (aB (a_ _ _) (n_ _) (a_ _ _)).drew (by simp) h;have Pq:Hid (∀ w1,Below ((w.alloc (KX (k:Int))).drew).heap.size ((w.alloc (KX (k:Int))).drew) w1->Below w.heap.size w w1):=fun w1 h=>aB (a_ _ _).drew (by simp) h;have UT:Hid (∀ w1,Below ((w.alloc (KX (d.size:Int))).drew).heap.size ((w.alloc (KX (d.size:Int))).drew) w1->Below w.heap.size w w1):=fun w1 h=>aB (a_ _ _).drew (by simp) h;replace FA:=aa FA;replace FB:=aa FB;replace WJ:=aa WJ;replace XJ:=aa XJ;have s1:¬9223372036854775807<1+ff.size+1+d.size:=by omega
 have s2:¬9223372036854775807<6+d.size:=by omega
 have s3:¬9223372036854775807<d.size+6:=by omega
 go_enter func250,ntmps250;go_wp2
 go_region_with ((go_at_call 245;refine((HF _).out).mono ?_;rintro e w1 ⟨rfl,hb⟩;(first
  | (have hT:Below (((w.alloc (KX (k:Int))).alloc (KX (d.size:Int))).drew).heap.size (((w.alloc (KX (k:Int))).alloc (KX (d.size:Int))).drew) w1:=hb;obtain⟨z0,z1,z2,z3⟩:=WJ.out w1 hT;have hW:=CK.out w1 hT;clear hT)
  | (have hT:Below (((w.alloc (KX (d.size:Int))).alloc (KX (k:Int))).drew).heap.size (((w.alloc (KX (d.size:Int))).alloc (KX (k:Int))).drew) w1:=hb;obtain⟨z0,z1,z2,z3⟩:=XJ.out w1 hT;have hW:=FK.out w1 hT;clear hT)
  | (have hT:Below ((w.alloc (KX (k:Int))).drew).heap.size ((w.alloc (KX (k:Int))).drew) w1:=hb;obtain⟨z0,z1⟩:=FA.out w1 hT;have hW:=Pq.out w1 hT;clear hT)
  | (have hT:Below ((w.alloc (KX (d.size:Int))).drew).heap.size ((w.alloc (KX (d.size:Int))).drew) w1:=hb;obtain⟨z0,z1⟩:=FB.out w1 hT;have hW:=UT.out w1 hT;clear hT)
  | (have hT:Below w.drew.heap.size w.drew w1:=hb;have hW:Below w.heap.size w w1:=aB (r_ _ _).drew (n_ _) hT;clear hT))))
 all_goals
  go_wp2;go_ret;exact⟨rfl,by first|exact hW|exact aB hW (n_ _) (a_ _ _)|exact aB (aB hW (n_ _) (a_ _ _)) (n_ _) (a_ _ _)⟩
def nT:ByteArray:=⟨#[104,97,121,119,97,105,110,32,114,111,119,115]⟩
def jX (ia first size:Nat):List UInt8:=[UInt8.ofNat ia,UInt8.ofNat first,UInt8.ofNat size,UInt8.ofNat (size / 256)]
def iG (ia first size:Nat):ByteArray:=nT++⟨(jX ia first size).toArray⟩
theorem zHN (ia first size:Nat) (ha:ia<=1) (hf:first<=255) (hs:size<=60000) (w:World):Calls p_ 152 #[.agg #[.int .i64 (ia:Int),.int .i64 (first:Int),.int .i64 (size:Int)]] w fun e w'=>e=.returned (.string (iG ia first size))/\Below w.heap.size w w':=by
 have a0:(0:Int)<=(ia:Int):=by omega
 have a1:(ia:Int)<=1:=by omega
 have f0:(0:Int)<=(first:Int):=by omega
 have f1:(first:Int)<=255:=by omega
 have s0:(0:Int)<=(size:Int):=by omega
 have s1:(size:Int)<=60000:=by omega
 have hcv:=run_convert_bytes_back (P:=p_) ((w.alloc (IX (ia:Int) (first:Int) (size:Int))).alloc (DY (ia:Int) (first:Int) ((size:Int) % 256) ((size:Int) / 256))) 226 9 5 ⟨w.heap.size+1,0,none⟩ 4 (jX ia first size) underlying226 underlying5 underlying9 (fun j hj=>by
  have Dj:j=0∨j=1∨j=2∨j=3:=by simp[jX] at hj;omega
  have e:(w.alloc (IX (ia:Int) (first:Int) (size:Int))).heap.size=w.heap.size+1:=by simp
  have hn:=aC (w.alloc (IX (ia:Int) (first:Int) (size:Int))) #[i_ U4 (ia:Int),i_ U4 (first:Int),i_ U4 ((size:Int) % 256),i_ U4 ((size:Int) / 256)] 5 j;rw[e] at hn;have e2:(⟨w.heap.size+1,0,none⟩:Addr).add j=⟨w.heap.size+1,j,none⟩:=by simp[Addr.add];exact fun h=>h.symm
  rw[e2,hn];rcases Dj with rfl|rfl|rfl|rfl<;>simp[jX]<;>omega)
 have HB:=aa (aB (a_ w (IX (ia:Int) (first:Int) (size:Int))) (n_ _) (a_ _ (DY (ia:Int) (first:Int) ((size:Int) % 256) ((size:Int) / 256))));have hl:(jX ia first size).length=4:=rfl;rw[hl] at hcv;clear hl;have hz:(⟨(jX ia first size).toArray⟩:ByteArray).size=4:=rfl;unfold iG nT;generalize jX ia first size=fl at *;go_enter func152,ntmps152;go_wp2;go_ret;exact⟨rfl,HB.out⟩
theorem Ug {W:World} {b:Nat} {x y z a0 a1 a2:Value} (h0:W.cell? ⟨b,0,none⟩=some a0) (h1:W.cell? ⟨b,1,none⟩=some a1) (h2:W.cell? ⟨b,2,none⟩=some a2):
  (((W.setCell ⟨b,0,none⟩ x).setCell ⟨b,1,none⟩ y).setCell ⟨b,2,none⟩ z).cell? ⟨b,0,none⟩=some x/\(((W.setCell ⟨b,0,none⟩ x).setCell ⟨b,1,none⟩ y).setCell ⟨b,2,none⟩ z).cell? ⟨b,1,none⟩=some y/\(((W.setCell ⟨b,0,none⟩ x).setCell ⟨b,1,none⟩ y).setCell ⟨b,2,none⟩ z).cell? ⟨b,2,none⟩=some z:=by
 refine⟨?_,?_,?_⟩<;>simp[go_sem,h0,h1,h2]
theorem zLh (lo hi:Nat) (Bh:lo<=255) (hhi:hi<=8):bits .or .i64 (lo:Int) ((hi:Int)*256)=((hi*256+lo:Nat):Int):=by
 have e1:((lo:Int) % ((2 ^ 64:Nat):Int)).toNat=lo:=by omega
 have e2:(((hi:Int)*256) % ((2 ^ 64:Nat):Int)).toNat=hi*256:=by omega
 have e3:lo ||| hi*256=hi*256+lo:=by
  have:=Nat.shiftLeft_add_eq_or_of_lt (b:=lo) (i:=8) (by omega) hi;rw[Nat.shiftLeft_eq] at this;rw[Nat.or_comm];exact this.symm
 show G0.wrap (((BitVec.ofInt 64 (lo:Int)) ||| (BitVec.ofInt 64 ((hi:Int)*256))).toNat:Int)=_;rw[BitVec.toNat_or,BitVec.toNat_ofInt,BitVec.toNat_ofInt,e1,e2,e3];simp[U3,V3];omega
theorem zJa (t r:ByteArray) (ia first lo hi:Nat) (hp:Lib.hasPrefix t.data.toList nT.data.toList=true) (hr:⟨(Lib.trimPrefix t.data.toList nT.data.toList).toArray⟩=r) (h4:4<=r.size) (hs:r.size<=96) (h0:r[0].toNat=ia) (h1:r[1].toNat=first) (h2:r[2].toNat=lo) (h3:r[3].toNat=hi) (ha:ia<=1) (hf:1<=first) (Ld:first<=255) (Bh:lo<=255) (hhi:hi<=8) (w:World) (Mb:hi*256+lo<=2304):
  Calls p_ 171 #[.string t] w fun e w'=>e=.returned (.tuple #[.agg #[.int .i64 (ia:Int),.int .i64 (first:Int),.int .i64 ((hi*256+lo:Nat):Int)],.bool true])/\Below w.heap.size w w':=by
 have hc:∀ w,Calls p_ 201 #[.string t,.string nT] w fun e w'=>e=.returned (.tuple #[.string r,.bool true])/\w'=w:=by
  rw[<-hr,<-hp];exact Tryz.strings_CutPrefix t nT
 unfold nT at hc;have HC:=aa hc;clear hc hp hr;have i4:(4:Int)<=(r.size:Int):=by omega
 have g0:0<r.size:=by omega
 have g00:(0:Int)<(r.size:Int):=by omega
 have wa:G0.wrap (ia:Int)=ia:=by simp[U3,V3];omega
 have wf:G0.wrap (first:Int)=first:=by simp[U3,V3];omega
 have wl:G0.wrap (lo:Int)=lo:=by simp[U3,V3];omega
 have wh:G0.wrap (hi:Int)=hi:=by simp[U3,V3];omega
 have wk:G0.wrap ((hi:Int)*256)=(hi:Int)*256:=by simp[U3,V3];omega
 have g1:(1:Int)<(r.size:Int):=by omega
 have g2:(2:Int)<(r.size:Int):=by omega
 have g3:(3:Int)<(r.size:Int):=by omega
 have a0:(0:Int)<=(ia:Int):=by omega
 have a1:(ia:Int)<=1:=by omega
 have f0:(1:Int)<=(first:Int):=by omega
 have f1:(first:Int)<=255:=by omega
 have l0:(0:Int)<=(lo:Int):=by omega
 have l1:(lo:Int)<=255:=by omega
 have k0:(0:Int)<=(hi:Int):=by omega
 have k1:(hi:Int)<=8:=by omega
 have IV:Hid (bits .or .i64 (lo:Int) ((hi:Int)*256)=((hi*256+lo:Nat):Int)):=zLh lo hi Bh hhi;go_enter func171,ntmps171;go_wp2_with (go_at_call 201;refine(HC.out _).mono ?_;rintro e w1 ⟨rfl,rfl⟩)
 refine wp_region_held_drew (S:=fun _=>True) (by kernel_rfl) trivial (fun Jv=>?_);refine wpAnyH_take (i:=0) (v:=?_) rfl (by kernel_rfl) (by kernel_rfl) (by kernel_rfl) (fun _ _ _ h=>h) (K5 ⟨by rfl,?_⟩) (by assumption) ?_
 rotate_left
 ·intro w yo
  go_simp
  try rfl
 simp only[Y3,QZ,O0,P0,F0,ZZ];refine wpAnyH_take (i:=1) (v:=?_) rfl (by kernel_rfl) (by kernel_rfl) (by kernel_rfl) (fun _ _ _ h=>h) (K5 ⟨by rfl,?_⟩) (by assumption) ?_
 rotate_left
 ·intro w yo
  go_simp
  try rfl
 simp only[Y3,QZ,O0,P0,F0,ZZ,C0];refine wpAnyH_take (i:=2) (v:=?_) rfl (by kernel_rfl) (by kernel_rfl) (by kernel_rfl) (fun _ _ _ h=>h) (K5 ⟨by rfl,?_⟩) (by assumption) ?_
 rotate_left
 ·intro w yo
  go_simp
  try rfl
 simp only[Y3,QZ,O0,P0,F0,ZZ,C0];refine wpAnyH_take (i:=3) (v:=?_) rfl (by kernel_rfl) (by kernel_rfl) (by kernel_rfl) (fun _ _ _ h=>h) (K5 ⟨by rfl,?_⟩) (by assumption) ?_
 rotate_left
 ·intro w yo
  go_simp
  try rfl
 simp only[Y3,QZ,O0,P0,F0,ZZ,C0];refine wpAnyH_take (i:=4) (v:=?_) rfl (by kernel_rfl) (by kernel_rfl) (by kernel_rfl) (fun _ _ _ h=>h) (K5 ⟨by rfl,?_⟩) (by assumption) ?_
 rotate_left
 ·intro w yo
  go_simp
  try rfl
 simp only[Y3,QZ,O0,P0,F0,ZZ,C0];refine wpAnyH_take (i:=5) (v:=?_) rfl (by kernel_rfl) (by kernel_rfl) (by kernel_rfl) (fun _ _ _ h=>h) (K5 ⟨by rfl,?_⟩) (by assumption) ?_
 rotate_left
 ·intro w yo
  go_simp
  try rfl
 simp only[Y3,QZ,O0,P0,F0,ZZ,C0];refine wpAnyH_take (i:=6) (v:=?_) rfl (by kernel_rfl) (by kernel_rfl) (by kernel_rfl) (fun _ _ _ h=>h) (K5 ⟨by rfl,?_⟩) (by assumption) ?_
 rotate_left
 ·intro w yo
  go_simp
  try rfl
 simp only[Y3,QZ,O0,P0,F0,ZZ,C0];refine wpAnyH_take (i:=7) (v:=?_) rfl (by kernel_rfl) (by kernel_rfl) (by kernel_rfl) (fun _ _ _ h=>h) (K5 ⟨by rfl,?_⟩) (by assumption) ?_
 rotate_left
 ·intro w yo
  go_simp
  try rfl
 simp only[Y3,QZ,O0,P0,F0,ZZ,C0];refine wpAnyH_take (i:=8) (v:=?_) rfl (by kernel_rfl) (by kernel_rfl) (by kernel_rfl) (fun _ _ _ h=>h) (K5 ⟨by rfl,?_⟩) (by assumption) ?_
 rotate_left
 ·intro w yo
  go_simp
  try rfl
 simp only[Y3,QZ,O0,P0,F0,ZZ,C0];refine wpAnyH_take (i:=9) (v:=?_) rfl (by kernel_rfl) (by kernel_rfl) (by kernel_rfl) (fun _ _ _ h=>h) (K5 ⟨by rfl,?_⟩) (by assumption) ?_
 rotate_left
 ·intro w yo
  go_simp
  try rfl
 simp only[Y3,QZ,O0,P0,F0,ZZ,C0];refine wpAnyH_take (i:=10) (v:=?_) rfl (by kernel_rfl) (by kernel_rfl) (by kernel_rfl) (fun _ _ _ h=>h) (K5 ⟨by rfl,?_⟩) (by assumption) ?_
 rotate_left
 ·intro w yo
  go_simp
  try rfl
 simp only[Y3,QZ,O0,P0,F0,ZZ,C0];refine wpAnyH_take (i:=11) (v:=?_) rfl (by kernel_rfl) (by kernel_rfl) (by kernel_rfl) (fun _ _ _ h=>h) (K5 ⟨by rfl,?_⟩) (by assumption) ?_
 rotate_left
 ·intro w yo
  go_simp
  try rfl
 simp only[Y3,QZ,O0,P0,F0,ZZ,C0];refine wpAnyH_take (i:=12) (v:=?_) rfl (by kernel_rfl) (by kernel_rfl) (by kernel_rfl) (fun _ _ _ h=>h) (K5 ⟨by rfl,?_⟩) (by assumption) ?_
 rotate_left
 ·intro w yo
  go_simp
  try rfl
 simp only[Y3,QZ,O0,P0,F0,ZZ,C0];refine wpAnyH_take (i:=13) (v:=?_) rfl (by kernel_rfl) (by kernel_rfl) (by kernel_rfl) (fun _ _ _ h=>h) (K5 ⟨by rfl,?_⟩) (by assumption) ?_
 rotate_left
 ·intro w yo
  go_simp
  try rfl
 simp only[Y3,QZ,O0,P0,F0,ZZ,C0];refine wpAnyH_take (i:=14) (v:=?_) rfl (by kernel_rfl) (by kernel_rfl) (by kernel_rfl) (fun _ _ _ h=>h) (K5 ⟨by rfl,?_⟩) (by assumption) ?_
 rotate_left
 ·intro w yo
  go_simp
  try rfl
 simp only[Y3,QZ,O0,P0,F0,ZZ,C0];refine wpAnyH_ready (rs:=[15]) (by kernel_rfl) (by simp) ?_;refine q_ rfl (fun K hK=>?_) A_
 go_simp
 refine hK.out _ _ trivial (fun Jv=>?_);clear hK K;refine wpAnyH_ready (rs:=[16]) (by kernel_rfl) (by simp) ?_;refine q_ rfl (fun K hK=>?_) A_
 go_simp
 refine hK.out _ _ trivial (fun Jv=>?_);clear hK K;refine wpAnyH_done (by kernel_rfl) ?_ _;rw[IV.out];have q0:(((w.alloc JX).alloc (IX (ia:Int) (first:Int) ((hi*256+lo:Nat):Int))).drew).cell? ⟨w.heap.size+1,0,none⟩=some (.int .i64 (ia:Int)):=by simp
 have q1:(((w.alloc JX).alloc (IX (ia:Int) (first:Int) ((hi*256+lo:Nat):Int))).drew).cell? ⟨w.heap.size+1,1,none⟩=some (.int .i64 (first:Int)):=by simp
 have q2:(((w.alloc JX).alloc (IX (ia:Int) (first:Int) ((hi*256+lo:Nat):Int))).drew).cell? ⟨w.heap.size+1,2,none⟩=some (.int .i64 ((hi*256+lo:Nat):Int)):=by simp
 have p0:(((w.alloc JX).alloc (IX (ia:Int) (first:Int) ((hi*256+lo:Nat):Int))).drew).cell? ⟨w.heap.size,0,none⟩=some (.int .i64 0):=by simp
 have p1:(((w.alloc JX).alloc (IX (ia:Int) (first:Int) ((hi*256+lo:Nat):Int))).drew).cell? ⟨w.heap.size,1,none⟩=some (.int .i64 0):=by simp
 have p2:(((w.alloc JX).alloc (IX (ia:Int) (first:Int) ((hi*256+lo:Nat):Int))).drew).cell? ⟨w.heap.size,2,none⟩=some (.int .i64 0):=by simp
 have pf:∀ j,(((w.alloc JX).alloc (IX (ia:Int) (first:Int) ((hi*256+lo:Nat):Int))).drew).frozen? ⟨w.heap.size,j,none⟩=false:=fun j=>aE (a_ _ _).drew (by simp) (aQ w _ _ j);have HB:Hid (Below w.heap.size w (((w.alloc JX).alloc (IX (ia:Int) (first:Int) ((hi*256+lo:Nat):Int))).drew)):=(aB (a_ w _) (n_ _) (a_ _ _)).drew;generalize ((w.alloc JX).alloc (IX (ia:Int) (first:Int) ((hi*256+lo:Nat):Int))).drew=W at *;generalize hz:hi*256+lo=size at *;have z0:(size:Int)<=2304:=by omega
 have HZ:=aa hz;clear hz;clear IV h0 h1 h2 h3 g00 g1 g2 g3 wa wf wl wh wk h4 hs HC;go_wp2
 go_region_held3 (fun w'=>w'.cell? ⟨w.heap.size+1,0,none⟩=some (.int .i64 (ia:Int))/\w'.cell? ⟨w.heap.size+1,1,none⟩=some (.int .i64 (first:Int))/\w'.cell? ⟨w.heap.size+1,2,none⟩=some (.int .i64 (size:Int))) (first|go_keep|exact⟨q0,q1,q2⟩) (fail)
 go_wp2;have hk:=Ug (W:=W) (b:=w.heap.size) (x:=.int .i64 (ia:Int)) (y:=.int .i64 (first:Int)) (z:=.int .i64 (size:Int)) p0 p1 p2;obtain⟨k0,k1,k2⟩:=hk;refine bodyPost_ret (v:=.tuple #[.agg #[.int .i64 (ia:Int),.int .i64 (first:Int),.int .i64 (size:Int)],.bool true]) (by simp[results,results171,go_sem,k0,k1,k2]) rfl ⟨by rw[HZ.out],?_⟩;exact(((HB.out.setCell (n_ _) _).setCell (n_ _) _).setCell (n_ _) _).drew
end
end Go.Proofs.YtcfjimdfegejaaaGreatDoor
