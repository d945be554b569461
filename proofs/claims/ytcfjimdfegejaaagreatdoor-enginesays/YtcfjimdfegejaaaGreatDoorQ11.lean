import Derived.Test.YtcfjimdfegejaaaGreatDoorQ04
import Derived.Test.YtcfjimdfegejaaaGreatDoorQ06
set_option maxHeartbeats 8000000
set_option maxRecDepth 100000
namespace Go.Proofs.YtcfjimdfegejaaaGreatDoor
open _root_.Array renaming append_assoc→Y5
open _root_.ByteArray renaming data_append→L1,empty→Q1,extract_append_eq_left→M4,extract_append_eq_right→E7,extract_append_size_add'→J4,getElem_eq_getElem_data→D3,size_append→I1,size_extract→P8
open Instr renaming buildSlice→O6,loadAt→T9
open List renaming append_nil→T1,flatMap_append→O4,getElem?_toArray→d_,getElem_mem→MZ,getElem_set_ne→P2,getElem_set_self→X2,getLast?_append→g_,length_append→YY,length_drop→UZ,length_set→NZ,length_take→XY,mem_append→Q0,mem_singleton→GZ,take_succ_eq_append_getElem→ZY
open Nat renaming le_trans→BZ,lt_of_lt_of_le→UY,zero_add→TZ
open Option renaming some→I0
open Go.Proofs.Tryz renaming prog→XZ,zeroCells322→Q3
open Value renaming bool→D5,slice→FZ
open World renaming block_lt_of_cell?→AZ,frozen?_of_block→CZ,frozen?_setCell→EZ,grownBy→K7,news_of_block→V2
open Go.Proofs.Tryz
open Obj renaming cells→o_
open World renaming cell?_of_block→b_,cell?_setCell_other→t_,cell?_setCell_same→u_,ownsRow.lt→l_
open Go.RowKit.Below renaming heap_setCell→h_,refl→r_
open Nat renaming le_refl→n_
open Go.Proofs.Tryz renaming prog→p_
open Value renaming string→v_,int→i_
open Go.Joins renaming below_alloc1→a_
variable {k B n first i u:Nat} {c:ma} {w w':World} {v:Value} {t d:BA}
section
open Go.RowKit Go.Joins
def gJ:Value:=.tuple #[.agg #[.string ⟨#[]⟩,.string ⟨#[]⟩,.bool false],.bool false]
theorem zE1 (s:BA) (w:World) (h2:s.size<2):
  Calls p_ 307 #[.string s] w fun e w'=>e=.returned gJ/\Below w.heap.size w w':=by
 have d1:decide ((s.size:Int)<2)=true:=by simp;omega
 go_enter func307,ntmps307;go_wp2;exact bodyPost_ret (v:=gJ) (by simp[gJ,results,results307,go_sem]) rfl ⟨rfl,a_ w _⟩
theorem zGA (s:BA) (w:World) (h2:2<=s.size) (x:Nat) (hx:s[0].toNat=x) (h1:1<x):
  Calls p_ 307 #[.string s] w fun e w'=>e=.returned gJ/\Below w.heap.size w w':=by
 have d1:decide ((s.size:Int)<2)=false:=by simp;omega
 have d2:decide ((1:Int)<(x:Int))=true:=by simp;omega
 have g0:0<s.size:=by omega
 go_enter func307,ntmps307;go_wp2;exact bodyPost_ret (v:=gJ) (by simp[gJ,results,results307,go_sem]) rfl ⟨rfl,a_ w _⟩
theorem zIt (s:BA) (w:World) (h2:2<=s.size) (x y:Nat) (hx:s[0].toNat=x) (hy:s[1].toNat=y) (h1:x<=1) (hl:s.size<2+y) (hy':y<=255):
  Calls p_ 307 #[.string s] w fun e w'=>e=.returned gJ/\Below w.heap.size w w':=by
 have w1:wrap64 (y:Int)=y:=oR (by omega) (by omega);have w2:wrap64 (2+(y:Int))=2+y:=oR (by omega) (by omega);have d1:decide ((s.size:Int)<2)=false:=by simp;omega
 have d2:decide ((1:Int)<(x:Int))=false:=by simp;omega
 have d3:decide ((s.size:Int)<2+(y:Int))=true:=by simp;omega
 have g1:1<(s.size:Int):=by omega
 have g0:0<s.size:=by omega
 go_enter func307,ntmps307;go_wp2;exact bodyPost_ret (v:=gJ) (by simp[gJ,results,results307,go_sem]) rfl ⟨rfl,a_ w _⟩
def nL:Value:=.tuple #[.agg #[.string ⟨#[]⟩,.string ⟨#[]⟩,.bool false],pa 4]
theorem vF (s:BA) (w:World)
  (HS:∀ w',Calls p_ 307 #[.string s] w' fun e Ch=>e=.returned gJ/\Below w'.heap.size w' Ch):
  Calls p_ 282 #[.string s] w fun e w'=>e=.returned nL/\Below w.heap.size w w':=by
 unfold gJ at HS;replace HS:=fun w'=>aa (HS w');obtain⟨r0,r1,r2,hB,h0,fz,-⟩:=Nf w OX rfl rfl;go_enter func282,ntmps282;go_wp2_with fail;refine((HS _).out).mono ?_;rintro e w1 ⟨rfl,hb⟩;replace hB:=aB hB (n_ _) hb;replace fz:=fun j=>aE hb h0 (fz j);replace ⟨r0,r1,r2⟩:=Fe hb r0 r1 r2;replace h0:=UY h0 hb.size;clear hb;have s0:(((w1.setCell ⟨w.heap.size,0,none⟩ (.string ⟨#[]⟩)).setCell ⟨w.heap.size,1,none⟩ (.string ⟨#[]⟩)).setCell ⟨w.heap.size,2,none⟩ (.bool false)).cell? ⟨w.heap.size,0,none⟩=some (.string ⟨#[]⟩):=by simp[go_sem,r0]
 have s1:(((w1.setCell ⟨w.heap.size,0,none⟩ (.string ⟨#[]⟩)).setCell ⟨w.heap.size,1,none⟩ (.string ⟨#[]⟩)).setCell ⟨w.heap.size,2,none⟩ (.bool false)).cell? ⟨w.heap.size,1,none⟩=some (.string ⟨#[]⟩):=by simp[go_sem,r1]
 have s2:(((w1.setCell ⟨w.heap.size,0,none⟩ (.string ⟨#[]⟩)).setCell ⟨w.heap.size,1,none⟩ (.string ⟨#[]⟩)).setCell ⟨w.heap.size,2,none⟩ (.bool false)).cell? ⟨w.heap.size,2,none⟩=some (.bool false):=by simp[go_sem,r2]
 have hS:=((hB.setCell (p:=⟨w.heap.size,0,none⟩) (n_ _) (.string ⟨#[]⟩)).setCell (p:=⟨w.heap.size,1,none⟩) (n_ _) (.string ⟨#[]⟩)).setCell (p:=⟨w.heap.size,2,none⟩) (n_ _) (.bool false);go_wp2;generalize (((w1.setCell ⟨w.heap.size,0,none⟩ (.string ⟨#[]⟩)).setCell ⟨w.heap.size,1,none⟩ (.string ⟨#[]⟩)).setCell ⟨w.heap.size,2,none⟩ (.bool false))=Y at *;have hX:=a_ Y OX;have k0:=aA hX s0;have k1:=aA hX s1;have k2:=aA hX s2;exact bodyPost_ret (v:=nL) (by simp[nL,pa,results,results282,go_sem,k0,k1,k2]) rfl ⟨rfl,aB hS (n_ _) hX⟩
theorem zB9 (s:BA) (c:ma) (w:World) (hk:c.key.size<=maxLen) (fa:Nat) (hf:aD c=fa) (Ar:fa≠0)
  (HS:∀ w',Calls p_ 307 #[.string s] w' fun e Ch=>e=.returned (.tuple #[.agg #[.string c.key,.string c.val,.bool c.gone],.bool true])/\Below w'.heap.size w' Ch):
  Calls p_ 282 #[.string s] w fun e w'=>e=.returned nL/\Below w.heap.size w w':=by
 have HK:=fun w'=>aa (gB c w' hk);rw[hf] at HK;replace HS:=fun w'=>aa (HS w');go_enter func282,ntmps282;obtain⟨r0,r1,r2,hB,h0,fz,-⟩:=Nf w OX rfl rfl;go_wp2_with fail;refine((HS _).out).mono ?_;rintro e w1 ⟨rfl,hb⟩;replace hB:=aB hB (n_ _) hb;replace fz:=fun j=>aE hb h0 (fz j);replace ⟨r0,r1,r2⟩:=Fe hb r0 r1 r2;replace h0:=UY h0 hb.size;clear hb;obtain⟨q0,q1,q2,hX,h3,-⟩:=Nf w1 (FX c.key c.val c.gone) rfl rfl;go_wp2_with fail;refine((HK _).out).mono ?_;rintro e w2 ⟨rfl,hb⟩;replace hX:=aB hX (n_ _) hb;replace hB:=aB hB (n_ _) hX;replace fz:=fun j=>aE hX h0 (fz j);replace ⟨r0,r1,r2⟩:=Fe hX r0 r1 r2;replace ⟨q0,q1,q2⟩:=Fe hb q0 q1 q2;clear hb hX HS HK h3;simp only[pa,if_neg Ar];go_wp2;exact bodyPost_ret (v:=nL) (by simp[nL,pa,results,results282,go_sem,r0,r1,r2]) rfl ⟨rfl,((hB.setCell (n_ _) _).setCell (n_ _) _).setCell (n_ _) _⟩
def dI (c:ma):ByteArray:=rZ c++c.key++c.val
theorem pY (c:ma):(rZ c).size=2:=rfl
theorem nZ (c:ma):(dI c).size=2+c.key.size+c.val.size:=by
 rw[dI,I1,I1,pY]
theorem zMN (c:ma) (h:0<(dI c).size):(dI c)[0].toNat=if c.gone then 1 else 0:=by
 simp only[dI,D3,L1,rZ,Y5];by_cases hg:c.gone=true<;>simp[hg]
theorem zM2 (c:ma) (h:1<(dI c).size) (hk:c.key.size<=255):(dI c)[1].toNat=c.key.size:=by
 simp only[dI,D3,L1,rZ,Y5];simp;omega
theorem zKN (c:ma):(dI c).extract 2 (2+c.key.size)=c.key:=by
 rw[dI,ByteArray.append_assoc];exact(J4 (i:=0) (pY c).symm).trans (M4 rfl)
theorem zK7 (c:ma):(dI c).extract (2+c.key.size) (dI c).size=c.val:=by
 refine E7 ?_ ?_
 ·rw[I1,pY]
 ·rw[nZ,I1,pY]
theorem zBo {k head:List UInt8} (h:jE k head=true):k.length<=head.length+6:=by
 simp only[jE,bK,Bool.and_eq_true,decide_eq_true_eq] at h;obtain⟨h1,⟨_,h2⟩,_⟩:=h;unfold Lib.trimPrefix at h2;rw[if_pos h1,UZ] at h2;omega
theorem zMk {k:List UInt8} (h:Fc k=true):k.length<=15:=by
 simp only[Fc,Bool.or_eq_true] at h;rcases h with h|h|h
 ·have:=zBo h;simp at this;omega
 ·have:=zBo h;simp at this;omega
 ·simp only[kW,nY,bK,ui,Bool.and_eq_true,decide_eq_true_eq] at h;obtain⟨h1,_,⟨⟨_,h2⟩,_⟩,h3,_⟩:=h;generalize Lib.indexByte _ _=i at *;unfold Lib.trimPrefix at h2 h3;rw[if_pos h1] at h2 h3;simp only[XY,UZ] at h2 h3;simp only[List.length_cons,List.length_nil] at h2 h3;omega
theorem iS (h:aD c=0):c.key.size<=15/\c.val.size<=40:=by
 unfold aD at h;split at h
 ·cases h
 ·rename_i hk;split at h
  ·cases h
  ·split at h
   ·cases h
   ·rename_i hv;refine⟨?_,by omega⟩;have:=zMk (k:=c.key.data.toList) (by simpa using hk);rwa [fR] at this
def zLI:ma:=⟨⟨#[]⟩,⟨#[]⟩,false⟩
def yj (s:BA):ma:=⟨s.extract 2 (2+bU s 1),s.extract (2+bU s 1) s.size,(bU s 0:Int)==1⟩
def gI (s:BA):Nat:=if s.size<2∨1<bU s 0∨s.size<2+bU s 1∨aD (yj s)≠0 then 4 else 0
def gY (s:BA):ma:=if gI s=0 then yj s else zLI
theorem zBN (s:BA) (hs:s.size<=300) (w:World):Calls p_ 282 #[.string s] w fun e w'=>e=.returned (.tuple #[.agg #[.string (gY s).key,.string (gY s).val,.bool (gY s).gone],pa (gI s)])/\Below w.heap.size w w':=by
 have bad:gI s=4->gY s=zLI:=fun e=>by unfold gY;rw[e,if_neg (by decide)]
 by_cases h2:s.size<2
 ·have e:gI s=4:=if_pos (.inl h2);rw[bad e,e];exact vF s w fun w'=>zE1 s w' h2
 ·have tr:2<=s.size:=by omega
  have b0:s[0].toNat=bU s 0:=iV (by omega);have b1:s[1].toNat=bU s 1:=iV (by omega);by_cases h1:1<bU s 0
  ·have e:gI s=4:=if_pos (.inr (.inl h1));rw[bad e,e];exact vF s w fun w'=>zGA s w' tr _ rfl (by rw[b0];exact h1)
  ·have hy:=oC s 1;by_cases hl:s.size<2+bU s 1
   ·have e:gI s=4:=if_pos (.inr (.inr (.inl hl)));rw[bad e,e];exact vF s w fun w'=>zIt s w' tr _ _ b0 b1 (by omega) hl (by omega)
   ·have hS:=fun w'=>zFw s w' tr (by omega) _ _ b0 b1 (by omega) (by omega);have hg:decide (bU s 0=1)=((bU s 0:Int)==1):=by rw[Bool.eq_iff_iff];simp;omega
    rw[hg] at hS;have hk:(yj s).key.size<=maxLen:=by unfold yj maxLen;simp;omega
    by_cases h0:aD (yj s)=0
    ·have e:gI s=0:=if_neg (by rintro(h|h|h|h)<;>contradiction);have e2:gY s=yj s:=if_pos e;rw[e2,e];exact zGa s (yj s) w hk h0 fun w'=>hS w'
    ·have e:gI s=4:=if_pos (.inr (.inr (.inr h0)));rw[bad e,e];exact zB9 s (yj s) w hk _ rfl h0 fun w'=>hS w'
theorem zIk (c:ma) (hf:aD c=0):gI (dI c)=0/\gY (dI c)=c:=by
 obtain⟨hk,hv⟩:=iS hf;have hs:=nZ c;have h0:0<(dI c).size:=by omega
 have h1:1<(dI c).size:=by omega
 have b0:bU (dI c) 0=if c.gone then 1 else 0:=(iV h0).symm.trans (zMN c h0);have b1:bU (dI c) 1=c.key.size:=(iV h1).symm.trans (zM2 c h1 (by omega));have e:yj (dI c)=c:=by
  unfold yj;rw[b1,zKN,zK7,b0]
  cases c with
  | mk k v g=>cases g<;>rfl
 have ef:gI (dI c)=0:=by
  refine if_neg ?_;rw[e,b0,b1];rintro(h|h|h|h)
  ·omega
  ·split at h<;>omega
  ·omega
  ·exact h hf
 exact⟨ef,by unfold gY;rw[ef,if_pos rfl,e]⟩
end
section
open Go.RowKit Go.Joins
attribute [local go_sem ↓] Go.wp_at_zero Go.wp_at_succ
theorem zIo:(XZ.info? 36).map (fun i=>(i.zero,i.size,i.bytes))=some (some (.slice none 0 0),1,24):=by kernel_rfl
def Ip (d:Dd):Value:=.slice d.ao d.ba.length d.cap
def ET (w:World) (B:Nat) (d:Dd):Prop:=bO w B (Ip d) d.ba
structure uj (w:World) (B rb:Nat) (dv av:Value) (ds:List Dd) (ah:List ma):Prop where
 c0:w.cell? ⟨rb,0,none⟩=some dv
 c1:w.cell? ⟨rb,1,none⟩=some av
 soft:∀ j,w.frozen? ⟨rb,j,none⟩=false
 od:w.ownsRow B 36 1 dv ds.length (ds.map Ip)
 oa:bO w B av ah
 hd:∀ d∈ds,ET w B d
 ap:(∀ k,dv.ownBlock=some k->k≠rb/\av.ownBlock≠some k)/\∀ k,av.ownBlock=some k->k≠rb
 an:∀ d∈ds,∀ k,(Ip d).ownBlock=some k->k≠rb/\dv.ownBlock≠some k/\av.ownBlock≠some k
 lo:B<=rb
 dz:ds=[]->dv=.slice none 0 0
theorem kX {l:List ma} (h:bO w B v l) (hk:∀ k,v.ownBlock=some k->w'.heap[k]?=w.heap[k]?):bO w' B v l:=by
 refine⟨h.1,?_⟩;rcases h.2 with e|⟨g,cap,cur,rfl,hB,hg,h3⟩
 ·exact .inl e
 ·exact .inr ⟨g,cap,cur,rfl,hB,(hk g rfl).trans hg,h3⟩
theorem uK {l:List Value} (h:w.ownsRow B 36 1 v n l) (hk:∀ k,v.ownBlock=some k->w'.heap[k]?=w.heap[k]?):w'.ownsRow B 36 1 v n l:=by
 refine⟨h.1,?_⟩;rcases h.2 with e|⟨g,cap,cur,rfl,hB,hg,h3⟩
 ·exact .inl e
 ·exact .inr ⟨g,cap,cur,rfl,hB,(hk g rfl).trans hg,h3⟩
def DF (rb:Nat) (dv av:Value) (ds:List Dd) (k:Nat):Prop:=k=rb∨dv.ownBlock=some k∨av.ownBlock=some k∨∃ d∈ds,(Ip d).ownBlock=some k
section
variable {w w' w5:World} {B rb g Dc:Nat} {dv av:Value} {ds:List Dd} {ah:List ma}
theorem uj.lt (h:uj w B rb dv av ds ah) (hk:DF rb dv av ds k):k<w.heap.size:=by
 rcases hk with rfl|e|e|⟨d,hd,e⟩
 ·exact AZ _ _ h.c0
 ·exact(l_ h.od k e).2
 ·exact(l_ h.oa k e).2
 ·exact(l_ (h.hd d hd) k e).2
theorem uj.kept (h:uj w B rb dv av ds ah) (hk:∀ k,DF rb dv av ds k->w'.heap[k]?=w.heap[k]?):uj w' B rb dv av ds ah:=
 have e:=hk rb (.inl rfl)
 ⟨(b_ (a:=⟨rb,0,none⟩) e).trans h.c0,(b_ (a:=⟨rb,1,none⟩) e).trans h.c1,fun j=>(CZ (a:=⟨rb,j,none⟩) e).trans (h.soft j),uK h.od fun k e=>hk k (.inr (.inl e)),kX h.oa fun k e=>hk k (.inr (.inr (.inl e))),fun d hd=>kX (h.hd d hd) fun k e=>hk k (.inr (.inr (.inr ⟨d,hd,e⟩))),h.ap,h.an,h.lo,h.dz⟩
theorem uj.on (h:uj w B rb dv av ds ah) (hb:Below w.heap.size w w'):uj w' B rb dv av ds ah:=h.kept fun k hk=>hb.block k (h.lt hk)
theorem uj.push (h:uj w B rb dv av ds ah) (h7:B<=w.heap.size) (ho:w5.ownsRow B 99 3 (.slice (some ⟨g,0,none⟩) (ah.length+1) Dc) (ah.length+1) (cG ah++bN c)) (Oa:K7 (w.alloc (.cells (bN c).toArray 99)).drew w5 av.ownBlock) (Sc:av.ownBlock=some g∨g=w.heap.size+1):
  uj (w5.setCell ⟨rb,1,none⟩ (.slice (some ⟨g,0,none⟩) (ah.length+1) Dc)) B rb dv (.slice (some ⟨g,0,none⟩) (ah.length+1) Dc) ds (ah++[c])/\Below B w (w5.setCell ⟨rb,1,none⟩ (.slice (some ⟨g,0,none⟩) (ah.length+1) Dc)):=by
 have CF:(w.alloc (.cells (bN c).toArray 99)).drew.heap.size=w.heap.size+1:=by simp
 have UQ:rb<w.heap.size:=h.lt (.inl rfl);have f5:∀ k,k<w.heap.size->av.ownBlock≠some k->w5.heap[k]?=w.heap[k]?:=fun k hk hn=>by
  rw[Oa.block k (by rw[CF];omega) (Ne.symm hn),(a_ w _).drew.block k hk]
 have cy:av.ownBlock≠some rb:=fun e=>h.ap.2 rb e rfl;have e5:=f5 rb UQ cy;have zt:g≠rb:=by
  rcases Sc with e|e
  ·exact fun e2=>cy (e2▸e)
  ·omega
 have ll:∀ k,k<w.heap.size->av.ownBlock≠some k->g≠k:=fun k hk hn=>by
  rcases Sc with e|e
  ·exact fun e2=>hn (e2▸e)
  ·omega
 have k6:∀ k,k≠rb->(w5.setCell ⟨rb,1,none⟩ (.slice (some ⟨g,0,none⟩) (ah.length+1) Dc)).heap[k]?=w5.heap[k]?:=fun k hk=>h_ _ _ _ _ hk;have cc:∀ j v,w.cell? ⟨rb,j,none⟩=some v->w5.cell? ⟨rb,j,none⟩=some v:=fun j v hv=>(b_ (a:=⟨rb,j,none⟩) e5).trans hv;refine⟨⟨(t_ _ _ _ _ (by simp)).trans (cc 0 _ h.c0),u_ _ _ _ (cc 1 _ h.c1),fun j=>by rw[EZ,CZ (a:=⟨rb,j,none⟩) e5];exact h.soft j,?_,?_,fun d hd=>?_,⟨fun k e=>?_,fun k e=>?_⟩,fun d hd k e=>?_,h.lo,h.dz⟩,?_⟩
 ·exact uK h.od fun k e=>(k6 k (h.ap.1 k e).1).trans (f5 k (h.lt (.inr (.inl e))) (h.ap.1 k e).2)
 ·have:bO w5 B (.slice (some ⟨g,0,none⟩) (ah.length+1) Dc) (ah++[c]):=by
   unfold bO;rw[YY,tJ];show w5.ownsRow B _ 3 _ (ah.length+1) (cG ah++(bN c++[]));rw[T1];exact ho
  exact kX this fun k e=>by cases e;exact k6 g zt
 ·exact kX (h.hd d hd) fun k e=>(k6 k (h.an d hd k e).1).trans (f5 k (h.lt (.inr (.inr (.inr ⟨d,hd,e⟩)))) (h.an d hd k e).2.2)
 ·exact⟨(h.ap.1 k e).1,fun e2=>ll k (h.lt (.inr (.inl e))) (h.ap.1 k e).2 (by cases e2;rfl)⟩
 ·cases e;exact zt
 ·obtain⟨p1,p2,p3⟩:=h.an d hd k e;exact⟨p1,p2,fun e2=>ll k (h.lt (.inr (.inr (.inr ⟨d,hd,e⟩)))) p3 (by cases e2;rfl)⟩
 ·exact(((a_ w (.cells (bN c).toArray 99)).mono h7).drew.grown Oa (by rw[CF];omega) (fun k hk=>(l_ h.oa k hk).1)).setCell (p:=⟨rb,1,none⟩) h.lo _
theorem uj.close {ao:Option Addr} {cap:Nat} (h:uj w B rb dv (.slice ao ah.length cap) ds ah) (h7:B<=w.heap.size) (ho:w5.ownsRow B 36 1 (.slice (some ⟨g,0,none⟩) (ds.length+1) Dc) (ds.length+1) (ds.map Ip++[.slice ao ah.length cap])) (Oa:K7 (w.alloc (.cells #[.slice ao ah.length cap] 36)).drew w5 dv.ownBlock) (Sc:dv.ownBlock=some g∨g=w.heap.size+1):
  uj ((w5.setCell ⟨rb,0,none⟩ (.slice (some ⟨g,0,none⟩) (ds.length+1) Dc)).setCell ⟨rb,1,none⟩ (.slice none 0 0)) B rb (.slice (some ⟨g,0,none⟩) (ds.length+1) Dc) (.slice none 0 0) (ds++[⟨ao,cap,ah⟩]) []/\Below B w ((w5.setCell ⟨rb,0,none⟩ (.slice (some ⟨g,0,none⟩) (ds.length+1) Dc)).setCell ⟨rb,1,none⟩ (.slice none 0 0)):=by
 have CF:(w.alloc (.cells #[.slice ao ah.length cap] 36)).drew.heap.size=w.heap.size+1:=by simp
 have UQ:rb<w.heap.size:=h.lt (.inl rfl);have f5:∀ k,k<w.heap.size->dv.ownBlock≠some k->w5.heap[k]?=w.heap[k]?:=fun k hk hn=>by
  rw[Oa.block k (by rw[CF];omega) (Ne.symm hn),(a_ w _).drew.block k hk]
 have cy:dv.ownBlock≠some rb:=fun e=>(h.ap.1 rb e).1 rfl;have e5:=f5 rb UQ cy;have zt:g≠rb:=by
  rcases Sc with e|e
  ·exact fun e2=>cy (e2▸e)
  ·omega
 have ll:∀ k,k<w.heap.size->dv.ownBlock≠some k->g≠k:=fun k hk hn=>by
  rcases Sc with e|e
  ·exact fun e2=>hn (e2▸e)
  ·omega
 have k6:∀ k,k≠rb->((w5.setCell ⟨rb,0,none⟩ (.slice (some ⟨g,0,none⟩) (ds.length+1) Dc)).setCell ⟨rb,1,none⟩ (.slice none 0 0)).heap[k]?=w5.heap[k]?:=fun k hk=>(h_ _ _ _ _ hk).trans (h_ _ _ _ _ hk);have cc:∀ j v,w.cell? ⟨rb,j,none⟩=some v->w5.cell? ⟨rb,j,none⟩=some v:=fun j v hv=>(b_ (a:=⟨rb,j,none⟩) e5).trans hv;have NW:∀ k,(FZ ao ah.length cap).ownBlock=some k->dv.ownBlock≠some k:=fun k e e2=>(h.ap.1 k e2).2 e;refine⟨⟨(t_ _ _ _ _ (by simp)).trans (u_ _ _ _ (cc 0 _ h.c0)),u_ _ _ _ ((t_ _ _ _ _ (by simp)).trans (cc 1 _ h.c1)),fun j=>by rw[EZ,EZ,CZ (a:=⟨rb,j,none⟩) e5];exact h.soft j,?_,⟨rfl,.inl ⟨rfl,rfl⟩⟩,fun d hd=>?_,⟨fun k e=>?_,nofun⟩,fun d hd k e=>?_,h.lo,fun e=>absurd e (by simp)⟩,?_⟩
 ·have:w5.ownsRow B 36 1 (.slice (some ⟨g,0,none⟩) (ds.length+1) Dc) (ds++[(⟨ao,cap,ah⟩:Dd)]).length ((ds++[(⟨ao,cap,ah⟩:Dd)]).map Ip):=by
   rw[YY,List.map_append];exact ho
  exact uK this fun k e=>by cases e;exact k6 g zt
 ·rcases Q0.1 hd with hd|hd
  ·exact kX (h.hd d hd) fun k e=>(k6 k (h.an d hd k e).1).trans (f5 k (h.lt (.inr (.inr (.inr ⟨d,hd,e⟩)))) (h.an d hd k e).2.1)
  ·rw[GZ] at hd;subst hd;exact kX h.oa fun k e=>(k6 k (h.ap.2 k e)).trans (f5 k (h.lt (.inr (.inr (.inl e)))) (NW k e))
 ·cases e;exact⟨zt,nofun⟩
 ·rcases Q0.1 hd with hd|hd
  ·obtain⟨p1,p2,p3⟩:=h.an d hd k e;exact⟨p1,fun e2=>ll k (h.lt (.inr (.inr (.inr ⟨d,hd,e⟩)))) p2 (by cases e2;rfl),nofun⟩
  ·rw[GZ] at hd;subst hd;exact⟨h.ap.2 k e,fun e2=>ll k (h.lt (.inr (.inr (.inl e)))) (NW k e) (by cases e2;rfl),nofun⟩
 ·exact((((a_ w (.cells #[.slice ao ah.length cap] 36)).mono h7).drew.grown Oa (by rw[CF];omega) (fun k hk=>(l_ h.od k hk).1)).setCell (p:=⟨rb,0,none⟩) h.lo _).setCell (p:=⟨rb,1,none⟩) h.lo _
end
end
abbrev Sl:=List (List ma)×List ma
def fZ (st:Sl) (k:Nat) (d:BA):Option Sl:=
 if k=111 then (if gI d=0 then some (st.1,st.2++[gY d]) else none)
 else if (d.toList==(dM st.2.length).toList)=true then some (st.1++[st.2],[]) else none
def dB (first:Nat):Nat->List BA->Sl->Nat->List (List ma)×Nat
 | _,[],st,u=>(st.1,u)
 | i,t::l,st,u=>match ae t (first+i) with
  | none=>(st.1,u)
  | some (k,d)=>match fZ st k d with
   | none=>(st.1,u)
   | some st'=>dB first (i+1) l st' (if k=99 then i+1 else u)
def mX (qa:List BA) (first:Nat):List (List ma):=(dB first 0 qa ([],[]) 0).1
def mH (qa:List BA) (first:Nat):Nat:=(dB first 0 qa ([],[]) 0).2
theorem zBA (h:ae t n=some (k,d)):k=111∨k=99:=by
 unfold ae at h;split at h
 case isFalse=>cases h
 case isTrue hh=>simp only[I0.injEq,Prod.mk.injEq] at h;rw[<-h.1];exact hh.1
theorem zIW (h:ae t n=some (k,d)):d.size<=90:=by
 unfold ae at h;split at h
 case isFalse=>cases h
 case isTrue hh=>
  simp only[I0.injEq,Prod.mk.injEq] at h;rw[<-h.2,P8];have:=hh.2.2;omega
theorem oI {l:List BA} {st:Sl} (h:ae t (first+i)=none):dB first i (t::l) st u=(st.1,u):=by
 simp only[dB,h]
theorem tY {l:List BA} {st:Sl} (h:ae t (first+i)=some (k,d)) (ht:fZ st k d=none):dB first i (t::l) st u=(st.1,u):=by
 simp only[dB,h,ht]
theorem kB {l:List BA} {st st':Sl} (h:ae t (first+i)=some (k,d)) (ht:fZ st k d=some st'):dB first i (t::l) st u=dB first (i+1) l st' (if k=99 then i+1 else u):=by
 simp only[dB,h,ht]
theorem zAX {st st':Sl} (h:fZ st k d=some st'):st'.1.length<=st.1.length+1/\st'.2.length<=st.2.length+1:=by
 unfold fZ at h;split at h
 ·split at h
  ·simp only[I0.injEq] at h;rw[<-h];simp
  ·cases h
 ·split at h
  ·simp only[I0.injEq] at h;rw[<-h];simp
  ·cases h
section
open Go.RowKit Go.Joins
attribute [local go_sem ↓] Go.wp_at_zero Go.wp_at_succ
def zLH (f:TypeId->Value->Sem Value) (p:Value):Sem Value:=f 322 p
def zLL (f:TypeId->Nat->Array (Nat×Value)->Sem Value) (l:Array (Nat×Value)):Sem Value:=f 323 1 l
theorem zM3 (p:Value):T9 322 p=zLH T9 p:=rfl
theorem zMR (l:Array (Nat×Value)):O6 323 1 l=zLL O6 l:=rfl
section
variable {B db:Nat} {S:Nat->Prop} {s:Bb}
theorem Tk.OF {W2 W6:World} {nb kb lb a:Nat} {lv:List Value} {now pw:List ByteArray} {Fa:List (List Wr)} {next left:Int} {down:Bool} {v5:Value} {l5:List Wr} (h1:vi W2 db nb kb lb n next left down) (h2:Tk W2 B db nb kb lb n lv now pw Fa) (ha:a<lv.length)
  (Gr:W6.heap[lb]?=some (.cells (lv.set a v5).toArray 323 (0,0))) (how:Re W6 B v5 l5) (hg:∀ k,v5.ownBlock=some k->lv[a].ownBlock=some k∨W2.heap.size<=k)
  (Ma:∀ k,k<W2.heap.size->k≠lb->k≠db->lv[a].ownBlock≠some k->W6.heap[k]?=W2.heap[k]?) (Ia:Below B W2 W6):
  Tk W6 B db nb kb lb n (lv.set a v5) now pw (Fa.set a l5)/\aG W2 W6 B (Es db nb kb lb lv) (Es db nb kb lb (lv.set a v5)):=by
 have jf:=h2.ap;have Aa:∀ k,Es db nb kb lb lv k->k<W2.heap.size:=fun k hk=>h2.lt h1.lt hk;have o5:∀ k,v5.ownBlock=some k->k≠db/\k≠nb/\k≠kb/\k≠lb/\∀ j (hj:j<lv.length),lv[j].ownBlock=some k->j=a:=fun k e=>by
  rcases hg k e with e2|e2
  ·obtain⟨p1,p2,p3,p4⟩:=h2.tq a ha k e2;exact⟨p1,p2,p3,p4,fun j hj e3=>h2.WA j a hj ha k e3 e2⟩
  ·have q1:=Aa db (.inl rfl);have q2:=Aa nb (.inr (.inl rfl));have q3:=Aa kb (.inr (.inr (.inl rfl)));have q4:=Aa lb (.inr (.inr (.inr (.inl rfl))));exact⟨by omega,by omega,by omega,by omega,fun j hj e3=>by have:=Aa k (.inr (.inr (.inr (.inr ⟨j,hj,e3⟩))));omega⟩
 have onb:∀ k,(k=nb∨k=kb)->W6.heap[k]?=W2.heap[k]?:=fun k hk=>by
  rcases hk with rfl|rfl
  ·exact Ma _ (Aa _ (.inr (.inl rfl))) jf.2.2.2.2.1 jf.1.symm fun e=>(h2.tq a ha _ e).2.1 rfl
  ·exact Ma _ (Aa _ (.inr (.inr (.inl rfl)))) jf.2.2.2.2.2 jf.2.1.symm fun e=>(h2.tq a ha _ e).2.2.1 rfl
 refine⟨{ h2 with hn:=(onb nb (.inl rfl)).trans h2.hn,hk:=(onb kb (.inr rfl)).trans h2.hk,hl:=Gr,nl:=by rw[NZ];exact h2.nl,no:=by rw[NZ];exact h2.no,own:=fun i hi Um=>?_,WA:=fun i j hi hj k e1 e2=>?_,tq:=fun i hi k e=>?_ },⟨Ia,fun k hk hn=>⟨Ma k hk (fun e=>hn (.inr (.inr (.inr (.inl e))))) (fun e=>hn (.inl e)) (fun e=>hn (.inr (.inr (.inr (.inr ⟨a,ha,e⟩))))),?_⟩⟩⟩
 ·rw[NZ] at hi Um;by_cases e:a=i
  ·subst e;rw[X2,X2];exact how
  ·rw[P2 e,P2 e];refine gD (h2.own i hi Um) fun k hk=>?_;obtain⟨p1,p2,p3,p4⟩:=h2.tq i hi k hk;exact Ma k (Aa k (.inr (.inr (.inr (.inr ⟨i,hi,hk⟩))))) p4 p1 fun e2=>e (h2.WA a i ha hi k e2 hk)
 ·rw[NZ] at hi hj;by_cases ei:a=i
  ·subst ei;rw[X2] at e1;by_cases ej:a=j
   ·exact ej
   ·rw[P2 ej] at e2;exact((o5 k e1).2.2.2.2 j hj e2).symm
  ·rw[P2 ei] at e1;by_cases ej:a=j
   ·subst ej;rw[X2] at e2;exact(o5 k e2).2.2.2.2 i hi e1
   ·rw[P2 ej] at e2;exact h2.WA i j hi hj k e1 e2
 ·rw[NZ] at hi;by_cases ei:a=i
  ·subst ei;rw[X2] at e;obtain⟨p1,p2,p3,p4,_⟩:=o5 k e;exact⟨p1,p2,p3,p4⟩
  ·rw[P2 ei] at e;exact h2.tq i hi k e
 ·rintro(e|e|e|e|⟨i,hi,e⟩)
  ·exact hn (.inl e)
  ·exact hn (.inr (.inl e))
  ·exact hn (.inr (.inr (.inl e)))
  ·exact hn (.inr (.inr (.inr (.inl e))))
  ·rw[NZ] at hi;by_cases ei:a=i
   ·subst ei;rw[X2] at e;rcases hg k e with e2|e2
    ·exact hn (.inr (.inr (.inr (.inr ⟨a,ha,e2⟩))))
    ·omega
   ·rw[P2 ei] at e;exact hn (.inr (.inr (.inr (.inr ⟨i,hi,e⟩))))
attribute [local go_sem ↓] zM3 zMR
theorem zHY (a:Nat) (d:ByteArray) (w:World) (h:DK w B db S s) (ha:a<s.now.length) (hd:d.size=96):Calls p_ 211 #[.pointer (some ⟨db,0,none⟩),.int .i64 a,.agg (Ka d).toArray] w fun e w'=>e=.returned (.tuple #[])/\Xa w w' B db S { s with wait:=s.wait++[(a,d)] }:=by
 obtain⟨nb,kb,lb,n,lv,Fa,L,h1,h2,hS,h4,h5,h6,h7⟩:=h;obtain⟨q,hq⟩:∃ q:Int,((s.wait.length % 64:Nat):Int)=q:=⟨_,rfl⟩;have hq0:0<=q/\q<64:=by omega
 rw[hq] at h1;have HQ:=aa hq;clear hq;obtain⟨cw,Px⟩:∃ cw:List Value,cw=bL (q,d):=⟨_,rfl⟩;have Ee:cw.length=97:=by rw[Px];exact aY hd
 have Ny:=aa Px;have ze:=a_ w (.cells (Ka d).toArray 284);have Tm:=h1.lt;have c3:=aA ze h1.c3;have By:(Q3).size=97:=by kernel_rfl
 have hfw:List.foldl (fun cs (x:Value×Nat)=>cs.setIfInBounds (1+x.2) x.1) ((Q3).setIfInBounds 0 (i_ .i64 q)) (Ka d).zipIdx=cw.toArray:=by rw[Px];exact zG8 _ By q d hd
 have Zb:(storeCells ⟨w.heap.size+1,0,none⟩ cw).run p_ ((w.alloc (.cells (Ka d).toArray 284)).alloc (.cells Q3 322)).drew=.ok () ((w.alloc (.cells (Ka d).toArray 284)).alloc (.cells cw.toArray 322)).drew:=by
  have:=zBB (P:=p_) (w.alloc (.cells (Ka d).toArray 284)).drew Q3 322 cw (by rw[Ee,By]) (by rw[Px];exact qY _);rw[show(w.alloc (.cells (Ka d).toArray 284)).drew.heap.size=w.heap.size+1 by simp] at this;exact this
 have qi:(w.alloc (.cells (Ka d).toArray 284)).rangeAt w.heap.size 0 (Ka d):=jD (Go.heap_alloc_new w _) (fun j _=>by rw[TZ]);have hu:=underlying284;have Yf:(Ka d).length=96:=(cM d).trans hd;have hi:(XZ.info? 284).map (·.size)=some (Ka d).length:=by rw[Yf];exact nV
 have Ba:Below (w.alloc (.cells (Ka d).toArray 284)).heap.size (w.alloc (.cells (Ka d).toArray 284)) ((w.alloc (.cells (Ka d).toArray 284)).alloc (.cells cw.toArray 322)).drew:=(a_ (w.alloc (.cells (Ka d).toArray 284)) (.cells cw.toArray 322)).drew;have za:Below (w.alloc (.cells (Ka d).toArray 284)).heap.size (w.alloc (.cells (Ka d).toArray 284)) ((w.alloc (.cells (Ka d).toArray 284)).alloc (.cells Q3 322)).drew:=(a_ (w.alloc (.cells (Ka d).toArray 284)) (.cells Q3 322)).drew;have Lm:=aa (aA za c3);have Qq:=aa (mF za qi);have Km:=aa (aA Ba c3);have Hi:=aa (mF Ba qi);have zb:=aa (aB ze (n_ _) Ba);have H1:=aa h1;have H2:=aa h2;have H4:=aa h4;have H5:=aa h5;have H6:=aa h6;have HS:=aa hS;clear h1 h2 h4 h5 h6 hS By Px Ba za ze;go_enter func211,ntmps211;go_wp2_with (fail)
 go_region_held3 (fun w'=>w'.cell? ⟨db,3,none⟩=some (.int .i64 q)/\w'.rangeAt w.heap.size 0 (Ka d)) (first|exact⟨Km.out,Hi.out⟩|exact⟨Lm.out,Qq.out⟩|go_keep) (fail)
 have YJ:=aa (H1.out.kept (w':=((w.alloc (.cells (Ka d).toArray 284)).alloc (.cells cw.toArray 322)).drew) (zb.out.block db Tm));have Jm:=aa (H2.out.kept fun k _ hk=>zb.out.block k (H2.out.lt Tm hk));have ik:Hid (((w.alloc (.cells (Ka d).toArray 284)).alloc (.cells cw.toArray 322)).drew.rangeAt (w.heap.size+1) 0 cw):=jD (fr:=(0,0)) (t:=322) (by have:=Go.heap_alloc_new (w.alloc (.cells (Ka d).toArray 284)) (.cells cw.toArray 322);rw[show(w.alloc (.cells (Ka d).toArray 284)).heap.size=w.heap.size+1 by simp] at this;exact this) (fun j _=>by rw[TZ]);have rq:Hid (((w.alloc (.cells (Ka d).toArray 284)).alloc (.cells cw.toArray 322)).drew.heap.size=w.heap.size+2):=by simp[Hid]
 clear Km Hi Lm Qq Zb qi hfw c3 hu hi;generalize ((w.alloc (.cells (Ka d).toArray 284)).alloc (.cells cw.toArray 322)).drew=W2 at *;have yt:a<lv.length:=by rw[Jm.out.nl,<-Jm.out.nn];exact ha
 have Lx:a<Fa.length:=by rw[Jm.out.no,<-Jm.out.nn];exact ha
 have Vq:=aa (Jm.out.own a yt Lx);have c2:=YJ.out.c2;have cl:W2.cell? ⟨lb,a,none⟩=some lv[a]:=by rw[cell_of_row W2 lb a _ _ _ Jm.out.hl,d_];exact List.getElem?_eq_getElem yt
 have Ir:Fa[a].length<=64:=H4.out.short Lx;have hpq:W2.cell? ⟨w.heap.size+1,0,none⟩=some (.int .i64 q):=ik.out 0 _ (by rw[Ny.out];rfl);have bu:Hid (lv[a].ownBlock≠some (w.heap.size+1)):=fun e=>by have:=H2.out.lt Tm (.inr (.inr (.inr (.inr ⟨a,yt,e⟩))));omega
 have IU:Hid (∀ W,W2.heap=W.heap->Calls p_ 246 #[lv[a],.func (.func 247) #[] #[.pointer (some ⟨w.heap.size+1,0,none⟩)]] W fun e w'=>∃ ao m cap,e=.returned (.slice ao m cap)/\Ot W w' B lv[a] (.slice ao m cap) (Wb q Fa[a])):=fun W hW=>
  zMt (w.heap.size+1) q lv[a] Fa[a] B W ((b_ (by rw[hW])).trans hpq) (gD Vq.out fun k _=>by rw[hW]) bu.out (by omega) (by rw[<-hW,rq.out];omega)
 have Qx:db<W2.heap.size:=by rw[rq.out];omega
 have JD:lb<W2.heap.size:=AZ _ _ cl;have Iu:(a:Int)<(n:Int):=by rw[<-Jm.out.nn];omega
 have VO:(0:Int)<=(a:Int):=by omega
 have fl:W2.frozen? ⟨lb,a,none⟩=false:=by simp[World.frozen?,Jm.out.hl]
 have Rg:Hid (lv[a].ownBlock≠some db/\lv[a].ownBlock≠some lb):=⟨fun e=>(Jm.out.tq a yt _ e).1 rfl,fun e=>(Jm.out.tq a yt _ e).2.2.2 rfl⟩;generalize Iq:lv[a]=va at *;have Ty:=aa Iq;clear Iq;have dw:∀ (w3:World) (ao:Option Addr) (m cap:Nat),Ot W2.drew w3 B va (.slice ao m cap) (Wb q Fa[a])->w3.cell? ⟨db,2,none⟩=some (.slice (some ⟨lb,0,none⟩) n n)/\w3.cell? ⟨lb,a,none⟩=some va/\w3.frozen? ⟨lb,a,none⟩=false:=fun w3 ao m cap hD=>by
  have e1:w3.heap[db]?=W2.heap[db]?:=hD.Ma db Rg.out.1 Qx;have e2:w3.heap[lb]?=W2.heap[lb]?:=hD.Ma lb Rg.out.2 JD;exact⟨(b_ (a:=⟨db,2,none⟩) e1).trans c2,(b_ (a:=⟨lb,a,none⟩) e2).trans cl,(CZ (a:=⟨lb,a,none⟩) e2).trans fl⟩
 have ZV:=aa dw;clear dw;go_wp2_with (fail)
 go_cut [] (fun wx=>∃ ao m cap w3,Ot W2.drew w3 B va (.slice ao m cap) (Wb q Fa[a])/\w3.setCell ⟨lb,a,none⟩ (.slice ao m cap)=wx)
 case first=>
  go_region_law (first
   | (go_simp;go_at_call 246;refine(IU.out W2.drew rfl).mono ?_;rintro e w3 ⟨ao,m,cap,rfl,hD⟩;obtain⟨PW,cl',fl'⟩:=ZV.out w3 ao m cap hD;have HD:=aa hD;clear hD))
  all_goals (go_wp2_with fail;go_meet;exact⟨ao,m,cap,w3,HD.out,rfl⟩)
 case rest=>
  obtain⟨ao,m,cap,w3,hD,rfl⟩:=hcut;have e1:w3.heap[db]?=W2.heap[db]?:=hD.Ma db Rg.out.1 Qx;have e2:w3.heap[lb]?=W2.heap[lb]?:=hD.Ma lb Rg.out.2 JD;have NP:w.heap.size+1<W2.heap.size:=by rw[rq.out];omega
  have e3:w3.heap[w.heap.size+1]?=W2.heap[w.heap.size+1]?:=hD.Ma _ bu.out NP;have Tf:W2.heap.size<=w3.heap.size:=hD.Ia.size;have Up:w3.heap[lb]?=some (.cells lv.toArray 323 (0,0)):=e2.trans Jm.out.hl;have k4:∀ k,k≠lb->(w3.setCell ⟨lb,a,none⟩ (.slice ao m cap)).heap[k]?=w3.heap[k]?:=fun k hk=>h_ _ _ _ _ hk;have BI:(w3.setCell ⟨lb,a,none⟩ (.slice ao m cap)).heap[lb]?=some (.cells (lv.set a (.slice ao m cap)).toArray 323 (0,0)):=by
   rw[setCell_eq_setRow w3 lb a lv.toArray _ _ _ Up,setRow_heap w3 lb lv.toArray _ _ _ Up];simp
  have AE:w.heap.size+1≠lb:=by have:=H2.out.lt Tm (.inr (.inr (.inr (.inl rfl))));omega
  have zg:=Jm.out.ap.2.2.1;have c2:(w3.setCell ⟨lb,a,none⟩ (.slice ao m cap)).cell? ⟨db,2,none⟩=some (.slice (some ⟨lb,0,none⟩) n n):=((b_ (a:=⟨db,2,none⟩) ((k4 db zg).trans e1))).trans c2;have cl:(w3.setCell ⟨lb,a,none⟩ (.slice ao m cap)).cell? ⟨lb,a,none⟩=some (.slice ao m cap):=by
   rw[cell_of_row _ lb a _ _ _ BI,d_,List.getElem?_set_self yt]
  have fl:(w3.setCell ⟨lb,a,none⟩ (.slice ao m cap)).frozen? ⟨lb,a,none⟩=false:=by simp[World.frozen?,BI]
  have Sy:Hid ((w3.setCell ⟨lb,a,none⟩ (.slice ao m cap)).rangeAt (w.heap.size+1) 0 cw):=fun j v hv=>(b_ ((k4 _ AE).trans e3)).trans (ik.out j v hv);have fw:(FZ ao m cap).ownBlock≠some lb:=by rw[hD.same];exact Rg.out.2
  have Tw:Hid (Re (w3.setCell ⟨lb,a,none⟩ (.slice ao m cap)) B (.slice ao m cap) (Wb q Fa[a])):=gD hD.own fun k e=>k4 k fun e2=>fw (e2▸e);have Hw:Hid (∀ k,k<W2.heap.size->k≠lb->va.ownBlock≠some k->(w3.setCell ⟨lb,a,none⟩ (.slice ao m cap)).heap[k]?=W2.heap[k]?):=fun k h1 h2 h3=>(k4 k h2).trans (hD.Ma k h3 h1);have jj:Hid (Below B W2 (w3.setCell ⟨lb,a,none⟩ (.slice ao m cap))):=(((r_ _ _).drew).trans hD.Ia).setCell (p:=⟨lb,a,none⟩) Jm.out.lo.2.2.2 _;have MA:=aa hD.same;have Ry:=aa BI;have Po:W2.heap.size<=(w3.setCell ⟨lb,a,none⟩ (.slice ao m cap)).heap.size:=by simpa using Tf
  clear hD e1 e2 e3 Up BI k4 Tf fw AE IU ZV;generalize w3.setCell ⟨lb,a,none⟩ (.slice ao m cap)=W4 at *;have Xj:=aa (zF2 (w:=W4.drew) (g:=w.heap.size+1) (o:=0) (x:=(q,d)) (by rw[<-Ny.out];exact(World.rangeAt_drew _ _ _ _).2 Sy.out) hd);rw[<-Ny.out] at Xj;have HBS:Hid ((O6 323 1 #[(0,.agg cw.toArray)]).run p_ W4.drew=.ok (.slice (some ⟨W4.heap.size,0,none⟩) 1 1) (W4.alloc (.cells cw.toArray 322)).drew):=by
   rw[Ny.out];exact zMb (q,d) hd W4.drew
  obtain⟨i0,z0,Qb,Xb,Yc,te,Kq⟩:=wM;have a0C:(Wb q Fa[a]).length<=64:=BZ (zD2 _ _) Ir;have DI:m=(Wb q Fa[a]).length:=by
   rcases Tw.out.1.2 with⟨e,e2⟩|⟨g',Pb,a0j,e,_⟩
   ·cases e;exact e2.symm
   ·cases e;rfl
  have GV:Hid ((W4.alloc (.cells cw.toArray 322)).drew.ownsRow B 322 97 (.slice ao m cap) m ((Wb q Fa[a]).flatMap bL)):=by
   rw[DI];exact((DI▸Tw.out.1).alloc _).drew
  have Od:Hid (∀ j u,cw[j]?=some u->(W4.alloc (.cells cw.toArray 322)).drew.cell? ((⟨W4.heap.size,0,none⟩:Addr).add j)=some u):=V2 (cs:=cw.toArray) (t:=322) (fr:=(0,0)) (heap_alloc_new W4 _);have Km:Hid (∀ v∈cw,v.oneCell'=true):=by rw[Ny.out];exact qY _
  have ZN:db<W4.heap.size:=by omega
  have KD:lb<W4.heap.size:=by omega
  have tn:Hid ((FZ ao m cap).ownBlock≠some db/\(FZ ao m cap).ownBlock≠some lb):=by rw[MA.out];exact Rg.out
  have PK:Hid (B<=W4.heap.size):=aa (by have:=jj.out.size;omega);have Lr:m<=64:=by omega
  have Zt:=aa DI;clear DI;have HAF:Hid (∀ w5:World,K7 (W4.alloc (.cells cw.toArray 322)).drew w5 (FZ ao m cap).ownBlock->w5.cell? ⟨db,2,none⟩=some (.slice (some ⟨lb,0,none⟩) n n)/\w5.cell? ⟨lb,a,none⟩=some (.slice ao m cap)/\w5.frozen? ⟨lb,a,none⟩=false):=fun w5 Oa=>
   ⟨(Oa.cell_far _ (by simp;omega) (Ne.symm tn.out.1)).trans (aA (a_ _ _).drew c2),(Oa.cell_far _ (by simp;omega) (Ne.symm tn.out.2)).trans (aA (a_ _ _).drew cl),(Oa.frozen_far _ (by simp;omega) (Ne.symm tn.out.2)).trans (aE (a_ _ _).drew KD fl)⟩
  go_wp2_with (fail)
  go_cut [] (fun wx=>∃ g Dc w5,w5.ownsRow B 322 97 (.slice (some ⟨g,0,none⟩) (m+1) Dc) (m+1) ((Wb q Fa[a]).flatMap bL++cw)/\K7 (W4.alloc (.cells cw.toArray 322)).drew w5 (FZ ao m cap).ownBlock/\((FZ ao m cap).ownBlock=some g∨g=W4.heap.size+1)/\w5.setCell ⟨lb,a,none⟩ (.slice (some ⟨g,0,none⟩) (m+1) Dc)=wx)
  case first=>
   have Hr:(zLH T9 (.pointer (some ⟨w.heap.size+1,0,none⟩))).run p_ W4.drew=.ok (.agg cw.toArray) W4.drew:=Xj.out;have UH:(zLL O6 #[(0,.agg cw.toArray)]).run p_ W4.drew=.ok (.slice (some ⟨W4.heap.size,0,none⟩) 1 1) (W4.alloc (.cells cw.toArray 322)).drew:=HBS.out;have cl4:(W4.alloc (.cells cw.toArray 322)).cell? ⟨lb,a,none⟩=some (.slice ao m cap):=aA (a_ _ _) cl;have c24:(W4.alloc (.cells cw.toArray 322)).cell? ⟨db,2,none⟩=some (.slice (some ⟨lb,0,none⟩) n n):=aA (a_ _ _) c2
   go_region_law ((refine step_append_lies _ (by rfl) _ _ _ (by rfl) B 322 i0 z0 97 104 underlying323 Qb Xb Yc te Kq (by omega) (.slice ao m cap) m ((Wb q Fa[a]).flatMap bL) (by rfl) GV.out ⟨W4.heap.size,0,none⟩ 1 1 cw (by rfl) (by rw[Ee]) Od.out Km.out (by omega) (by unfold maxLen;omega) (by omega) (by have:=PK.out;simp;omega) (W4.heap.size+1) (by simp) ?_;intro g Dc w5 Xi Oa qg om;obtain⟨PW,cl',fl'⟩:=HAF.out w5 Oa;have pq:=aa Xi;have Kw:=aa Oa;have IG:=aa qg;clear Xi Oa qg))
   all_goals (go_wp2_with fail;go_meet;exact⟨g,Dc,w5,pq.out,Kw.out,IG.out,rfl⟩)
  case rest=>
   obtain⟨g,Dc,w5,Xi,Oa,qg,rfl⟩:=hcut;have TI:(W4.alloc (.cells cw.toArray 322)).drew.heap.size=W4.heap.size+1:=by simp
   have f5:∀ k,k<W4.heap.size->(FZ ao m cap).ownBlock≠some k->w5.heap[k]?=W4.heap[k]?:=fun k hk hn=>(Oa.block k (by rw[TI];omega) (Ne.symm hn)).trans ((a_ W4 (.cells cw.toArray 322)).block k hk);have TO:w5.heap[lb]?=some (.cells (lv.set a (.slice ao m cap)).toArray 323 (0,0)):=(f5 lb KD tn.out.2).trans Ry.out;have hd5:w5.heap[db]?=W2.heap[db]?:=(f5 db ZN tn.out.1).trans (Hw.out db Qx zg Rg.out.1);have Gr:(w5.setCell ⟨lb,a,none⟩ (.slice (some ⟨g,0,none⟩) (m+1) Dc)).heap[lb]?=some (.cells (lv.set a (.slice (some ⟨g,0,none⟩) (m+1) Dc)).toArray 323 (0,0)):=by
    rw[setCell_eq_setRow w5 lb a (lv.set a (.slice ao m cap)).toArray _ _ _ TO,setRow_heap w5 lb (lv.set a (.slice ao m cap)).toArray _ _ _ TO];simp
   have k6:∀ k,k≠lb->(w5.setCell ⟨lb,a,none⟩ (.slice (some ⟨g,0,none⟩) (m+1) Dc)).heap[k]?=w5.heap[k]?:=fun k hk=>h_ _ _ _ _ hk;have NH:vi (w5.setCell ⟨lb,a,none⟩ (.slice (some ⟨g,0,none⟩) (m+1) Dc)) db nb kb lb n q L s.down:=YJ.out.kept ((k6 db zg).trans hd5);have c3:=NH.c3;have f3:=NH.soft 3;have AD:g≠lb/\g≠db:=by
    rcases qg with e|e
    ·exact⟨fun e2=>tn.out.2 (e2▸e),fun e2=>tn.out.1 (e2▸e)⟩
    ·omega
   have IP:∀ k,(FZ (some ⟨g,0,none⟩) (m+1) Dc).ownBlock=some k->k=g:=fun k e=>by cases e;rfl
   have AQ:W4.heap.size+1<=w5.heap.size:=by have:=Oa.size;rw[TI] at this;exact this
   have Xv:∀ nx:Int,Re ((w5.setCell ⟨lb,a,none⟩ (.slice (some ⟨g,0,none⟩) (m+1) Dc)).setCell ⟨db,3,none⟩ (.int .i64 nx)) B (.slice (some ⟨g,0,none⟩) (m+1) Dc) (Wb q Fa[a]++[(q,d)]):=fun nx=>by
    refine gD (w:=w5) ⟨?_,fun x hx=>?_⟩ fun k e=>?_
    ·rw[YY,O4,<-Zt.out];show w5.ownsRow B _ 97 _ (m+1) (_++(bL (q,d)++[]));rw[T1,<-Ny.out];exact Xi
    ·rcases Q0.1 hx with hx|hx
     ·exact Tw.out.2 x hx
     ·rw[GZ] at hx;rw[hx];exact hd
    ·have:=IP k e;subst this;rw[h_ _ _ _ _ AD.2];exact k6 _ AD.1
   have jh:∀ nx:Int,Below B W2 ((w5.setCell ⟨lb,a,none⟩ (.slice (some ⟨g,0,none⟩) (m+1) Dc)).setCell ⟨db,3,none⟩ (.int .i64 nx)):=fun nx=>
    ((jj.out.trans (((r_ B W4).alloc PK.out (.cells cw.toArray 322)).drew.trans ((r_ B _).grown Oa (by rw[TI];have:=PK.out;omega) (fun k hk=>(l_ GV.out k hk).1)))).setCell (p:=⟨lb,a,none⟩) Jm.out.lo.2.2.2 _).setCell (p:=⟨db,3,none⟩) Jm.out.lo.1 _
   have HE:Hid (Xa w ((w5.setCell ⟨lb,a,none⟩ (.slice (some ⟨g,0,none⟩) (m+1) Dc)).setCell ⟨db,3,none⟩ (.int .i64 ((q+1) % 64))) B db S { s with wait:=s.wait++[(a,d)] }):=by
    obtain⟨TN,VE⟩:=Tk.OF (W6:=(w5.setCell ⟨lb,a,none⟩ (.slice (some ⟨g,0,none⟩) (m+1) Dc)).setCell ⟨db,3,none⟩ (.int .i64 ((q+1) % 64))) (v5:=(.slice (some ⟨g,0,none⟩) (m+1) Dc)) YJ.out Jm.out yt (by rw[h_ _ _ _ _ zg.symm];exact Gr) (Xv _)
     (fun k e=>by
      have:=IP k e;subst this;rw[Ty.out,<-MA.out];rcases qg with e2|e2
      ·exact .inl e2
      ·exact .inr (by omega))
     (fun k h1 h2 h3 h4=>by
      rw[Ty.out] at h4;rw[h_ _ _ _ _ h3,k6 k h2,f5 k (by omega) (by rw[MA.out];exact h4)];exact Hw.out k h1 h2 h4)
     (jh _)
    have hlen:(s.wait++[(a,d)]).length=s.wait.length+1:=by simp
    have Lo:(((s.wait++[(a,d)]).length % 64:Nat):Int)=(q+1) % 64:=by rw[hlen,<-HQ.out];omega
    have Bh:=H4.out.note Lx hd;refine⟨Es db nb kb lb (lv.set a (.slice (some ⟨g,0,none⟩) (m+1) Dc)),⟨nb,kb,lb,n,lv.set a (.slice (some ⟨g,0,none⟩) (m+1) Dc),Fa.set a (Wb q Fa[a]++[(q,d)]),L,?_,TN,rfl,?_,fun x hx=>?_,H6.out,?_⟩,?_⟩
    ·show vi _ db nb kb lb n (((s.wait++[(a,d)]).length % 64:Nat):Int) L s.down;rw[Lo];exact NH.next' _
    ·rw[HQ.out] at Bh;exact Bh
    ·rcases Q0.1 hx with hx|hx
     ·exact H5.out x hx
     ·rw[GZ] at hx;rw[hx];exact hd
    ·have:=(jh ((q+1) % 64)).size;have:=rq.out;omega
    ·rw[HS.out];exact(aG.on h7 zb.out).trans VE
   have Qa:=hq0.1;have se:=hq0.2;clear TI f5 TO hd5 Gr k6 NH AD IP AQ Xv jh;generalize w5.setCell ⟨lb,a,none⟩ (.slice (some ⟨g,0,none⟩) (m+1) Dc)=W5 at *;go_wp2;go_end0;exact⟨rfl,HE.out⟩
end
theorem mw {W:World} {b:Nat} {x y z:Value} (h:W.cell? ⟨b,0,none⟩=some x/\W.cell? ⟨b,1,none⟩=some y/\W.cell? ⟨b,2,none⟩=some z):
  (((W.setCell ⟨b,0,none⟩ x).setCell ⟨b,1,none⟩ y).setCell ⟨b,2,none⟩ z).cell? ⟨b,0,none⟩=some x/\(((W.setCell ⟨b,0,none⟩ x).setCell ⟨b,1,none⟩ y).setCell ⟨b,2,none⟩ z).cell? ⟨b,1,none⟩=some y/\(((W.setCell ⟨b,0,none⟩ x).setCell ⟨b,1,none⟩ y).setCell ⟨b,2,none⟩ z).cell? ⟨b,2,none⟩=some z:=by
 obtain⟨h0,h1,h2⟩:=h;refine⟨?_,?_,?_⟩<;>simp[go_sem,h0,h1,h2]
theorem zLx (s:ByteArray) (w:World) (h2:2<=s.size) (hs:s.size<=60000) (x y:Nat) (hx:s[0].toNat=x) (hy:s[1].toNat=y) (hl:2+x+y<=s.size) (k v r:ByteArray) (hk:s.extract 2 (2+x)=k) (hv:s.extract (2+x) (2+x+y)=v) (hr:s.extract (2+x+y) s.size=r) (hf:aD ⟨k,v,false⟩=0):
  Calls p_ 224 #[.string s] w fun e w'=>e=.returned (.tuple #[.agg #[.string k,.string v,.bool false],.string r,.bool true])/\Below w.heap.size w w':=by
 have x8:x<256:=by rw[<-hx];exact UInt8.toNat_lt _
 have y8:y<256:=by rw[<-hy];exact UInt8.toNat_lt _
 have Wh:k.size<=maxLen:=by rw[<-hk,P8];unfold maxLen;omega
 have HK:=fun w'=>aa (gB ⟨k,v,false⟩ w' Wh);rw[hf] at HK;simp only[pa,if_true] at HK;have hB:=a_ w OX;have fz:=aQ w #[v_ ⟨#[]⟩,v_ ⟨#[]⟩,D5 false] 99;have xi0:(0:Int)<=(x:Int):=by omega
 have xi1:(x:Int)<256:=by omega
 have yi0:(0:Int)<=(y:Int):=by omega
 have yi1:(y:Int)<256:=by omega
 have d1:decide ((s.size:Int)<2)=false:=by simp;omega
 have d3:decide ((s.size:Int)<2+(x:Int)+(y:Int))=false:=by simp;omega
 have g1:1<(s.size:Int):=by omega
 have g0:0<s.size:=by omega
 have i1:(0:Int)<=2+(x:Int):=by omega
 have i2:2+(x:Int)<=(s.size:Int):=by omega
 have i3:(2:Int)<=2+(x:Int):=by omega
 have i4:2+(x:Int)<=2+(x:Int)+(y:Int):=by omega
 have i5:2+(x:Int)+(y:Int)<=(s.size:Int):=by omega
 have i6:(0:Int)<=2+(x:Int)+(y:Int):=by omega
 have n1:(2+(x:Int)).toNat=2+x:=by omega
 have n2:(2+(x:Int)+(y:Int)).toNat=2+x+y:=by omega
 have HF:=aa hf;have Xt:=aa hk;have HVE:=aa hv;have qq:=aa hr;clear hf hk hv hr Wh;replace n1:=aa n1;replace n2:=aa n2;go_enter func224,ntmps224;go_wp2
 go_region_held3 (fun _=>True) (trivial) (fail)
 rw[n1.out,n2.out,Xt.out,HVE.out];go_wp2_with (fail)
 clear hB fz;have hW:Below w.heap.size w (w.alloc (TX k v)).drew:=(a_ w _).drew;have a0:(w.alloc (TX k v)).drew.cell? ⟨w.heap.size,0,none⟩=some (.string k):=aC w _ _ 0;have a1:(w.alloc (TX k v)).drew.cell? ⟨w.heap.size,1,none⟩=some (.string v):=aC w _ _ 1;have a2:(w.alloc (TX k v)).drew.cell? ⟨w.heap.size,2,none⟩=some (.bool false):=aC w _ _ 2;have fz:∀ j,(w.alloc (TX k v)).drew.frozen? ⟨w.heap.size,j,none⟩=false:=aQ w _ _;have We:w.heap.size<(w.alloc (TX k v)).drew.heap.size:=by simp
 generalize (w.alloc (TX k v)).drew=w0 at *;have HW:=aa hW;clear hW
 go_region_held3 (fun w'=>w'.cell? ⟨w.heap.size,0,none⟩=some (.string k)/\w'.cell? ⟨w.heap.size,1,none⟩=some (.string v)/\w'.cell? ⟨w.heap.size,2,none⟩=some (.bool false)) (first|go_keep|exact⟨a0,a1,a2⟩|exact Hi.out|exact mw Hi.out) (first|(go_at_call 145;refine((HK _).out).mono ?_;rintro e w2 ⟨rfl,za⟩;replace za:Below w0.heap.size w0 w2:=(by first|exact za|exact aB (r_ _ _).drew (n_ _) za);have Hi:=aa (And.intro (aA za a0) (And.intro (aA za a1) (aA za a2)));have f2:=(fun j=>aE za We (fz j));have c0:=aA za a0;have c1:=aA za a1;have c2:=aA za a2;have Cb:=aa za;clear za))
 rw[n2.out,qq.out];clear n1 n2;go_wp2;obtain⟨k0,k1,k2⟩:=mw Hi.out;exact bodyPost_ret (v:=.tuple #[.agg #[.string k,.string v,.bool false],.string r,.bool true]) (by simp[results,results224,go_sem,k0,k1,k2]) rfl ⟨rfl,(((aB HW.out (n_ _) Cb.out).setCell (n_ _) _).setCell (n_ _) _).setCell (n_ _) _⟩
section
variable (c:ma) (r:ByteArray)
theorem wY:(jd c++r).size=2+c.key.size+c.val.size+r.size:=by rw[I1,oA]
theorem zNd (h:0<(jd c++r).size) (hk:c.key.size<=255):(jd c++r)[0].toNat=c.key.size:=by
 simp only[jd,D3,L1,Y5];simp;omega
theorem zNa (h:1<(jd c++r).size) (hk:c.val.size<=255):(jd c++r)[1].toNat=c.val.size:=by
 simp only[jd,D3,L1,Y5];simp;omega
theorem zLS:(jd c++r).extract 2 (2+c.key.size)=c.key:=by
 rw[jd,jL,jL];exact(J4 (i:=0) rfl).trans (M4 rfl)
theorem zMf:(jd c++r).extract (2+c.key.size) (2+c.key.size+c.val.size)=c.val:=by
 rw[jd,jL];exact(J4 (i:=0) (by rw[I1];rfl)).trans (M4 rfl)
theorem zKC:(jd c++r).extract (2+c.key.size+c.val.size) (jd c++r).size=r:=by
 refine E7 ?_ ?_
 ·rw[oA]
 ·rw[wY,oA]
theorem zL7 (w:World) (hf:aD c=0) (hg:c.gone=false) (hr:r.size<=50000):
  Calls p_ 224 #[.string (jd c++r)] w fun e w'=>e=.returned (.tuple #[.agg #[.string c.key,.string c.val,.bool false],.string r,.bool true])/\Below w.heap.size w w':=by
 obtain⟨hk,hv⟩:=iS hf;have hs:=wY c r;have e:(⟨c.key,c.val,false⟩:ma)=c:=by cases c;cases hg;rfl
 exact zLx (jd c++r) w (by omega) (by omega) _ _ (zNd c r (by omega) (by omega)) (zNa c r (by omega) (by omega)) (by omega) _ _ _ (zLS c r) (zMf c r) (zKC c r) (by rw[e];exact hf)
end
def fH (l:List ma):Prop:=(∀ c∈l,aD c=0/\c.gone=false)/\Pc l
def nQ (l:List ma):ByteArray:=match l.getLast? with
 | some c=>c.key
 | none=>⟨#[]⟩
def zNh:Value->Nat
 | .string s=>s.size
 | _=>0
theorem zKk (h:aD c=0):c.key≠Q1:=by
 intro e;unfold aD at h;rw[e] at h;have k:Fc Q1.data.toList=false:=by decide +kernel
 rw[k] at h;cases h
theorem zL1 {l:List ma} (hf:fH l) (hk:k<l.length):jb (nQ (l.take k)) l[k].key=true:=by
 cases k with
 | zero=>
  have hn:=zKk (hf.1 _ (MZ hk)).1;show jb Q1 l[0].key=true;rcases jZ Q1 l[0].key with h|h|h
  ·exact h
  ·exact absurd h.symm hn
  ·rw[zLQ] at h;cases h
 | succ j=>
  have e:nQ (l.take (j+1))=l[j].key:=by
   unfold nQ;rw[ZY (by omega),g_];rfl
  rw[e];exact List.pairwise_iff_getElem.1 hf.2 j (j+1) (by omega) hk (by omega)
theorem zJl (l:List ma) (c:ma):nQ (l++[c])=c.key:=by
 unfold nQ;rw[g_];rfl
theorem zJj {l:List ma} (h:w.ownsRow B 99 3 v (l.length+1) (cG l++bN c)):bO w B v (l++[c]):=by
 unfold bO;rw[YY,cG,O4,List.flatMap_cons,List.flatMap_nil,T1];exact h
theorem zEz (l:List ma) (w:World) (hl:l.length<=500) (hf:fH l):
  Calls p_ 175 #[.string (aO l)] w fun e w'=>∃ v,e=.returned (.tuple #[v,.bool true])/\bO w' w.heap.size v l/\Below w.heap.size w w':=by
 have HF:=aa hf;clear hf;go_enter func175,ntmps175;go_wp2
 go_loopw [0,4,5] (fun tv v lv wr=>∃ k:Nat,k<=l.length/\tv=.string (aO (l.drop k))/\lv=.string (nQ (l.take k))/\bO wr w.heap.size v (l.take k)/\Below w.heap.size w wr) (fun tv _ _ _=>zNh tv)
 case atStart=>exact⟨0,Nat.zero_le _,rfl,rfl,⟨rfl,.inl ⟨rfl,rfl⟩⟩,r_ _ _⟩
 case round=>
  obtain⟨k,hk,rfl,rfl,ho,hb⟩:=hrel;by_cases Aa:k<l.length
  ·have hd:aO (l.drop k)=jd l[k]++aO (l.drop (k+1)):=by rw[List.drop_eq_getElem_cons Aa];rfl
   obtain⟨Qc,Ld⟩:=HF.out.1 _ (MZ Aa);have Zv:(aO (l.drop (k+1))).size<=50000:=by
    have h1:=sP (l.drop (k+1)) 55 fun c hc=>by have:=iS (HF.out.1 c (List.mem_of_mem_drop hc)).1;omega
    rw[UZ] at h1;have:(l.length-(k+1))*(55+2)<=500*57:=Nat.mul_le_mul (by omega) (by omega);omega
   have HC:=fun w'=>aa (zL7 l[k] (aO (l.drop (k+1))) w' Qc Ld Zv);rw[hd];have Mb:=wY l[k] (aO (l.drop (k+1)));generalize Cl:aO (l.drop (k+1))=rest at *;have IE:v_ rest=.string (aO (l.drop (k+1))):=by rw[Cl]
   clear Cl;have KA:=aa IE;clear IE;generalize jd l[k]++rest=s at *;have We:s≠Q1:=fun e=>by rw[e] at Mb;have:Q1.size=0:=rfl;omega
   have he:s.toList.isEmpty=false:=by
    have:=mt (zJG s).1 We;simpa[Gf] using this
   have Iu:=zL1 HF.out Aa;have l1:Op.bytesLess l[k].key.toList (nQ (l.take k)).toList=false:=kP Iu;have l2:(l[k].key.toList==(nQ (l.take k)).toList)=false:=(xD _ _).trans (uM Iu);have Tv:(l.take k).length=k:=by rw[XY];omega
   have Zm:l.take (k+1)=l.take k++[l[k]]:=ZY Aa;have HO:=aa ho;have HB:=aa hb;have HT:=aa Zm;have HS:=aa Mb;have HG:=aa Ld;clear ho hb Iu We Zm Mb Qc Ld Zv;generalize nQ (l.take k)=la at *;generalize l[k]=x at *;generalize l.take k=lt at *;obtain⟨i0,Qb,Xb,Yc,te⟩:=info_parts qS;go_wp2_with (fail)
   refine((HC _).out).mono ?_;rintro e w7 ⟨rfl,Af⟩;have Gi:=aa Af;clear Af;go_wp2_with (fail)
   have e3:#[v_ x.key,v_ x.val,D5 false]=(bN x).toArray:=by unfold bN;rw[HG.out]
   have Hl:=aa (aB Gi.out (n_ _) (a_ w7 (o_ #[.string x.key,.string x.val,.bool false] 99)));obtain⟨a0,a1,a2,-⟩:=Nf w7 (o_ #[.string x.key,.string x.val,.bool false] 99) rfl rfl;have Ng:=aa (bQ HO.out Hl.out);have MN:some w7.heap.size≠u4.ownBlock:=fun e=>by
    have h1:=(HO.out.lt _ e.symm).2;have h2:=Gi.out.size;omega
   have Ee:w7.heap.size<(w7.alloc (o_ #[.string x.key,.string x.val,.bool false] 99)).heap.size:=by simp
   have Qi:w.heap.size<=(w7.alloc (o_ #[.string x.key,.string x.val,.bool false] 99)).heap.size:=BZ HB.out.size Hl.out.size;have hg:=HG.out;generalize VN:w7.heap.size=cb at *;generalize w7.alloc (o_ #[.string x.key,.string x.val,.bool false] 99)=W at *;have Od:Hid (∀ j u,(bN x)[j]?=some u->(W.alloc (o_ #[.string x.key,.string x.val,.bool false] 99)).drew.cell? ((⟨W.heap.size,0,none⟩:Addr).add j)=some u):=by
    rw[e3];exact V2 (cs:=(bN x).toArray) (t:=99) (fr:=(0,0)) (heap_alloc_new W _)
   clear VN e3 hg;have d0:=aA (a_ W (o_ #[.string x.key,.string x.val,.bool false] 99)).drew a0
   go_region_law ((refine step_append_lies _ (by rfl) _ _ _ (by rfl) w.heap.size 99 i0 _ 3 40 underlying36 Qb Xb Yc te rfl (by omega) u4 lt.length (cG lt) (by rfl) ((Ng.out.alloc _).drew) ⟨W.heap.size,0,none⟩ 1 1 (bN x) (by rfl) (by rfl) Od.out (by simp[bN,Value.oneCell']) (by omega) (by unfold maxLen;omega) (by omega) (by simp;omega) (W.heap.size+1) (by simp) ?_;intro g5 Dc w5 Xi Ti qg om;have e5:w5.heap[cb]?=W.heap[cb]?:=(Ti.block cb (by simp;omega) MN).trans ((a_ W _).drew.block cb Ee);have d5:=(b_ (a:=⟨cb,0,none⟩) e5).trans a0))
   all_goals
    have pq:=aa (zJj Xi);have Wf:=aa ((aB (aB HB.out (n_ _) Hl.out) (n_ _) (a_ W (o_ #[.string x.key,.string x.val,.bool false] 99)).drew).grown Ti (by simp;omega) (fun k hk=>(Ng.out.lt k hk).1));clear e5 d5 Xi Ti qg om;go_wp2;go_roundw
    case rel=>
     have r1:bO w5 w.heap.size (.slice (some ⟨g5,0,none⟩) (k+1) Dc) (l.take (k+1)):=by
      rw[HT.out];have:=pq.out;rw[Tv] at this;exact this
     have r2:nQ (l.take (k+1))=x.key:=by rw[HT.out,zJl]
     first
      | exact⟨k+1,by omega,KA.out,by rw[r2],r1,Wf.out⟩
      | exact⟨.string rest,u2,u3,.slice (some ⟨g5,0,none⟩) (k+1) Dc,.string x.key,_,_,_,_,_,_,_,_,_,_,_,_,_,_,_,_,_,_,_,_,_,_,_,_,_,_,⟨k+1,by omega,KA.out,by rw[r2],r1,Wf.out⟩,rfl⟩
    case measure=>
     show rest.size<s.size;rw[HS.out];omega
  ·have ek:k=l.length:=by omega
   subst ek;have e1:aO (l.drop l.length)=⟨#[]⟩:=by rw[List.drop_length];rfl
   rw[e1];rw[List.take_length] at ho;have HO:=aa ho;have HB:=aa hb;clear ho hb;go_wp2;go_ret2;exact⟨_,rfl,HO.out,HB.out⟩
section
variable {w w':World} {N B:Nat} {S S':Nat->Prop} {v:Value} {l:List Dd}
theorem zGr {d:Dd} (h:ET w N d):bW w d.ao d.ba:=by
 by_cases h0:d.ba=[]
 ·exact .inl h0
 ·obtain⟨g,cap,hv,hc⟩:=zDr h (List.length_pos_iff.2 h0);have e:d.ao=some ⟨g,0,none⟩:=by unfold Ip at hv;simp only[FZ.injEq] at hv;exact hv.1
  exact .inr ⟨g,0,e,hc.2⟩
end
end
end Go.Proofs.YtcfjimdfegejaaaGreatDoor
