import Derived.Test.YtnboipekkahmnaaGreatDoorS02
set_option maxHeartbeats 8000000
set_option maxRecDepth 100000
namespace Go.Proofs.YtnboipekkahmnaaGreatDoor
open Obj renaming cells→o_
open World renaming cell?_of_block→b_,cell?_setCell_other→t_,cell?_setCell_same→u_,ownsRow.lt→l_
open Go.RowKit.Below renaming heap_setCell→h_,refl→r_
open Nat renaming le_refl→n_
open Tryz renaming prog→p_
open Value renaming int→i_
open Go.Joins renaming below_alloc1→a_
section
open Go.RowKit Go.Joins
attribute [local go_sem ↓] Go.wp_at_zero Go.wp_at_succ
structure LHd (w:World) (lb db fr many first used:Nat):Prop where
 c0:w.cell? ⟨lb,0,none⟩=some (.pointer (some ⟨db,0,none⟩))
 c1:w.cell? ⟨lb,1,none⟩=some (.int .i64 (fr:Int))
 c2:w.cell? ⟨lb,2,none⟩=some (.int .i64 (many:Int))
 c3:w.cell? ⟨lb,3,none⟩=some (.int .i64 (first:Int))
 c4:w.cell? ⟨lb,4,none⟩=some (.int .i64 (used:Int))
 soft:∀ j,w.frozen? ⟨lb,j,none⟩=false
structure RdW (w wr:World) (B lb:Nat):Prop where
 bel:Below B w wr
 far:∀ j,j<w.heap.size->j≠lb->wr.heap[j]?=w.heap[j]?
def eB (s:DSt) (fr many:Nat):List ByteArray:=(s.now.drop fr).take many
def zJi (w:World) (N:Nat) (v:Value) (l:List Dd):Prop:=w.ownsRow N 36 1 v l.length (l.map ddV)/\(∀ d∈l,zGV w N d)/\(l=[]->v=.slice none 0 0)
section
variable {w wr w':World} {B lb db fr many first used:Nat} {S:Nat->Prop} {s:DSt}
theorem LHd.kept (h:LHd w lb db fr many first used) (e:w'.heap[lb]?=w.heap[lb]?):LHd w' lb db fr many first used:=
 have c:∀ j v,w.cell? ⟨lb,j,none⟩=some v->w'.cell? ⟨lb,j,none⟩=some v:=fun j _ hv=>(b_ (a:=⟨lb,j,none⟩) e).trans hv
 ⟨c _ _ h.c0,c _ _ h.c1,c _ _ h.c2,c _ _ h.c3,c _ _ h.c4,fun j=>(World.frozen?_of_block (a:=⟨lb,j,none⟩) e).trans (h.soft j)⟩
theorem LHd.lt (h:LHd w lb db fr many first used):lb<w.heap.size:=World.block_lt_of_cell? _ _ h.c0
theorem LHd.use (h:LHd w lb db fr many first used) (n:Nat):LHd (w.setCell ⟨lb,4,none⟩ (.int .i64 (n:Int))) lb db fr many first n:=
 ⟨(t_ _ _ _ _ (by simp)).trans h.c0,(t_ _ _ _ _ (by simp)).trans h.c1,(t_ _ _ _ _ (by simp)).trans h.c2,(t_ _ _ _ _ (by simp)).trans h.c3,u_ _ _ _ h.c4,fun j=>by rw[World.frozen?_setCell];exact h.soft j⟩
theorem RdW.refl (w:World):RdW w w B lb:=⟨r_ _ _,fun _ _ _=>rfl⟩
theorem RdW.more (h:RdW w wr B lb) (hB:B<=w.heap.size) (hb:Below w.heap.size wr w'):RdW w w' B lb:=⟨h.bel.trans (hb.mono hB),fun j hj hn=>(hb.block j hj).trans (h.far j hj hn)⟩
theorem RdW.set (h:RdW w wr B lb) (hl:B<=lb) (j:Nat) (v:Value):RdW w (wr.setCell ⟨lb,j,none⟩ v) B lb:=⟨h.bel.setCell (p:=⟨lb,j,none⟩) hl v,fun k hk hn=>(h_ _ _ _ _ hn).trans (h.far k hk hn)⟩
theorem RdW.disk (h:RdW w wr B lb) (hk:DK w B db S s) (hn:¬S lb):DK wr B db S s:=hk.kept h.bel.size fun k e=>h.far k (hk.lt e) fun e2=>hn (e2▸e)
theorem zKs (s:DSt) (fr many i:Nat) (h:i<many):(eB s fr many)[i]?=s.now[fr+i]?:=by
 unfold eB;rw[List.getElem?_take,if_pos h,List.getElem?_drop]
structure RLI (w wr:World) (B lb db fr many first rb:Nat) (st:RSt) (u:Nat):Prop where
 rd:∃ dv av l,RdI wr w.heap.size rb dv av l st.2/\l.map (·.chs)=st.1
 hd:LHd wr lb db fr many first u
 ww:RdW w wr B lb
def zFn (w w':World) (B lb db fr many first:Nat) (dv:Value) (ds:List (List Chg)) (u:Nat):Prop:=∃ l,zJi w' w.heap.size dv l/\l.map (·.chs)=ds/\LHd w' lb db fr many first u/\RdW w w' B lb
theorem RLI.take {rb u:Nat} {st st':RSt} (h:RLI w wr B lb db fr many first rb st u) (hB:B<=w.heap.size) (hl:lb<w.heap.size) (ht:tL wr w' w.heap.size rb st'.1 st'.2):RLI w w' B lb db fr many first rb st' u:=by
 obtain⟨dv',av',l',h1,h2,h3⟩:=ht;exact⟨⟨dv',av',l',h1,h2⟩,h.hd.kept (h3.block lb hl),h.ww.more hB h3⟩
theorem RLI.on {rb u:Nat} {st:RSt} (h:RLI w wr B lb db fr many first rb st u) (hB:B<=w.heap.size) (hb:Below wr.heap.size wr w'):RLI w w' B lb db fr many first rb st u:=by
 obtain⟨dv,av,l,h1,h2⟩:=h.rd;exact⟨⟨dv,av,l,h1.on hb,h2⟩,h.hd.kept (hb.block lb h.hd.lt),h.ww.more hB (hb.mono h.ww.bel.size)⟩
theorem RLI.use {rb u:Nat} {st:RSt} (h:RLI w wr B lb db fr many first rb st u) (hl:B<=lb) (hlw:lb<w.heap.size) (hrb:w.heap.size<=rb) (n:Nat):RLI w (wr.setCell ⟨lb,4,none⟩ (.int .i64 (n:Int))) B lb db fr many first rb st n:=by
 obtain⟨dv,av,l,h1,h2⟩:=h.rd;refine⟨⟨dv,av,l,h1.kept fun k hk=>h_ _ _ _ _ ?_,h2⟩,h.hd.use n,h.ww.set hl 4 _⟩;have:w.heap.size<=k:=by
  rcases hk with rfl|e|e|⟨d,hd,e⟩
  ·exact hrb
  ·exact(l_ h1.od k e).1
  ·exact(l_ h1.oa k e).1
  ·exact(l_ (h1.hd d hd) k e).1
 show k≠lb;omega
theorem RLI.fin {rb u:Nat} {st:RSt} {dv av:Value} {l:List Dd} {res:List (List Chg)×Nat} (h:RLI w wr B lb db fr many first rb st u) (h1:RdI wr w.heap.size rb dv av l st.2) (h2:l.map (·.chs)=st.1) (e:(st.1,u)=res):zFn w wr B lb db fr many first dv res.1 res.2:=by
 subst e;exact⟨l,⟨h1.od,h1.hd,h1.dz⟩,h2,h.hd,h.ww⟩
theorem zJe (w:World) (hk:DK w B db S s) (hh:LHd w lb db fr many first 0) (hn:¬S lb) (hl:B<=lb) (hd:s.down=false) (hf:first<=1500000) (hm:fr+many<=s.now.length):
  Calls p_ 253 #[.pointer (some ⟨lb,0,none⟩)] w fun e w'=>∃ dv,e=.returned (.tuple #[dv,.nilIface])/\zFn w w' B lb db fr many first dv (mX (eB s fr many) first) (mH (eB s fr many) first):=by
 have c2:=hh.c2;have hll:=hh.lt;have hmany:=hk.many;have HK:=hide hk;have hlen:(eB s fr many).length=many:=by unfold eB;rw[List.length_take,List.length_drop];omega
 have H96:Hid (∀ i (h:i<(eB s fr many).length),(eB s fr many)[i].size=96):=fun i h=>hk.whole.1 _ (List.mem_of_mem_drop (List.mem_of_mem_take (List.getElem_mem h)));have HRD:Hid (∀ i (h:i<(eB s fr many).length),lI s ((fr:Int)+(i:Int))=0/\nX s ((fr:Int)+(i:Int))=(eB s fr many)[i]):=fun i h=>by
  rw[hlen] at h;have e:lI s ((fr:Int)+(i:Int))=0:=by unfold lI;rw[hd,if_neg (by decide),if_neg (by omega)]
  refine⟨e,?_⟩;unfold nX;rw[if_pos e,show((fr:Int)+(i:Int)).toNat=fr+i by omega,<-zKs s fr many i h,List.getElem?_eq_getElem];rfl
 have HLB:=hide hh;generalize hsec:eB s fr many=secs at *;unfold mX mH;generalize hres:dB first 0 secs ([],[]) 0=res;have HRES:=hide hres;have HLEN:=hide hlen;clear hsec hk hh hd hres hlen;go_enter Tryz.func253,Tryz.ntmps253;go_wp2;have HI0:Hid (RLI w (w.alloc (.cells #[.slice none 0 0,.slice none 0 0] 363)) B lb db fr many first w.heap.size ([],[]) 0):=by
  have hb:=a_ w (.cells #[.slice none 0 0,.slice none 0 0] 363);exact⟨⟨.slice none 0 0,.slice none 0 0,[],⟨aC _ _ _ 0,aC _ _ _ 1,fun j=>aQ _ _ _ j,⟨rfl,.inl ⟨rfl,rfl⟩⟩,⟨rfl,.inl ⟨rfl,rfl⟩⟩,nofun,⟨nofun,nofun⟩,nofun,n_ _,fun _=>rfl⟩,rfl⟩,HLB.out.kept (hb.block lb hll),(RdW.refl w).more HK.out.lo hb⟩
 have hBW:=HK.out.lo;generalize hrb:w.heap.size=rb at HI0;have HRB:=hide hrb;clear hrb
 go_loopw [15] (fun iv wr=>∃ (i:Nat) (st:RSt) (u:Nat),i<=many/\iv=.int .i64 (i:Int)/\RLI w wr B lb db fr many first rb st u/\st.1.length<=i/\st.2.length<=i/\dB first i (secs.drop i) st u=res) (fun iv _=>many-(intOf iv).toNat)
 case atStart=>exact⟨0,_,0,Nat.zero_le _,rfl,HI0.out,n_ _,n_ _,HRES.out⟩
 case round=>
  obtain⟨i,st,u,hi,rfl,hI,hs1,hs2,hsc⟩:=hrel;clear HI0;by_cases hlt:i<many
  ·have hlt':(i:Int)<(many:Int):=by omega
   have hi0:(0:Int)<=(i:Int):=by omega
   have hsl:i<secs.length:=by rw[HLEN.out];exact hlt
   have HI:=hide hI;have c0:=hI.hd.c0;have c1:=hI.hd.c1;have c3:=hI.hd.c3;have HSC:=hide hsc;rw[List.drop_eq_getElem_cons hsl] at HSC;have HRR:=hide (tV ((fr:Int)+(i:Int)) _ ((hI.ww.disk HK.out hn).on (r_ _ wr).drew));obtain⟨q1,q2⟩:=HRD.out i hsl;rw[q1,q2,aR] at HRR;have h96:=H96.out i hsl;have k1:IntKind.i64.wrap ((fr:Int)+(i:Int))=(fr:Int)+(i:Int):=by rw[IntKind.wrap_i64];omega
   have k2:IntKind.i64.wrap ((first:Int)+(i:Int))=(first:Int)+(i:Int):=by rw[IntKind.wrap_i64];omega
   clear hI hsc q1 q2;generalize secs[i]=t at *;go_wp2
   go_region_held3 (fun w'=>w'.cell? ⟨lb,0,none⟩=some (.pointer (some ⟨db,0,none⟩))/\w'.cell? ⟨lb,1,none⟩=some (.int .i64 (fr:Int))) (first|exact⟨c0,c1⟩|go_keep)
    ((go_at_call 202;refine HRR.out.mono ?_;rintro e w7 ⟨rfl,rfl⟩))
   replace HI:=hide (HI.out.on HK.out.lo (r_ _ wr).drew);have efi:(first:Int)+(i:Int)=((first+i:Nat):Int):=by omega
   cases hde:decL t (first+i) with
   | none=>
    have HDC:=hide (wQ t (first+i) (by omega) h96 hde wr.drew);rw[<-efi] at HDC;rw[oI hde] at HSC;clear efi hde c0 c1;go_wp2_with (first|(go_at_call 240;refine HDC.out.mono ?_;rintro e w8 ⟨rfl,hb8⟩;replace HI:=hide (HI.out.on HK.out.lo hb8);clear hb8;obtain⟨dvE,avE,lE,hrE,hmE⟩:=HI.out.rd;have cE:=hrE.c0;have HRA:=hide (HI.out.fin hrE hmE HSC.out);clear hrE hmE)|fail)
    go_ret2;exact⟨dvE,rfl,HRA.out⟩
   | some kd=>
    obtain⟨k,d⟩:=kd;have HDC:=hide (wL t (first+i) k d (by omega) h96 hde wr.drew);rw[<-efi] at HDC;have hds:=zIW hde;rcases zBA hde with rfl|rfl
    ·by_cases hp:gI d=0
     ·have htk:fZ st 111 d=some (st.1,st.2++[gY d]):=by unfold fZ;rw[if_pos rfl,if_pos hp]
      rw[kB hde htk,if_neg (by decide)] at HSC;have HTL:=hide (zAX htk);have HP:=hide hp;clear efi hde htk hp c0 c1;go_wp2_with (first
       | (go_at_call 240;refine HDC.out.mono ?_;rintro e w8 ⟨rfl,hb8⟩;replace HI:=hide (HI.out.on HK.out.lo hb8);clear hb8;obtain⟨dvE,avE,lE,hrE,hmE⟩:=HI.out.rd;have HTK:=hide (zEB d (by omega) HP.out _ hrE (HI.out.ww.bel.size) (by omega));rw[hmE] at HTK;clear hrE hmE)
       | (go_at_call 290;refine HTK.out.mono ?_;rintro e w9 ⟨rfl,ht9⟩;replace HI:=hide (HI.out.take (st':=(st.1,st.2++[gY d])) HK.out.lo hll ht9);clear ht9)
       | fail)
      exact⟨⟨i+1,_,u,by omega,by go_num,HI.out,by have:=HTL.out.1;simp at this ⊢;omega,by have:=HTL.out.2;simp at this ⊢;omega,HSC.out⟩,by simp[intOf];omega⟩
     ·have htk:fZ st 111 d=none:=by unfold fZ;rw[if_pos rfl,if_neg hp]
      rw[tY hde htk] at HSC;have HP:=hide hp;clear efi hde htk hp c0 c1;go_wp2_with (first
       | (go_at_call 240;refine HDC.out.mono ?_;rintro e w8 ⟨rfl,hb8⟩;replace HI:=hide (HI.out.on HK.out.lo hb8);clear hb8;obtain⟨dvE,avE,lE,hrE,hmE⟩:=HI.out.rd;have HTK:=hide (zLd d (by omega) HP.out _ hrE (HI.out.ww.bel.size));rw[hmE] at HTK;clear hrE hmE)
       | (go_at_call 290;refine HTK.out.mono ?_;rintro e w9 ⟨rfl,ht9⟩;replace HI:=hide (HI.out.take (st':=st) HK.out.lo hll ht9);clear ht9;obtain⟨dvF,avF,lF,hrF,hmF⟩:=HI.out.rd;have cF:=hrF.c0;have HRA:=hide (HI.out.fin hrF hmF HSC.out);clear hrF hmF)
       | fail)
      go_ret2;exact⟨dvF,rfl,HRA.out⟩
    ·cases hp:(d.toList==(dM st.2.length).toList) with
     | true=>
      have htk:fZ st 99 d=some (st.1++[st.2],[]):=by unfold fZ;rw[if_neg (by decide),if_pos hp]
      rw[kB hde htk,if_pos rfl] at HSC;have HTL:=hide (zAX htk);have HP:=hide hp;clear efi hde htk hp c0 c1;go_wp2_with (first
       | (go_at_call 240;refine HDC.out.mono ?_;rintro e w8 ⟨rfl,hb8⟩;replace HI:=hide (HI.out.on HK.out.lo hb8);clear hb8;obtain⟨dvE,avE,lE,hrE,hmE⟩:=HI.out.rd;have HTK:=hide (zGj d HP.out _ hrE (HI.out.ww.bel.size) (by omega) (by have e:=congrArg List.length hmE;rw[List.length_map] at e;omega));rw[hmE] at HTK;clear hrE hmE)
       | (go_at_call 290;refine HTK.out.mono ?_;rintro e w9 ⟨rfl,ht9⟩;replace HI:=hide (HI.out.take (st':=(st.1++[st.2],[])) HK.out.lo hll ht9);have c49:=HI.out.hd.c4;have f49:=HI.out.hd.soft 4;replace HI:=hide (HI.out.use hl hll (Nat.le_of_eq HRB.out) (i+1));clear ht9)
       | fail)
      exact⟨⟨i+1,_,i+1,by omega,by go_num,HI.out,by have:=HTL.out.1;simp at this ⊢;omega,by simp,HSC.out⟩,by simp[intOf];omega⟩
     | false=>
      have htk:fZ st 99 d=none:=by unfold fZ;rw[if_neg (by decide),hp];rfl
      rw[tY hde htk] at HSC;have HP:=hide hp;clear efi hde htk hp c0 c1;go_wp2_with (first
       | (go_at_call 240;refine HDC.out.mono ?_;rintro e w8 ⟨rfl,hb8⟩;replace HI:=hide (HI.out.on HK.out.lo hb8);clear hb8;obtain⟨dvE,avE,lE,hrE,hmE⟩:=HI.out.rd;have HTK:=hide (zGh d HP.out _ hrE (HI.out.ww.bel.size) (by omega));rw[hmE] at HTK;clear hrE hmE)
       | (go_at_call 290;refine HTK.out.mono ?_;rintro e w9 ⟨rfl,ht9⟩;replace HI:=hide (HI.out.take (st':=st) HK.out.lo hll ht9);clear ht9;obtain⟨dvF,avF,lF,hrF,hmF⟩:=HI.out.rd;have cF:=hrF.c0;have HRA:=hide (HI.out.fin hrF hmF HSC.out);clear hrF hmF)
       | fail)
      go_ret2;exact⟨dvF,rfl,HRA.out⟩
  ·have ei:i=many:=by omega
   subst ei;have hlt':¬(i:Int)<(i:Int):=by omega
   rw[List.drop_eq_nil_of_le (by rw[HLEN.out];exact n_ _)] at hsc;have hsc':(st.1,u)=res:=hsc;obtain⟨dvF,avF,lF,hrF,hmF⟩:=hI.rd;have cF:=hrF.c0;have HRA:=hide (hI.fin hrF hmF hsc');clear hrF hmF hsc hsc' hI;go_wp2;go_ret2;exact⟨dvF,rfl,HRA.out⟩
end
end
section
open Go.RowKit Go.Joins
def strV (d:ByteArray):Value:=.string d
def ownS (w:World) (B:Nat) (v:Value) (l:List ByteArray):Prop:=w.ownsRow B 9 1 v l.length (l.map strV)
theorem zG5:∃ i z,Tryz.prog.info? 9=some i/\i.zero=some z/\i.size=1/\i.bytes=16/\z.cells.size=1:=by
 have h:(Tryz.prog.info? 9).bind (fun i=>i.zero.map fun z=>(z.cells.size,i.size,i.bytes))=some (1,1,16):=by kernel_rfl
 cases hi:Tryz.prog.info? 9 with
 | none=>rw[hi] at h;cases h
 | some i=>
  rw[hi] at h
  cases hz:i.zero with
  | none=>simp[hz] at h
  | some z=>
   simp only[Option.bind_some,hz,Option.map_some,Option.some.injEq,Prod.mk.injEq] at h;exact⟨i,z,rfl,hz,h.2.1,h.2.2,h.1⟩
theorem zJg {w:World} {B:Nat} {v:Value} {l:List ByteArray} (h:ownS w B v l) (hl:0<l.length):∃ g cap,v=.slice (some ⟨g,0,none⟩) l.length cap/\∀ i (hi:i<l.length),w.cell? ⟨g,i,none⟩=some (.string l[i]):=by
 rcases h.2 with⟨_,e⟩|⟨g,cap,cur,e,_⟩
 ·omega
 ·refine⟨g,cap,e,fun i hi=>?_⟩;have:=World.ownsRow.cells h (g:=g) (by rw[e];rfl) i (.string l[i]) (by rw[List.getElem?_map,List.getElem?_eq_getElem hi];rfl);rwa [Go.Addr.add_mid,Nat.zero_add] at this
end
section
open Go.RowKit Go.Joins
attribute [local go_sem ↓] Go.wp_at_zero Go.wp_at_succ
theorem zFE (n:Nat):∀ m,m=n*96->(List.replicate n (bD 96)).flatMap secV=List.replicate m (i_ .u8 0):=by
 induction n with
 | zero=>intro m h;rw[h];rfl
 | succ n ih=>
  intro m h;rw[List.replicate_succ,List.flatMap_cons,ih (n*96) rfl,h,Nat.succ_mul,Nat.add_comm,<-List.replicate_append_replicate];congr 1
theorem yG (Z:Array Value) (n:Nat) (v:Value) (hz:Z.toList=List.replicate Z.size v):((Array.range n).map (Z[· % Z.size]!)).toList=List.replicate n v∨Z.size=0:=by
 by_cases h0:Z.size=0
 ·exact .inr h0
 ·refine .inl ?_;apply List.ext_getElem
  ·simp
  ·intro i h1 h2;have hm:i % Z.size<Z.size:=Nat.mod_lt _ (by omega);simp only[Array.getElem_toList,Array.getElem_map,Array.getElem_range,List.getElem_replicate];rw[getElem!_pos Z _ hm,<-Array.getElem_toList];simp only[hz,List.getElem_replicate]
theorem zCz:∃ i z,Tryz.prog.info? 198=some i/\i.zero=some z/\i.size=96/\i.bytes=96/\z.cells.size=96/\z.cells.toList=List.replicate 96 (i_ .u8 0):=by
 have h:(Tryz.prog.info? 198).bind (fun i=>i.zero.map fun z=>(z.cells.size,i.size,i.bytes,z.cells.toList))=some (96,96,96,List.replicate 96 (i_ .u8 0)):=by kernel_rfl
 cases hi:Tryz.prog.info? 198 with
 | none=>rw[hi] at h;cases h
 | some i=>
  rw[hi] at h
  cases hz:i.zero with
  | none=>simp[hz] at h
  | some z=>
   simp only[Option.bind_some,hz,Option.map_some,Option.some.injEq,Prod.mk.injEq] at h;exact⟨i,z,rfl,hz,h.2.1,h.2.2.1,h.1,h.2.2.2⟩
theorem zCv (n:Nat) (h1:1<=n) (h2:n<=200) (w:World):(Instr.makeSlice 191 (.int .i64 n) (.int .i64 n)).run p_ w=.ok (.slice (some ⟨w.heap.size,0,none⟩) n n) (w.alloc (.cells ((List.replicate n (bD 96)).flatMap secV).toArray 198)):=by
 obtain⟨i,z,hi,hz,hs,hb,hzs,hzl⟩:=zCz;have hc:madeCells z.cells (n*96)=((List.replicate n (bD 96)).flatMap secV).toArray:=by
  apply Array.ext';rw[zFE n (n*96) rfl];rcases yG z.cells (n*96) (.int .u8 0) (by rw[hzs];exact hzl) with e|e
  ·exact e
  ·omega
 have h:=run_makeSlice (P:=p_) w 191 198 i z Tryz.underlying191 hi hz .i64 .i64 n n (by omega) (Int.le_refl _) (by rw[hs,Int.toNat_natCast];omega) (by rw[hb];omega) (by omega);rw[hs,Int.toNat_natCast,hc] at h;exact h
theorem zGR:∃ i,Tryz.prog.info? 196=some i/\i.zero=some (.slice none 0 0)/\i.size=1/\i.bytes=24:=by
 have h:(Tryz.prog.info? 196).map (fun i=>(i.zero,i.size,i.bytes))=some (some (.slice none 0 0),1,24):=by kernel_rfl
 cases hi:Tryz.prog.info? 196 with
 | none=>rw[hi] at h;cases h
 | some i=>
  rw[hi] at h;simp only[Option.map_some,Option.some.injEq,Prod.mk.injEq] at h;exact⟨i,rfl,h.1,h.2.1,h.2.2⟩
theorem zHy (n:Nat) (h1:1<=n) (h2:n<=200) (w:World):(Instr.makeSlice 192 (.int .i64 n) (.int .i64 n)).run p_ w=.ok (.slice (some ⟨w.heap.size,0,none⟩) n n) (w.alloc (.cells (List.replicate n (.slice none 0 0)).toArray 196)):=by
 obtain⟨i,hi,hz,hs,hb⟩:=zGR;have hc:madeCells (Value.slice none 0 0).cells (n*1)=(List.replicate n (Value.slice none 0 0)).toArray:=by
  apply Array.ext';rw[Nat.mul_one];rcases yG (Value.slice none 0 0).cells n (.slice none 0 0) rfl with e|e
  ·exact e
  ·cases e
 have h:=run_makeSlice (P:=p_) w 192 196 i (.slice none 0 0) Tryz.underlying192 hi hz .i64 .i64 n n (by omega) (Int.le_refl _) (by rw[hs,Int.toNat_natCast];omega) (by rw[hb];omega) (by omega);rw[hs,Int.toNat_natCast,hc] at h;exact h
theorem zNi {w W:World} {n db nb kb lb:Nat} (h1:1<=n) (h2:n<=200) (hd:W.heap[db]?=some (.cells #[.slice (some ⟨nb,0,none⟩) n n,.slice (some ⟨kb,0,none⟩) n n,.slice (some ⟨lb,0,none⟩) n n,.int .i64 0,.int .i64 (-1),.bool false] 194 (0,0)))
  (hn:W.heap[nb]?=some (.cells ((List.replicate n (bD 96)).flatMap secV).toArray 198 (0,0))) (hk:W.heap[kb]?=some (.cells ((List.replicate n (bD 96)).flatMap secV).toArray 198 (0,0))) (hl:W.heap[lb]?=some (.cells (List.replicate n (.slice none 0 0)).toArray 196 (0,0)))
  (hap:db≠nb/\db≠kb/\db≠lb/\nb≠kb/\nb≠lb/\kb≠lb) (hlo:w.heap.size<=db/\w.heap.size<=nb/\w.heap.size<=kb/\w.heap.size<=lb):∃ S,DK W w.heap.size db S (qQ n):=by
 have c:∀ j,W.cell? ⟨db,j,none⟩=(#[.slice (some ⟨nb,0,none⟩) n n,.slice (some ⟨kb,0,none⟩) n n,.slice (some ⟨lb,0,none⟩) n n,.int .i64 0,.int .i64 (-1),.bool false]:Array Value)[j]?:=fun j=>cell_of_row W db j _ _ _ hd;have z96:∀ s∈List.replicate n (bD 96),s.size=96:=fun s hs=>by rw[List.eq_of_mem_replicate hs];exact zEt 96
 refine⟨_,nb,kb,lb,n,List.replicate n (.slice none 0 0),List.replicate n [],-1,⟨c 0,c 1,c 2,c 3,c 4,c 5,fun j=>by simp[World.frozen?,hd]⟩,⟨hn,hk,hl,by simp[qQ],by simp[qQ],by simp,by simp,z96,z96,fun i _ _=>?_,fun i j _ _ k e=>?_,fun i _ k e=>?_,hap,hlo,⟨h1,h2⟩⟩,rfl,jK.none n,fun x hx=>(List.not_mem_nil hx).elim,fun _=>⟨rfl,by decide,by decide⟩,?_⟩
 ·rw[List.getElem_replicate,List.getElem_replicate];exact⟨⟨rfl,.inl ⟨rfl,rfl⟩⟩,fun x hx=>(List.not_mem_nil hx).elim⟩
 ·rw[List.getElem_replicate] at e;cases e
 ·rw[List.getElem_replicate] at e;cases e
 ·have:=(Array.getElem?_eq_some_iff.1 hd).1;omega
theorem chain4 (w:World) (A B C D:Obj):((((w.alloc A).alloc B).alloc C).alloc D).heap[w.heap.size]?=some A/\((((w.alloc A).alloc B).alloc C).alloc D).heap[w.heap.size+1]?=some B/\((((w.alloc A).alloc B).alloc C).alloc D).heap[w.heap.size+2]?=some C/\((((w.alloc A).alloc B).alloc C).alloc D).heap[w.heap.size+3]?=some D:=by
 have e:((((w.alloc A).alloc B).alloc C).alloc D).heap=(((w.heap.push A).push B).push C).push D:=rfl;rw[e];simp only[Array.getElem?_push,Array.size_push];refine⟨?_,?_,?_,?_⟩<;>simp;rw[if_neg (by omega),if_neg (by omega)]
theorem below4 (w:World) (A B C D:Obj):Below w.heap.size w ((((w.alloc A).alloc B).alloc C).alloc D):=
 aB (aB (aB (a_ w A) (n_ _) (a_ _ B)) (n_ _) (a_ _ C)) (n_ _) (a_ _ D)
def NewP (w w':World) (n db:Nat):Prop:=(∃ S,DK w' w.heap.size db S (qQ n))/\Below w.heap.size w w'
theorem zDe (n:Nat) (w:World) (h1:1<=n) (h2:n<=200):Calls p_ 59 #[.int .i64 n] w fun e w'=>∃ db,e=.returned (.tuple #[.pointer (some ⟨db,0,none⟩),.nilIface])/\NewP w w' n db:=by
 have h1':¬(n:Int)<1:=by omega
 have h2':¬200<(n:Int):=by omega
 have hm1:=zCv n h1 h2;have hm2:=zHy n h1 h2;have H:=fun (W:World) (db nb kb lb:Nat)=>@zNi w W n db nb kb lb h1 h2;have HN:=hide H;clear H;generalize ((List.replicate n (bD 96)).flatMap secV).toArray=Z at *;generalize (List.replicate n (Value.slice none 0 0)).toArray=Y at *;go_enter Tryz.func59,Tryz.ntmps59;go_wp2_with fail
 go_region_with (fail)
 all_goals
  go_wp2_with fail;go_ret2
  first
   | (refine⟨w.heap.size+3,rfl,HN.out _ _ w.heap.size (w.heap.size+1) (w.heap.size+2) ?_ ?_ ?_ ?_ ?_ ?_,?_⟩<;>first|exact(chain4 w _ _ _ _).1|exact(chain4 w _ _ _ _).2.1|exact(chain4 w _ _ _ _).2.2.1|exact(chain4 w _ _ _ _).2.2.2|(refine⟨?_,?_,?_,?_,?_,?_⟩<;>omega)|(refine⟨?_,?_,?_,?_⟩<;>omega)|exact below4 w _ _ _ _|exact(below4 w _ _ _ _).drew)
   | (refine⟨w.heap.size+3,rfl,HN.out _ _ w.heap.size (w.heap.size+2) (w.heap.size+1) ?_ ?_ ?_ ?_ ?_ ?_,?_⟩<;>first|exact(chain4 w _ _ _ _).1|exact(chain4 w _ _ _ _).2.1|exact(chain4 w _ _ _ _).2.2.1|exact(chain4 w _ _ _ _).2.2.2|(refine⟨?_,?_,?_,?_,?_,?_⟩<;>omega)|(refine⟨?_,?_,?_,?_⟩<;>omega)|exact below4 w _ _ _ _|exact(below4 w _ _ _ _).drew)
   | (refine⟨w.heap.size+3,rfl,HN.out _ _ (w.heap.size+1) w.heap.size (w.heap.size+2) ?_ ?_ ?_ ?_ ?_ ?_,?_⟩<;>first|exact(chain4 w _ _ _ _).1|exact(chain4 w _ _ _ _).2.1|exact(chain4 w _ _ _ _).2.2.1|exact(chain4 w _ _ _ _).2.2.2|(refine⟨?_,?_,?_,?_,?_,?_⟩<;>omega)|(refine⟨?_,?_,?_,?_⟩<;>omega)|exact below4 w _ _ _ _|exact(below4 w _ _ _ _).drew)
   | (refine⟨w.heap.size+3,rfl,HN.out _ _ (w.heap.size+1) (w.heap.size+2) w.heap.size ?_ ?_ ?_ ?_ ?_ ?_,?_⟩<;>first|exact(chain4 w _ _ _ _).1|exact(chain4 w _ _ _ _).2.1|exact(chain4 w _ _ _ _).2.2.1|exact(chain4 w _ _ _ _).2.2.2|(refine⟨?_,?_,?_,?_,?_,?_⟩<;>omega)|(refine⟨?_,?_,?_,?_⟩<;>omega)|exact below4 w _ _ _ _|exact(below4 w _ _ _ _).drew)
   | (refine⟨w.heap.size+3,rfl,HN.out _ _ (w.heap.size+2) w.heap.size (w.heap.size+1) ?_ ?_ ?_ ?_ ?_ ?_,?_⟩<;>first|exact(chain4 w _ _ _ _).1|exact(chain4 w _ _ _ _).2.1|exact(chain4 w _ _ _ _).2.2.1|exact(chain4 w _ _ _ _).2.2.2|(refine⟨?_,?_,?_,?_,?_,?_⟩<;>omega)|(refine⟨?_,?_,?_,?_⟩<;>omega)|exact below4 w _ _ _ _|exact(below4 w _ _ _ _).drew)
   | (refine⟨w.heap.size+3,rfl,HN.out _ _ (w.heap.size+2) (w.heap.size+1) w.heap.size ?_ ?_ ?_ ?_ ?_ ?_,?_⟩<;>first|exact(chain4 w _ _ _ _).1|exact(chain4 w _ _ _ _).2.1|exact(chain4 w _ _ _ _).2.2.1|exact(chain4 w _ _ _ _).2.2.2|(refine⟨?_,?_,?_,?_,?_,?_⟩<;>omega)|(refine⟨?_,?_,?_,?_⟩<;>omega)|exact below4 w _ _ _ _|exact(below4 w _ _ _ _).drew)
end
section
open Go.RowKit Go.Joins Go.WideShapes
theorem oS {P:Program} {ops:Array Oper} {rest:List Oper} {o:Oper} {a:Act} {Q:Exit->Act->World->Prop} (hgd:o.guard=none) (s x:Operand) (t:TypeId)
  (ho:o.op=.call { callee:=.builtin .append,args:=#[s,x],argTypes:=#[t,t] })
  (base:Nat) (e:TypeId) (i:TypeInfo) (z:Value) (size bytes:Nat) (ht:P.underlying t=some (.slice e)) (hi:P.info? e=some i) (hz:i.zero=some z)
  (hsize:i.size=size) (hby:i.bytes=bytes) (hzs:z.cells.size=size) (hsz:0<size) (W:World) (C:List Value) (hC:C.length=size) (h1:∀ u∈C,u.oneCell'=true)
  (v:Value) (n:Nat) (xs:List Value) (hown:W.ownsRow base e size v n xs) (hs:a.eval s=v) (hx:a.eval x=.slice (some ⟨W.heap.size,0,none⟩) 1 1)
  (hn:n<=1000000) (hb:bytes<=1000) (hbase:base<=W.heap.size)
  (h:∀ v' w',w'.ownsRow base e size v' (n+1) (xs++C)->(∀ w0,Below base w0 W->Below base w0 w')->wpList P ops Q rest (a.put o.dst v') w'):wpList P ops Q (o::rest) a (W.alloc (.cells C.toArray e)):=by
 refine wpList_append_own _ hgd s x t ho base e i z size bytes ht hi hz hsize hby hzs hsz v n xs hs (hown.alloc _) ⟨W.heap.size,0,none⟩ 1 1 C hx (by omega) ?_ h1 (by unfold maxLen;omega) ?_ (Nat.le_trans hbase (by simp)) ?_
 ·intro j u hj;have:=aC W C.toArray e j;rw[add_plain,Nat.zero_add,this];simpa using hj
 ·have:(n+1)*bytes<=1000001*1000:=Nat.mul_le_mul (by omega) hb;omega
 ·intro v' w' h2 h3 _;refine h v' w' h2 fun w0 hB=>?_;exact(hB.trans ((a_ W _).mono hbase)).grown h3 (Nat.le_trans hbase (by simp)) (fun k hk=>(hown.lt k hk).1)
end
section
open Go.RowKit Go.Joins
attribute [local go_sem ↓] Go.wp_at_zero Go.wp_at_succ
def eJ:Nat->List Chg->List ByteArray
 | _,[]=>[]
 | n,c::l=>encL 111 n (dI c)::eJ (n+1) l
def cB (n:Nat) (l:List Chg):List ByteArray:=eJ n l++[encL 99 (n+l.length) (dM l.length)]
def bS:List Chg->Nat
 | []=>0
 | c::l=>if aD c=0 then bS l else aD c
theorem zCa (l:List Chg) (c:Chg):∀ n,eJ n (l++[c])=eJ n l++[encL 111 (n+l.length) (dI c)]:=by
 induction l with
 | nil=>intro n;rfl
 | cons d l ih=>
  intro n;show encL 111 n (dI d)::eJ (n+1) (l++[c])=_;rw[ih,show n+1+l.length=n+(d::l).length by rw[List.length_cons];omega];rfl
theorem tO (l:List Chg):∀ n,(eJ n l).length=l.length:=by
 induction l with
 | nil=>intro n;rfl
 | cons d l ih=>intro n;show(eJ (n+1) l).length+1=_;rw[ih];rfl
theorem nB (n:Nat) (l:List Chg):(cB n l).length=l.length+1:=by unfold cB;rw[List.length_append,tO];rfl
theorem vG (a b:List Chg):bS (a++b)=if bS a=0 then bS b else bS a:=by
 induction a with
 | nil=>rfl
 | cons c a ih=>
  show(if aD c=0 then bS (a++b) else aD c)=if (if aD c=0 then bS a else aD c)=0 then bS b else (if aD c=0 then bS a else aD c);by_cases h:aD c=0
  ·simp only[if_pos h];exact ih
  ·simp only[if_neg h]
theorem zC {l:List Chg} {k:Nat} (hk:k<l.length) (h:bS (l.take k)=0):bS (l.take (k+1))=aD l[k]/\(aD l[k]≠0->bS l=aD l[k]):=by
 have e1:bS [l[k]]=aD l[k]:=by show(if _ then 0 else _)=_;split<;>simp_all
 constructor
 ·rw[List.take_succ_eq_append_getElem hk,vG,if_pos h,e1]
 ·intro hn;have e:l=l.take k++(l[k]::l.drop (k+1)):=by rw[<-List.drop_eq_getElem_cons hk,List.take_append_drop]
  have e2:=congrArg bS e;rw[vG,if_pos h] at e2;exact e2.trans (if_neg hn)
section
variable {w:World} {lb db fr many first used:Nat}
theorem zFj {w w':World} {B n:Nat} {v:Value} {xs:List Value} (h:w.ownsRow B 9 1 v n xs) (hb:Below w.heap.size w w'):w'.ownsRow B 9 1 v n xs:=by
 refine⟨h.1,?_⟩;rcases h.2 with e|⟨g,cap,cur,rfl,hB,hg,h3⟩
 ·exact .inl e
 ·exact .inr ⟨g,cap,cur,rfl,hB,(hb.block g (Array.getElem?_eq_some_iff.1 hg).1).trans hg,h3⟩
def zMQ (w w':World) (v:Value) (l:List ByteArray):Prop:=w'.ownsRow w.heap.size 9 1 v l.length (l.map strV)/\Below w.heap.size w w'
def lR (w w':World) (v:Value) (l:List Chg) (n:Nat):Prop:=if bS l=0 then zMQ w w' v (cB n l) else Below w.heap.size w w'
theorem zCu (l:List Chg) (ao:Option Addr) (cap:Nat) (w:World) (hd:bW w ao l) (hl:l.length<=12) (hsz:∀ c∈l,c.key.size<=1000/\c.val.size<=1000) (hh:LHd w lb db fr many first used) (hfu:first+used<=1800000):
  Calls p_ 248 #[.pointer (some ⟨lb,0,none⟩),.slice ao l.length cap] w fun e w'=>∃ v,e=.returned (.tuple #[v,errV (bS l)])/\lR w w' v l (first+used):=by
 have c3:=hh.c3;have c4:=hh.c4;have HD:=hide hd;have HZ:=hide hsz;clear hd hsz hh;have HE:Hid ((first:Int)+(used:Int)=((first+used:Nat):Int)):=hide (by omega);have k1:(first:Int)+(used:Int)<=1800000:=by omega
 obtain⟨i0,z0,hi0,hz0,hi2,hi24,hzc⟩:=zG5;go_enter Tryz.func248,Tryz.ntmps248;go_wp2;go_quiet (fail);rw[HE.out];generalize hn:first+used=n at *;have HN:=hide hn;clear HE k1 hn;go_wp2;have HB0:=hide (below_drewN (r_ w.heap.size w) nq);clear c3 c4;generalize hwq:w.drewN nq=wq at *;clear hwq
 go_loopw [7,23] (fun v iv wr=>∃ k:Nat,k<=l.length/\iv=.int .i64 (k:Int)/\wr.ownsRow w.heap.size 9 1 v k ((eJ n (l.take k)).map strV)/\bS (l.take k)=0/\Below w.heap.size w wr) (fun _ iv _=>l.length-(intOf iv).toNat)
 case atStart=>exact⟨0,Nat.zero_le _,rfl,⟨rfl,.inl ⟨rfl,rfl⟩⟩,rfl,HB0.out⟩
 case round=>
  obtain⟨k,hk,rfl,ho,hc0,hb⟩:=hrel;clear HB0;by_cases hlt:k<l.length
  ·have hlt':(k:Int)<(l.length:Int):=by omega
   have hk0:(0:Int)<=(k:Int):=by omega
   rcases HD.out with e|⟨b,off,e,hch⟩
   ·rw[e] at hlt;simp at hlt
   subst e;obtain⟨x0,x1,x2⟩:=hch k hlt;have hsn:eJ n (l.take (k+1))=eJ n (l.take k)++[encL 111 (n+k) (dI l[k])]:=by
    rw[List.take_succ_eq_append_getElem hlt,zCa,List.length_take,Nat.min_eq_left hk]
   have hcf:=zC hlt hc0;obtain⟨z1,z2⟩:=HZ.out _ (List.getElem_mem hlt);clear hch;generalize l[k]=x at *;replace x0:=aA hb x0;replace x1:=aA hb x1;replace x2:=aA hb x2;have HO:=hide ho;have HBR:=hide hb;have HSN:=hide hsn;have HCB:=fun w'=>hide (zH1 x w' z1 z2 _ rfl);have hbx:=a_ wr (o_ #[.string x.key,.string x.val,.bool x.gone] 133);clear ho hb hsn;by_cases hf:aD x=0
   ·have HF:=hide hf;have HC1:=hide (hcf.1.trans hf);obtain⟨q1,q2⟩:=iS hf;have hts:=nZ x;have HEN:=fun w'=>hide (zM 111 (n+k) (dI x) (by decide) (by omega) (by omega) w');have HEI:Hid ((n:Int)+(k:Int)=((n+k:Nat):Int)):=hide (by omega);simp only[hf,if_true] at HCB;rw[<-HEI.out] at HEN;have HTX:Hid (rZ x++x.key++x.val=dI x):=rfl;rw[HTX.out] at HCB;clear hf hcf q1 q2 hts z1 z2;generalize dI x=tx at *;generalize encL 111 (n+k) tx=en at *;have HBX:=hide hbx;clear hbx;go_wp2_with (first
     | (go_at_call 282;refine((HCB _).out).mono ?_;rintro e w7 ⟨rfl,hb7⟩;replace HBX:=hide (aB HBX.out (n_ _) hb7);clear hb7)
     | (go_at_call 283;refine((HEN _).out).mono ?_;rintro e w8 ⟨rfl,hb8⟩;replace HBX:=hide (aB HBX.out (n_ _) hb8);clear hb8)
     | (at_builtin;(refine oS rfl _ _ 71 rfl w.heap.size 9 i0 _ 1 16 Tryz.underlying71 hi0 hz0 hi2 hi24 hzc (by omega) w8 [.string en] rfl (by simp[Value.oneCell']) _ k _ (zFj HO.out HBX.out) rfl rfl (by omega) (by omega) (aB HBR.out (n_ _) HBX.out).size ?_;intro v9 w9 ho9 hb9;have HO9:=hide ho9;have HB9:=hide (hb9 w (aB HBR.out (n_ _) HBX.out));clear ho9 hb9)))
    refine⟨⟨k+1,by omega,by go_num,?_,HC1.out,HB9.out⟩,by simp[intOf];omega⟩;rw[HSN.out,List.map_append];exact HO9.out
   ·have HF:=hide hf;have HC1:=hide (hcf.2 hf);simp only[hf,if_false] at HCB;have HER:Hid (errV (aD x)=.iface 114 (.int .i64 (aD x))):=aP hf;rw[HER.out] at HCB;clear hf hcf;have HBX:=hide hbx;clear hbx;go_wp2_with (first
     | (go_at_call 282;refine((HCB _).out).mono ?_;rintro e w7 ⟨rfl,hb7⟩;replace HBX:=hide (aB HBX.out (n_ _) hb7);clear hb7)
     | fail)
    go_ret2;refine⟨.slice none 0 0,?_,?_⟩
    ·show Ending.returned (Value.tuple #[.slice none 0 0,.iface 114 (.int .i64 (aD x))])=Ending.returned (Value.tuple #[.slice none 0 0,errV (bS l)]);rw[HC1.out,HER.out]
    ·unfold lR;rw[HC1.out,if_neg HF.out];exact aB HBR.out (n_ _) HBX.out
  ·have ek:k=l.length:=by omega
   subst ek;have hlt':¬(l.length:Int)<(l.length:Int):=by omega
   rw[List.take_length] at ho hc0;have HC0:=hide hc0;have HO:=hide ho;have HBR:=hide hb;clear ho hb hc0;have HEI:Hid ((n:Int)+(l.length:Int)=((n+l.length:Nat):Int)):=hide (by omega);have HFO:=fun w'=>hide (nK l.length (by omega) w');have HEN:=fun w'=>hide (zM 99 (n+l.length) (dM l.length) (by decide) (by omega) (by show 4<=90;decide) w');rw[<-HEI.out] at HEN;have HDS:Hid (cB n l=eJ n l++[encL 99 (n+l.length) (dM l.length)]):=rfl;have hl2:(l.length:Int)<=12:=by omega
   generalize encL 99 (n+l.length) (dM l.length)=en at *;generalize dM l.length=fo at *;have HBX:=hide (r_ wr.heap.size wr);go_wp2_with (first
    | (go_at_call 278;refine((HFO _).out).mono ?_;rintro e w7 ⟨rfl,hb7⟩;replace HBX:=hide (aB HBX.out (n_ _) hb7);clear hb7)
    | (go_at_call 283;refine((HEN _).out).mono ?_;rintro e w8 ⟨rfl,hb8⟩;replace HBX:=hide (aB HBX.out (n_ _) hb8);clear hb8)
    | (at_builtin;(refine oS rfl _ _ 71 rfl w.heap.size 9 i0 _ 1 16 Tryz.underlying71 hi0 hz0 hi2 hi24 hzc (by omega) w8 [.string en] rfl (by simp[Value.oneCell']) _ l.length _ (zFj HO.out HBX.out) rfl rfl (by omega) (by omega) (aB HBR.out (n_ _) HBX.out).size ?_;intro v9 w9 ho9 hb9;have HO9:=hide ho9;have HB9:=hide (hb9 w (aB HBR.out (n_ _) HBX.out));clear ho9 hb9)))
   go_ret2;refine⟨v9,?_,?_⟩
   ·show Ending.returned (Value.tuple #[v9,.nilIface])=Ending.returned (Value.tuple #[v9,errV (bS l)]);rw[HC0.out,aR]
   ·unfold lR;rw[HC0.out,if_pos rfl];refine⟨?_,HB9.out⟩;rw[HN.out,HDS.out,List.map_append,List.length_append,tO];exact HO9.out
end
end
abbrev DOp:=Option (Nat×ByteArray)
def opF (o:DOp) (s:DSt):Nat:=match o with
 | some (a,d)=>dO s (a:Int) d
 | none=>cD s
def opD (o:DOp) (s:DSt):DSt:=match o with
 | some (a,d)=>cV s (a:Int) d
 | none=>bZ s
def runD:List DOp->DSt->Nat×DSt
 | [],s=>(0,s)
 | o::l,s=>if opF o s=0 then runD l (opD o s) else (opF o s,opD o s)
theorem gE (a b:List DOp):∀ s,runD (a++b) s=if (runD a s).1=0 then runD b (runD a s).2 else runD a s:=by
 induction a with
 | nil=>intro s;rfl
 | cons o a ih=>
  intro s;show(if opF o s=0 then runD (a++b) (opD o s) else (opF o s,opD o s))=_;by_cases h:opF o s=0
  ·rw[if_pos h,ih];have e:runD (o::a) s=runD a (opD o s):=by show(if _ then _ else _)=_;rw[if_pos h]
   rw[e]
  ·rw[if_neg h];have e:runD (o::a) s=(opF o s,opD o s):=by show(if _ then _ else _)=_;rw[if_neg h]
   rw[e,if_neg h]
theorem jC (o:DOp) (s:DSt):runD [o] s=(opF o s,opD o s):=by
 show(if opF o s=0 then (0,opD o s) else _)=_;by_cases h:opF o s=0
 ·rw[if_pos h,h]
 ·rw[if_neg h]
theorem kF {a b:List DOp} {s:DSt} (h:(runD a s).1=0):runD (a++b) s=runD b (runD a s).2:=by rw[gE,if_pos h]
theorem kC {a b:List DOp} {s:DSt} (h:(runD a s).1≠0):runD (a++b) s=runD a s:=by rw[gE,if_neg h]
theorem eH (s:DSt):(bR s).now=s.now/\(bR s).kept=s.kept/\(bR s).wait=s.wait:=by
 unfold bR;split
 ·exact⟨rfl,rfl,rfl⟩
 ·split<;>exact⟨rfl,rfl,rfl⟩
theorem zAj (o:DOp) (s:DSt):(opD o s).now.length=s.now.length:=by
 cases o with
 | some x=>
  obtain⟨a,d⟩:=x;show(cV s a d).now.length=_;unfold cV;split
  ·rfl
  ·split
   ·unfold sG;simp[(eH s).1]
   ·rw[(eH s).1]
 | none=>
  show(bZ s).now.length=_;unfold bZ;split
  ·show(bR s).now.length=_;rw[(eH s).1]
  ·rw[(eH s).1]
theorem fS (l:List DOp):∀ s,(runD l s).2.now.length=s.now.length:=by
 induction l with
 | nil=>intro s;rfl
 | cons o l ih=>
  intro s;show(if opF o s=0 then runD l (opD o s) else (opF o s,opD o s)).2.now.length=_;split
  ·rw[ih,zAj]
  ·exact zAj o s
def aL:Nat->List ByteArray->List DOp
 | _,[]=>[]
 | a,t::l=>some (a,t)::aL (a+1) l
def bF:ByteArray:=⟨#[]⟩
def dR (a:Nat) (secs:List ByteArray) (room:Nat):List (List DOp):=
 [[some (a,bF)],[none],aL (a+1) secs.tail,if secs.length=room then [] else [some (a+secs.length,bF)],[none],[some (a,secs.headD bF)],[none]]
def iP (a:Nat) (secs:List ByteArray) (room:Nat):List DOp:=(dR a secs room).flatten
def regL (K:List ByteArray) (fr many:Nat):List ByteArray:=(K.drop fr).take many
def HasL (K:List ByteArray) (fr many first:Nat) (ds:List (List Chg)) (u:Nat):Prop:=dB first 0 (regL K fr many) ([],[]) 0=(ds,u)
theorem sU (first:Nat):∀ (l:List ByteArray) (i:Nat) (st:RSt) (u0:Nat) (ds:List (List Chg)) (u:Nat),dB first i l st u0=(ds,u)->(u=u0/\ds=st.1)∨(i<u/\u<=i+l.length/\∀ r,dB first i (l.take (u-i)++r) st u0=dB first u r (ds,[]) u)
 | [],i,st,u0,ds,u,h=>by
  simp only[dB,Prod.mk.injEq] at h;exact .inl ⟨h.2.symm,h.1.symm⟩
 | t::l,i,st,u0,ds,u,h=>by
  cases hd:decL t (first+i) with
  | none=>
   rw[oI hd] at h;simp only[Prod.mk.injEq] at h;exact .inl ⟨h.2.symm,h.1.symm⟩
  | some kd=>
   obtain⟨k,d⟩:=kd
   cases ht:fZ st k d with
   | none=>
    rw[tY hd ht] at h;simp only[Prod.mk.injEq] at h;exact .inl ⟨h.2.symm,h.1.symm⟩
   | some st'=>
    rw[kB hd ht] at h;have hk:=zBA hd;have hs:(k=99->st'.2=[])/\(k=111->st'.1=st.1):=by
     unfold fZ at ht;rcases hk with rfl|rfl
     ·rw[if_pos rfl] at ht;split at ht
      ·simp only[Option.some.injEq] at ht;rw[<-ht];exact⟨fun e=>absurd e (by decide),fun _=>rfl⟩
      ·cases ht
     ·rw[if_neg (by decide)] at ht;split at ht
      ·simp only[Option.some.injEq] at ht;rw[<-ht];exact⟨fun _=>rfl,fun e=>absurd e (by decide)⟩
      ·cases ht
    rcases sU first l (i+1) st' _ ds u h with⟨e1,e2⟩|⟨h1,h2,h3⟩
    ·rcases hk with rfl|rfl
     ·rw[if_neg (by decide)] at e1;exact .inl ⟨e1,by rw[e2,hs.2 rfl]⟩
     ·rw[if_pos rfl] at e1;refine .inr ⟨by omega,by rw[e1,List.length_cons];omega,fun r=>?_⟩;rw[e1,show i+1-i=1 by omega];show dB first i (t::r) st u0=_;rw[kB hd ht,if_pos rfl,e2];have:st'=(st'.1,[]):=by rw[<-hs.1 rfl]
      rw[<-this]
    ·refine .inr ⟨by omega,by rw[List.length_cons];omega,fun r=>?_⟩;rw[show u-i=(u-(i+1))+1 by omega];show dB first i (t::(l.take (u-(i+1))++r)) st u0=_;rw[kB hd ht,h3]
theorem kD (K:List ByteArray) (fr many j:Nat):(regL K fr many)[j]?=if j<many then K[fr+j]? else none:=by
 unfold regL;rw[List.getElem?_take,List.getElem?_drop]
theorem xO {K:List ByteArray} {fr many:Nat} (h:fr+many<=K.length):(regL K fr many).length=many:=by
 unfold regL;rw[List.length_take,List.length_drop];omega
section
variable {K K':List ByteArray} {fr many first u:Nat} {ds:List (List Chg)}
theorem HasL.used (h:HasL K fr many first ds u) (hf:fr+many<=K.length):u<=many:=by
 rcases sU first _ 0 _ 0 ds u h with⟨e,_⟩|⟨_,h2,_⟩
 ·omega
 ·rw[xO hf] at h2;omega
theorem HasL.go (h:HasL K fr many first ds u) (r:List ByteArray):dB first 0 ((regL K fr many).take u++r) ([],[]) 0=dB first u r (ds,[]) u:=by
 rcases sU first _ 0 _ 0 ds u h with⟨e,e2⟩|⟨_,_,h3⟩
 ·rw[e,e2];rfl
 ·exact h3 r
theorem HasL.same (h:HasL K fr many first ds u) (hf:fr+many<=K.length) (ha:∀ j,j<u->K'[fr+j]?=K[fr+j]?):dB first 0 (regL K' fr many) ([],[]) 0=dB first u ((regL K' fr many).drop u) (ds,[]) u:=by
 have hu:=h.used hf;have e:(regL K' fr many).take u=(regL K fr many).take u:=by
  apply List.ext_getElem?;intro j;rw[List.getElem?_take,List.getElem?_take];by_cases hj:j<u
  ·rw[if_pos hj,if_pos hj,kD,kD,if_pos (by omega),if_pos (by omega)];exact ha j hj
  ·rw[if_neg hj,if_neg hj]
 have:=h.go ((regL K' fr many).drop u);rw[<-e,List.take_append_drop] at this;exact this
theorem zD5 (i:Nat):bU (bD 96) i=0:=by
 unfold bU;split
 case isFalse=>rfl
 case isTrue h=>
  have:(bD 96)[i]=0:=by
   have hl:i<(List.replicate 96 (0:UInt8)).length:=h;have:(List.replicate 96 (0:UInt8))[i]'hl=0:=List.getElem_replicate hl;exact this
  rw[this];rfl
theorem zCt (n:Nat):decL (bD 96) n=none:=by
 unfold decL;rw[if_neg];rw[zD5];rintro⟨h,_⟩;rcases h with h|h<;>cases h
theorem HasL.nought (h:HasL K fr many first ds u) (hf:fr+many<=K.length) (ha:∀ j,j<u->K'[fr+j]?=K[fr+j]?) (hz:K'[fr+u]?=some (bD 96)) (hu:u<many):HasL K' fr many first ds u:=by
 unfold HasL;rw[h.same hf ha];have hg:(regL K' fr many)[u]?=some (bD 96):=by rw[kD,if_pos hu];exact hz
 obtain⟨hl,he⟩:=List.getElem?_eq_some_iff.1 hg;rw[List.drop_eq_getElem_cons hl,he,oI (zCt _)]
end
theorem zQ {t:ByteArray} {i:Nat} {x:UInt8} (h:t.data.toList[i]?=some x):bU t i=x.toNat:=by
 obtain⟨hl,he⟩:=List.getElem?_eq_some_iff.1 h;have hl':i<t.size:=by rw[Array.length_toList] at hl;exact hl
 unfold bU;rw[dif_pos hl'];congr 1
theorem zFr (k n:Nat) (d:ByteArray) (hk:k=111∨k=99) (hd:d.size<=90):decL (aH (encL k n d)) n=some (k,d):=by
 have hk2:k<256:=by rcases hk with rfl|rfl<;>decide
 have hlist:(aH (encL k n d)).data.toList=UInt8.ofNat k::(rW n++(UInt8.ofNat d.size::(d.data.toList++List.replicate (96-(encL k n d).size) 0))):=by
  unfold aH encL dM;simp[ByteArray.data_append]
 have b0:bU (aH (encL k n d)) 0=k:=by
  rw[zQ (x:=UInt8.ofNat k) (by rw[hlist];rfl),UInt8.toNat_ofNat'];exact Nat.mod_eq_of_lt hk2
 have b5:bU (aH (encL k n d)) 5=d.size:=by
  rw[zQ (x:=UInt8.ofNat d.size) (by rw[hlist];rfl),UInt8.toNat_ofNat'];exact Nat.mod_eq_of_lt (by omega)
 have ex:∀ i j,((aH (encL k n d)).extract i j).toList=((aH (encL k n d)).data.toList.take j).drop i:=fun i j=>by
  rw[Lib.toList_data,ByteArray.data_extract,Array.toList_extract,List.extract_eq_take_drop,List.take_drop];by_cases h:i<=j
  ·rw[show i+(j-i)=j by omega]
  ·rw[List.drop_eq_nil_of_le (by rw[List.length_take];omega),List.drop_eq_nil_of_le (by rw[List.length_take];omega)]
 have e1:((aH (encL k n d)).extract 1 5).toList=(dM n).toList:=by
  rw[ex,hlist,Lib.toList_data];rfl
 have hdl:d.data.toList.length=d.size:=by rw[Array.length_toList];rfl
 have e2:(aH (encL k n d)).extract 6 (6+d.size)=d:=by
  apply gV;rw[ex,hlist,Lib.toList_data];show((UInt8.ofNat k::UInt8.ofNat n::UInt8.ofNat (n / 256)::UInt8.ofNat (n / 65536)::UInt8.ofNat (n / 16777216)::UInt8.ofNat d.size::(d.data.toList++List.replicate (96-(encL k n d).size) 0)).take (6+d.size)).drop 6=_;rw[show 6+d.size=d.size+6 by omega];simp only[List.take_succ_cons,List.drop_succ_cons,List.drop_zero];rw[List.take_append_of_le_length (by omega),List.take_of_length_le (by omega)]
 unfold decL;rw[b0,b5,e1,e2,if_pos ⟨hk,by simp,hd⟩]
theorem zIH (st:RSt):fZ st 99 (dM st.2.length)=some (st.1++[st.2],[]):=by
 unfold fZ;rw[if_neg (by decide),if_pos (by simp)]
theorem zIv (st:RSt) (c:Chg) (hf:aD c=0):fZ st 111 (dI c)=some (st.1,st.2++[c]):=by
 unfold fZ;obtain⟨h1,h2⟩:=zIk c hf;rw[if_pos rfl,if_pos h1,h2]
theorem zAc {c:Chg} {l:List Chg} (h:bS (c::l)=0):aD c=0/\bS l=0:=by
 have h':(if aD c=0 then bS l else aD c)=0:=h;by_cases e:aD c=0
 ·rw[if_pos e] at h';exact⟨e,h'⟩
 ·rw[if_neg e] at h';exact absurd h' e
theorem uS (first:Nat):∀ (l:List Chg) (i:Nat) (st:RSt) (u:Nat) (r:List ByteArray),bS l=0->dB first i ((eJ (first+i) l).map aH++r) st u=dB first (i+l.length) r (st.1,st.2++l) u
 | [],i,st,u,r,_=>by simp[eJ]
 | c::l,i,st,u,r,h=>by
  obtain⟨h1,h2⟩:=zAc h;obtain⟨q1,q2⟩:=iS h1;have hd:=zFr 111 (first+i) (dI c) (.inl rfl) (by rw[nZ];omega);show dB first i (aH (encL 111 (first+i) (dI c))::((eJ (first+(i+1)) l).map aH++r)) st u=_;rw[kB hd (zIv st c h1),if_neg (by decide),uS first l (i+1) _ u r h2];rw[show i+1+l.length=i+(c::l).length by rw[List.length_cons];omega,List.append_assoc];rfl
theorem zIR (first:Nat) (l:List Chg) (i:Nat) (ds:List (List Chg)) (u:Nat) (r:List ByteArray) (h:bS l=0):dB first i ((cB (first+i) l).map aH++r) (ds,[]) u=dB first (i+l.length+1) r (ds++[l],[]) (i+l.length+1):=by
 unfold cB;rw[List.map_append,List.append_assoc,uS first l i _ u _ h,List.nil_append];have hd:=zFr 99 (first+i+l.length) (dM l.length) (.inr rfl) (by show 4<=90;decide);show dB first (i+l.length) (aH (encL 99 (first+i+l.length) (dM l.length))::r) (ds,l) u=_;rw[Nat.add_assoc first i] at hd ⊢;rw[kB hd (zIH (ds,l)),if_pos rfl]
section
variable {K K':List ByteArray} {fr many first u:Nat} {ds:List (List Chg)}
theorem HasL.deed (h:HasL K fr many first ds u) (hf:fr+many<=K.length) (hK:K'.length=K.length) (ha:∀ j,j<u->K'[fr+j]?=K[fr+j]?) (l:List Chg) (hl:bS l=0) (hfit:u+l.length+1<=many)
  (hs:∀ j (hj:j<(cB (first+u) l).length),K'[fr+u+j]?=some (aH (cB (first+u) l)[j])) (hz:u+l.length+1<many->K'[fr+u+l.length+1]?=some (bD 96)):HasL K' fr many first (ds++[l]) (u+l.length+1):=by
 unfold HasL;rw[h.same hf ha];have hdl:=nB (first+u) l;have hrl:(regL K' fr many).length=many:=xO (by omega);have e:(regL K' fr many).drop u=(cB (first+u) l).map aH++(regL K' fr many).drop (u+l.length+1):=by
  apply List.ext_getElem?;intro j;rw[List.getElem?_drop];by_cases hj:j<(cB (first+u) l).length
  ·rw[List.getElem?_append_left (by rw[List.length_map];exact hj),List.getElem?_map,List.getElem?_eq_getElem hj,kD,if_pos (by omega),<-Nat.add_assoc,hs j hj];rfl
  ·rw[List.getElem?_append_right (by rw[List.length_map];omega),List.length_map,hdl,List.getElem?_drop];congr 1;omega
 rw[e,zIR first l u ds u _ hl];by_cases hm:u+l.length+1<many
 ·have hg:(regL K' fr many)[u+l.length+1]?=some (bD 96):=by rw[kD,if_pos hm,show fr+(u+l.length+1)=fr+u+l.length+1 by omega];exact hz hm
  obtain⟨hl3,he⟩:=List.getElem?_eq_some_iff.1 hg;rw[List.drop_eq_getElem_cons hl3,he,oI (zCt _)]
 ·rw[List.drop_eq_nil_of_le (by omega)];rfl
end
theorem zH (k:Int):∀ (l:List (Nat×ByteArray)) (x:Nat×ByteArray) (i:Nat) (K:List ByteArray),fJ k i (l++[x]) K=if pA k ((i+l.length) % 64) then (fJ k i l K).set x.1 x.2 else fJ k i l K
 | [],x,i,K=>by simp[fJ]
 | y::l,x,i,K=>by
  rw[List.cons_append];show fJ k (i+1) (l++[x]) _=if _ then (fJ k (i+1) l _).set x.1 x.2 else fJ k (i+1) l _;rw[zH k l x (i+1),show i+1+l.length=i+(y::l).length by rw[List.length_cons];omega]
def fX (s:DSt) (K:List ByteArray):Prop:=∃ k:Int,K=fJ k 0 s.wait s.kept
theorem zHc (s:DSt):fX (bR s)=fX s:=by
 have h:=eH s;unfold fX;rw[h.2.1,h.2.2]
theorem mW {s:DSt} {K:List ByteArray} (hw:s.wait=[]) (h:fX s K):K=s.kept:=by
 obtain⟨k,rfl⟩:=h;rw[hw];rfl
theorem zGu {s:DSt} {a:Nat} {d:ByteArray} {K:List ByteArray} (h:fX (sG s a d) K):∃ K0,fX s K0/\(K=K0∨K=K0.set a d):=by
 obtain⟨k,rfl⟩:=h;refine⟨fJ k 0 s.wait s.kept,⟨k,rfl⟩,?_⟩;have e:fJ k 0 (sG s a d).wait (sG s a d).kept=if pA k ((0+s.wait.length) % 64) then (fJ k 0 s.wait s.kept).set a d else fJ k 0 s.wait s.kept:=zH k s.wait (a,d) 0 s.kept;rw[e];by_cases h:pA k ((0+s.wait.length) % 64)=true
 ·rw[if_pos h];exact .inr rfl
 ·rw[if_neg h];exact .inl rfl
structure Fell (s s':DSt) (f:Nat):Prop where
 f10:f=10
 down:s'.down=true
 aft:fX s'=fX s
 now:s'.now=s.now
theorem zAb (s:DSt) (hd:s.down=false):(cD s=0/\(bR s).down=false)∨Fell s (bR s) (cD s):=by
 unfold cD bR;rw[hd];by_cases h:s.left=0
 ·exact .inr ⟨by simp[h],by simp[h],by simp[h];rfl,by simp[h]⟩
 ·refine .inl ⟨by simp[h],?_⟩;simp[h]
theorem zEQ (s:DSt) (hd:s.down=false) (a:Nat) (d:ByteArray) (ha:a<s.now.length) (hs:d.size<=96):(opF (some (a,d)) s=0/\(opD (some (a,d)) s).down=false/\(opD (some (a,d)) s).now=s.now.set a (aH d)/\(opD (some (a,d)) s).kept=s.kept/\∀ K,fX (opD (some (a,d)) s) K->∃ K0,fX s K0/\(K=K0∨K=K0.set a (aH d)))∨Fell s (opD (some (a,d)) s) (opF (some (a,d)) s):=by
 have hb:¬((a:Int)<0∨(s.now.length:Int)<=(a:Int)∨96<d.size):=by omega
 have eF:opF (some (a,d)) s=cD s:=by show dO s a d=_;unfold dO;rw[if_neg hb]
 have h3:=eH s;rcases zAb s hd with⟨h1,h2⟩|h
 ·have eD:opD (some (a,d)) s=sG (bR s) a (aH d):=by show cV s a d=_;unfold cV;rw[if_neg hb,if_pos h1,Int.toNat_natCast]
  rw[eF,eD];refine .inl ⟨h1,h2,?_,?_,fun K hK=>?_⟩
  ·show(bR s).now.set _ _=_;rw[h3.1]
  ·show(bR s).kept=_;rw[h3.2.1]
  ·obtain⟨K0,q1,q2⟩:=zGu hK;rw[zHc] at q1;exact⟨K0,q1,q2⟩
 ·have eD:opD (some (a,d)) s=bR s:=by show cV s a d=_;unfold cV;rw[if_neg hb,if_neg (by rw[h.f10];decide)]
  rw[eF,eD];exact .inr h
theorem zEc (s:DSt) (hd:s.down=false):(opF none s=0/\(opD none s).down=false/\(opD none s).now=s.now/\(opD none s).kept=s.now/\(opD none s).wait=[])∨Fell s (opD none s) (opF none s):=by
 rcases zAb s hd with⟨h1,h2⟩|h
 ·have eD:opD none s={ bR s with kept:=s.now,wait:=[] }:=by show bZ s=_;unfold bZ;rw[if_pos h1]
  rw[eD];exact .inl ⟨h1,h2,(eH s).1,rfl,rfl⟩
 ·have eD:opD none s=bR s:=by show bZ s=_;unfold bZ;rw[if_neg (by rw[h.f10];decide)]
  rw[eD];exact .inr h
structure Run (r:Nat×DSt) (P:DSt->Prop) (X:List ByteArray->Prop):Prop where
 good:r.1=0->P r.2
 bad:r.1≠0->r.1=10/\r.2.down=true/\∀ K,fX r.2 K->X K
theorem Run.of_fell {s s':DSt} {f:Nat} {P:DSt->Prop} {X:List ByteArray->Prop} (h:Fell s s' f) (hX:∀ K,fX s K->X K):Run (f,s') P X:=
 ⟨fun e=>absurd (h.f10.symm.trans e) (by decide),fun _=>⟨h.f10,h.down,fun K hK=>hX K (by rw[<-h.aft];exact hK)⟩⟩
theorem Run.bind {a b:List DOp} {s:DSt} {P Q:DSt->Prop} {X:List ByteArray->Prop} (h:Run (runD a s) P X) (h2:∀ s',P s'->Run (runD b s') Q X):Run (runD (a++b) s) Q X:=by
 rw[gE];by_cases e:(runD a s).1=0
 ·rw[if_pos e];exact h2 _ (h.good e)
 ·rw[if_neg e];exact⟨fun e2=>absurd e2 e,h.bad⟩
theorem Run.mono {r:Nat×DSt} {P Q:DSt->Prop} {X Y:List ByteArray->Prop} (h:Run r P X) (h1:∀ s,P s->Q s) (h2:∀ K,X K->Y K):Run r Q Y:=
 ⟨fun e=>h1 _ (h.good e),fun e=>⟨(h.bad e).1,(h.bad e).2.1,fun K hK=>h2 K ((h.bad e).2.2 K hK)⟩⟩
theorem Run.writes (X:List ByteArray->Prop) (n:Nat):∀ (l:List (Nat×ByteArray)) (s:DSt),s.down=false->s.now.length=n->(∀ K,fX s K->X K)->(∀ x∈l,x.1<n/\x.2.size<=96/\∀ K,X K->X (K.set x.1 (aH x.2)))->
  Run (runD (l.map fun x=>some (x.1,x.2)) s) (fun s'=>s'.down=false/\s'.now=l.foldl (fun N x=>N.set x.1 (aH x.2)) s.now/\∀ K,fX s' K->X K) X
 | [],s,hd,_,hX,_=>⟨fun _=>⟨hd,rfl,hX⟩,fun e=>absurd rfl e⟩
 | x::l,s,hd,hn,hX,hl=>by
  obtain⟨h1,h2,h3⟩:=hl x (List.mem_cons_self ..);show Run (if opF (some (x.1,x.2)) s=0 then runD (l.map fun x=>some (x.1,x.2)) (opD (some (x.1,x.2)) s) else (opF (some (x.1,x.2)) s,opD (some (x.1,x.2)) s)) _ _;rcases zEQ s hd x.1 x.2 (by omega) h2 with⟨q1,q2,q3,_,q5⟩|h
  ·rw[if_pos q1];have:=Run.writes X n l (opD (some (x.1,x.2)) s) q2 (by rw[q3,List.length_set];exact hn) (fun K hK=>by
    obtain⟨K0,a,b⟩:=q5 K hK;rcases b with rfl|rfl
    ·exact hX _ a
    ·exact h3 _ (hX _ a)) (fun y hy=>hl y (List.mem_cons_of_mem _ hy))
   rw[q3] at this;exact this
  ·rw[if_neg (by rw[h.f10];decide)];exact .of_fell h hX
theorem Run.flush (X:List ByteArray->Prop) (s:DSt) (hd:s.down=false) (hX:∀ K,fX s K->X K):Run (runD [none] s) (fun s'=>s'.down=false/\s'.now=s.now/\s'.kept=s.now/\s'.wait=[]) X:=by
 rw[jC];rcases zEc s hd with⟨q1,q2⟩|h
 ·exact⟨fun _=>q2,fun e=>absurd q1 e⟩
 ·exact .of_fell h hX
theorem yB:∀ (l:List ByteArray) (a:Nat),aL a l=(l.zipIdx a).map fun x=>some (x.2,x.1)
 | [],_=>rfl
 | t::l,a=>by
  show some (a,t)::aL (a+1) l=_;rw[yB l (a+1),List.zipIdx_cons];rfl
theorem zDt (l:List (Nat×ByteArray)) (j:Nat):∀ (N:List ByteArray),(∀ x∈l,x.1≠j)->(l.foldl (fun N x=>N.set x.1 (aH x.2)) N)[j]?=N[j]?:=by
 induction l with
 | nil=>intro N _;rfl
 | cons x l ih=>
  intro N h;show(l.foldl _ (N.set x.1 (aH x.2)))[j]?=_;rw[ih _ fun y hy=>h y (List.mem_cons_of_mem _ hy),List.getElem?_set_ne (h x (List.mem_cons_self ..))]
theorem uC (l:List (Nat×ByteArray)):∀ (N:List ByteArray),(l.foldl (fun N x=>N.set x.1 (aH x.2)) N).length=N.length:=by
 induction l with
 | nil=>intro N;rfl
 | cons x l ih=>intro N;show(l.foldl _ (N.set x.1 (aH x.2))).length=_;rw[ih,List.length_set]
theorem xX:∀ (l:List ByteArray) (a:Nat) (N:List ByteArray) (j:Nat) (h:j<l.length),a+l.length<=N.length->((l.zipIdx a).foldl (fun N x=>N.set x.2 (aH x.1)) N)[a+j]?=some (aH l[j])
 | t::l,a,N,j,h,hN=>by
  rw[List.length_cons] at hN;rw[List.zipIdx_cons,List.foldl_cons]
  cases j with
  | zero=>
   have e:∀ (m:List ByteArray) (b:Nat) (M:List ByteArray),a<b->((m.zipIdx b).foldl (fun N x=>N.set x.2 (aH x.1)) M)[a]?=M[a]?:=fun m=>by
    induction m with
    | nil=>intro b M _;rfl
    | cons y m ih=>
     intro b M hb;rw[List.zipIdx_cons,List.foldl_cons,ih _ _ (by omega),List.getElem?_set_ne (by omega)]
   show(List.foldl _ (N.set a (aH t)) _)[a]?=_;rw[e l (a+1) _ (by omega),List.getElem?_set_self (by omega)];rfl
  | succ j=>
   have:=xX l (a+1) (N.set a (aH t)) j (by simpa using h) (by rw[List.length_set];omega);rw[show a+1+j=a+(j+1) by omega] at this;exact this
structure nM (N K:List ByteArray) (fr many first a:Nat) (ds:List (List Chg)) (u:Nat):Prop where
 len:K.length=N.length
 out:∀ j,j<a∨fr+many<=j->K[j]?=N[j]?
 has:HasL K fr many first ds u
theorem zCW (k n:Nat) (d:ByteArray):(encL k n d).size=6+d.size:=by
 unfold encL;rw[ByteArray.size_append,ByteArray.size_append,ByteArray.size_append];show 1+4+1+d.size=_;omega
theorem zBM {n:Nat} {l:List Chg} (h:bS l=0):∀ t∈cB n l,t.size<=96:=by
 intro t ht;unfold cB at ht;rcases List.mem_append.1 ht with ht|ht
 ·have:∀ (l:List Chg) (n:Nat),bS l=0->∀ t∈eJ n l,t.size<=96:=fun l=>by
   induction l with
   | nil=>intro n _ t ht;exact absurd ht List.not_mem_nil
   | cons c l ih=>
    intro n h t ht;obtain⟨h1,h2⟩:=zAc h;obtain⟨q1,q2⟩:=iS h1;rcases List.mem_cons.1 ht with rfl|ht
    ·rw[zCW,nZ];omega
    ·exact ih _ h2 t ht
  exact this l n h t ht
 ·rw[List.mem_singleton] at ht;rw[ht,zCW];show 6+4<=96;decide
section
variable {s:DSt} {fr many first u:Nat} {ds:List (List Chg)} {l:List Chg}
theorem zMJ (hd:s.down=false) (hw:s.wait=[]) (hk:s.kept=s.now) (hfit:fr+many<=s.now.length) (h:HasL s.now fr many first ds u) (hl:bS l=0) (hroom:u+l.length+1<=many):
  Run (runD (iP (fr+u) (cB (first+u) l) (many-u)) s) (fun s'=>s'.down=false/\s'.wait=[]/\s'.kept=s'.now/\nM s.now s'.now fr many first (fr+u) (ds++[l]) (u+l.length+1))
   (fun K=>nM s.now K fr many first (fr+u) ds u∨nM s.now K fr many first (fr+u) (ds++[l]) (u+l.length+1)):=by
 have hsz:=zBM (n:=first+u) hl;have hdl:=nB (first+u) l;generalize hS:cB (first+u) l=secs at *;generalize hN:s.now=N at *;obtain⟨t0,tl,hsec⟩:∃ t0 tl,secs=t0::tl:=by
  cases secs with
  | nil=>simp at hdl
  | cons t0 tl=>exact⟨t0,tl,rfl⟩
 have htl:tl.length=l.length:=by rw[hsec] at hdl;simpa using hdl
 have hops:iP (fr+u) secs (many-u)=[some (fr+u,bF)]++([none]++(aL (fr+u+1) tl++((if secs.length=many-u then [] else [some (fr+u+secs.length,bF)])++([none]++([some (fr+u,t0)]++([none]++[])))))):=by
  rw[hsec];rfl
 rw[hops];have hau:fr+u<N.length:=by omega
 have g0:∀ K,(K=N∨K=N.set (fr+u) (bD 96))->nM N K fr many first (fr+u) ds u:=fun K hK=>by
  rcases hK with rfl|rfl
  ·exact⟨rfl,fun _ _=>rfl,h⟩
  ·exact⟨List.length_set ..,fun j hj=>List.getElem?_set_ne (by omega),h.nought hfit (fun j hj=>List.getElem?_set_ne (by omega)) (List.getElem?_set_self hau) (by omega)⟩
 have r1:=Run.writes (fun K=>K=N∨K=N.set (fr+u) (bD 96)) N.length [(fr+u,bF)] s hd (by rw[hN]) (fun K hK=>.inl (by rw[mW hw hK,hk])) (fun x hx=>by
  rw[List.mem_singleton] at hx;subst hx;refine⟨hau,by show bF.size<=96;decide,fun K hK=>?_⟩;rcases hK with rfl|rfl
  ·exact .inr rfl
  ·refine .inr ?_;show(N.set (fr+u) (bD 96)).set (fr+u) (bD 96)=_;rw[List.set_set])
 refine Run.bind (r1.mono (fun _ h=>h) (fun K hK=>.inl (g0 K hK))) fun s1 ⟨d1,n1,x1⟩=>?_;have n1':s1.now=N.set (fr+u) (bD 96):=by rw[n1,hN];rfl
 refine Run.bind ((Run.flush _ s1 d1 x1).mono (fun _ h=>h) (fun K hK=>.inl (g0 K hK))) fun s2 ⟨d2,n2,k2,w2⟩=>?_;rw[n1'] at n2 k2;have hX2:∀ K:List ByteArray,(K.length=N.length/\(∀ j,j<fr+u∨fr+many<=j->K[j]?=N[j]?)/\K[fr+u]?=some (bD 96))->nM N K fr many first (fr+u) ds u:=fun K ⟨q1,q2,q3⟩=>⟨q1,q2,h.nought hfit (fun j hj=>q2 _ (by omega)) q3 (by omega)⟩;have hset:∀ (a:Nat) (d:ByteArray) (K:List ByteArray),fr+u<a->a<fr+many->(K.length=N.length/\(∀ j,j<fr+u∨fr+many<=j->K[j]?=N[j]?)/\K[fr+u]?=some (bD 96))->((K.set a (aH d)).length=N.length/\(∀ j,j<fr+u∨fr+many<=j->(K.set a (aH d))[j]?=N[j]?)/\(K.set a (aH d))[fr+u]?=some (bD 96)):=fun a d K h1 h2 ⟨q1,q2,q3⟩=>
  ⟨by rw[List.length_set];exact q1,fun j hj=>by rw[List.getElem?_set_ne (by omega)];exact q2 j hj,by rw[List.getElem?_set_ne (by omega)];exact q3⟩
 have hx2:(N.set (fr+u) (bD 96)).length=N.length/\(∀ j,j<fr+u∨fr+many<=j->(N.set (fr+u) (bD 96))[j]?=N[j]?)/\(N.set (fr+u) (bD 96))[fr+u]?=some (bD 96):=
  ⟨List.length_set ..,fun j hj=>List.getElem?_set_ne (by omega),List.getElem?_set_self hau⟩
 have erest:aL (fr+u+1) tl=((tl.zipIdx (fr+u+1)).map fun x=>(x.2,x.1)).map fun x=>some (x.1,x.2):=by rw[yB,List.map_map];rfl
 rw[erest];have r3:=Run.writes (fun K=>K.length=N.length/\(∀ j,j<fr+u∨fr+many<=j->K[j]?=N[j]?)/\K[fr+u]?=some (bD 96)) N.length ((tl.zipIdx (fr+u+1)).map fun x=>(x.2,x.1)) s2 d2 (by rw[n2,List.length_set]) (fun K hK=>by rw[mW w2 hK,k2];exact hx2) (fun x hx=>by
  obtain⟨y,hy,rfl⟩:=List.mem_map.1 hx;have hy2:=List.mem_zipIdx hy;refine⟨by show y.2<_;omega,hsz _ ?_,fun K hK=>hset _ _ K (by show _<y.2;omega) (by show y.2<_;omega) hK⟩;rw[hsec];have:=hy2.2.2;show y.1∈t0::tl;rw[this];exact List.mem_cons_of_mem _ (List.getElem_mem _))
 refine Run.bind (r3.mono (fun _ h=>h) (fun K hK=>.inl (hX2 K hK))) fun s3 ⟨d3,n3,x3⟩=>?_;rw[n2,List.foldl_map] at n3;have n3len:s3.now.length=N.length:=by
  rw[n3];have:=uC ((tl.zipIdx (fr+u+1)).map fun x=>(x.2,x.1)) (N.set (fr+u) (bD 96));rw[List.foldl_map,List.length_set] at this;exact this
 have n3out:∀ j,j<=fr+u∨fr+u+1+tl.length<=j->s3.now[j]?=(N.set (fr+u) (bD 96))[j]?:=fun j hj=>by
  rw[n3];have:=zDt ((tl.zipIdx (fr+u+1)).map fun x=>(x.2,x.1)) j (N.set (fr+u) (bD 96)) (fun x hx=>by
   obtain⟨y,hy,rfl⟩:=List.mem_map.1 hx;have hy2:=List.mem_zipIdx hy;show y.2≠j;omega)
  rw[List.foldl_map] at this;exact this
 have n3at:∀ j (hj:j<tl.length),s3.now[fr+u+1+j]?=some (aH tl[j]):=fun j hj=>by
  rw[n3];exact xX tl (fr+u+1) _ j hj (by rw[List.length_set];omega)
 have r4:Run (runD (if secs.length=many-u then [] else [some (fr+u+secs.length,bF)]) s3) (fun s'=>s'.down=false/\s'.now=(if secs.length=many-u then s3.now else s3.now.set (fr+u+secs.length) (bD 96))/\∀ K,fX s' K->(K.length=N.length/\(∀ j,j<fr+u∨fr+many<=j->K[j]?=N[j]?)/\K[fr+u]?=some (bD 96))) (fun K=>K.length=N.length/\(∀ j,j<fr+u∨fr+many<=j->K[j]?=N[j]?)/\K[fr+u]?=some (bD 96)):=by
  by_cases hc:secs.length=many-u
  ·rw[if_pos hc,if_pos hc];exact⟨fun _=>⟨d3,rfl,x3⟩,fun e=>absurd rfl e⟩
  ·rw[if_neg hc,if_neg hc];refine(Run.writes _ N.length [(fr+u+secs.length,bF)] s3 d3 n3len x3 (fun x hx=>?_)).mono (fun s' h=>h) (fun K hK=>hK);rw[List.mem_singleton] at hx;subst hx;exact⟨by show fr+u+secs.length<_;omega,by show bF.size<=96;decide,fun K hK=>hset _ _ K (by omega) (by omega) hK⟩
 refine Run.bind (r4.mono (fun _ h=>h) (fun K hK=>.inl (hX2 K hK))) fun s4 ⟨d4,n4,x4⟩=>?_;refine Run.bind ((Run.flush _ s4 d4 x4).mono (fun _ h=>h) (fun K hK=>.inl (hX2 K hK))) fun s5 ⟨d5,n5,k5,w5⟩=>?_;have n4len:s4.now.length=N.length:=by rw[n4];split<;>simp[n3len]
 have n4out:∀ j,j<fr+u∨fr+many<=j->s4.now[j]?=N[j]?:=fun j hj=>by
  rw[n4];have e:s3.now[j]?=N[j]?:=by rw[n3out j (by omega),List.getElem?_set_ne (by omega)]
  split
  ·exact e
  ·rw[List.getElem?_set_ne (by omega)];exact e
 have n4z:s4.now[fr+u]?=some (bD 96):=by
  rw[n4];have e:s3.now[fr+u]?=some (bD 96):=by rw[n3out _ (by omega),List.getElem?_set_self hau]
  split
  ·exact e
  ·rw[List.getElem?_set_ne (by omega)];exact e
 have n4at:∀ j (hj:j<tl.length),s4.now[fr+u+1+j]?=some (aH tl[j]):=fun j hj=>by
  rw[n4];split
  ·exact n3at j hj
  ·rw[List.getElem?_set_ne (by omega)];exact n3at j hj
 have n4e:secs.length<many-u->s4.now[fr+u+secs.length]?=some (bD 96):=fun hc=>by
  rw[n4,if_neg (by omega),List.getElem?_set_self (by omega)]
 have hg3:nM N (s4.now.set (fr+u) (aH t0)) fr many first (fr+u) (ds++[l]) (u+l.length+1):=by
  refine⟨by rw[List.length_set,n4len],fun j hj=>by rw[List.getElem?_set_ne (by omega)];exact n4out j hj,h.deed hfit (by rw[List.length_set,n4len]) (fun j hj=>by rw[List.getElem?_set_ne (by omega)];exact n4out _ (by omega)) l hl hroom ?_ (fun hm=>?_)⟩
  ·rw[hS];intro j hj;subst hsec
   cases j with
   | zero=>rw[Nat.add_zero,List.getElem?_set_self (by omega)];rfl
   | succ j=>
    have hj':j<tl.length:=by simpa using hj
    rw[List.getElem?_set_ne (by omega),show fr+u+(j+1)=fr+u+1+j by omega,n4at j hj'];rfl
  ·rw[List.getElem?_set_ne (by omega),show fr+u+l.length+1=fr+u+secs.length by omega];exact n4e (by omega)
 have g5:∀ K,(K=s4.now∨K=s4.now.set (fr+u) (aH t0))->(nM N K fr many first (fr+u) ds u∨nM N K fr many first (fr+u) (ds++[l]) (u+l.length+1)):=fun K hK=>by
  rcases hK with rfl|rfl
  ·exact .inl (hX2 _ ⟨n4len,n4out,n4z⟩)
  ·exact .inr hg3
 have r6:=Run.writes (fun K=>K=s4.now∨K=s4.now.set (fr+u) (aH t0)) N.length [(fr+u,t0)] s5 d5 (by rw[n5,n4len]) (fun K hK=>.inl (by rw[mW w5 hK,k5])) (fun x hx=>by
  rw[List.mem_singleton] at hx;subst hx;refine⟨hau,hsz _ (by rw[hsec];exact List.mem_cons_self ..),fun K hK=>?_⟩;rcases hK with rfl|rfl
  ·exact .inr rfl
  ·refine .inr ?_;show(s4.now.set (fr+u) (aH t0)).set (fr+u) (aH t0)=_;rw[List.set_set])
 refine Run.bind (r6.mono (fun _ h=>h) g5) fun s6 ⟨d6,n6,x6⟩=>?_;have n6':s6.now=s4.now.set (fr+u) (aH t0):=by rw[n6,n5];rfl
 refine Run.bind ((Run.flush _ s6 d6 x6).mono (fun _ h=>h) g5) fun s7 ⟨d7,n7,k7,w7⟩=>?_;refine⟨fun _=>⟨d7,w7,by show s7.kept=s7.now;rw[k7,n7],?_⟩,fun e=>absurd rfl e⟩;show nM N s7.now _ _ _ _ _ _;rw[n7,n6'];exact hg3
end
end Go.Proofs.YtnboipekkahmnaaGreatDoor
