import Derived.Test.YtcfjimdfegejaaaGreatDoorQ00
import Derived.Test.YtcfjimdfegejaaaGreatDoorQ02
import Derived.Test.YtcfjimdfegejaaaGreatDoorQ01
import Derived.Shelf.SlSortCmp.WholeK
import Derived.Test.YtcfjimdfegejaaaGreatDoorQ03
import Derived.Deep.SlicePairs
set_option maxHeartbeats 8000000
set_option maxRecDepth 100000
namespace Go.Proofs.YtcfjimdfegejaaaGreatDoor
open Addr renaming add→P6,add_lit→F6
open _root_.Array renaming extract_size→m_,getElem?_eq_getElem→B9,getElem?_eq_some_iff→F1,getElem?_toList→E4,length_toList→DZ
open Builtin renaming append_→z_,zeroCells→KZ
open _root_.ByteArray renaming empty→Q1,ext→D8,size_append→I1
open DataW renaming trod→T6,trod_int→C7,trod_string→N3,trod_struct→U7
open Fence renaming wide→L7
open Go.Lib renaming strCells→K4,wpList_append_own_string→R7
open Go.Sort renaming ahead→E6,alloc_eq_grow→N9
open Go renaming heap_alloc_new→Z5
open Lib renaming compareBytes→E3,hasPrefix→Y4,size_eq→R0,toList_data→N6,trimPrefix→Z3,wpList_append_run→U5
open List renaming drop_eq_getElem_cons→Q2,find?_eq_none→O7,find?_eq_some_iff_getElem→J8,findIdx?_eq_none_iff→D9,findIdx?_eq_some_iff_getElem→T7,flatMap_append→O4,flatMap_cons→J5,foldl→Q4,getElem?_eq_getElem→VY,getElem?_eq_none→A3,getElem?_eq_some_iff→Z0,getElem_mem→MZ,getElem_reverse→I5,length_append→YY,length_cons→PZ,length_drop→UZ,length_eq_zero_iff→E0,length_nil→F3,length_take→XY,map_cons→U2,mem_append→Q0,mem_cons→L2,mem_flatMap→K8,mem_map→Z2,nil_append→X3,not_mem_nil→X0,pairwise_map→M8,range→T0,sum_cons→Y7,take→A5,take_append_drop→J2,take_length→O1,take_of_length_le→LZ,take_succ_eq_append_getElem→ZY
open Maps renaming atKey_put_other→D7,atKey_put_same→I7,has→Z8,has_put_other→P7,has_put_same→X7
open Nat renaming add_assoc→U6,le_trans→BZ,lt_of_lt_of_le→UY,lt_or_ge→M3,mod_two_eq_zero_or_one→E9,reduceAdd→X5,zero_add→TZ,zero_le→OZ
open Obj renaming map→A9
open Op renaming bytesLess→J1
open Option renaming some→I0
open Go.Proofs.Tryz renaming prog→XZ,strings_CutPrefix→U9
open Value renaming bool→D5,map→E8,oneCell'→U1,ownBlock→VZ
open World renaming block_lt_of_cell?→AZ,cell?_setCell_same'→Y8,cell?_spot→F8,cells?_some→D4,frozen?_of_block→CZ,frozen?_setCell→EZ,new_ne→P3,news_of_block→V2,ownsRow→F2,ownsRow_nil→M1
open Go.Proofs.Tryz
open Obj renaming cells→o_
open World renaming cell?_of_block→b_,cell?_setCell_other→t_,cell?_setCell_same→u_,ownsRow.lt→l_
open Go.RowKit.Below renaming heap_setCell→h_,refl→r_
open Nat renaming le_refl→n_
open Go.Proofs.Tryz renaming prog→p_
open Value renaming string→v_,int→i_
open Go.Joins renaming below_alloc1→a_
variable {n b B vb mb k gk p size wb uk cap De off zj:Nat} {w w' W w3 w4 wr:World} {ao:Option Addr} {l ba:List ma} {c:ma} {v v' cv rv Og eh:Value} {xs:List Value} {F ga:List (BA×BA)} {a:Addr} {vs:List yb} {now since:Int} {D:DataW Value} {g:BA->Value} {R:BA->List yb} {key x:BA} {left:Lit->Bool} {s:BA×BA} {K K':List BA} {d':Array (BA×BA)}
section
open Go.RowKit Go.Joins
theorem TA (l:List UInt8):(⟨l.toArray⟩:BA).data.toList=l:=by simp
theorem wJ (k head:BA) (w:World):
  Calls p_ 140 #[.string k,.string head] w fun e w'=>e=.returned (.bool (jE k.data.toList head.data.toList))/\w'=w:=by
 obtain⟨r,hr⟩:∃ r:BA,r=⟨(Z3 k.data.toList head.data.toList).toArray⟩:=⟨_,rfl⟩;have Zi:Z3 k.data.toList head.data.toList=r.data.toList:=by rw[hr,TA]
 have hc:∀ w,Calls p_ 201 #[.string k,.string head] w fun e w'=>e=.returned (.tuple #[.string r,.bool (Y4 k.data.toList head.data.toList)])/\w'=w:=by
  rw[hr];exact U9 k head
 have hn:=kM r;unfold jE;rw[Zi];clear Zi hr;generalize bK r.data.toList=y at hn ⊢;generalize Y4 k.data.toList head.data.toList=x at hc ⊢;have HC:=aa hc;have HN:=aa hn;clear hc hn;cases x
 all_goals
  go_enter func140,ntmps140;go_wp2_with (first|(go_at_call 201;refine(HC.out _).mono ?_;rintro e w1 ⟨rfl,rfl⟩)|(go_at_call 120;refine(HN.out _).mono ?_;rintro e w1 ⟨rfl,rfl⟩))
  go_ret;exact⟨rfl,rfl⟩
theorem zBV (k:BA) (w:World) (hk:k.size<=maxLen):
  Calls p_ 141 #[.string k] w fun e w'=>e=.returned (.bool (kW k.data.toList))/\Below w.heap.size w w':=by
 obtain⟨r,hr⟩:∃ r:BA,r=⟨(Z3 k.data.toList [109,47]).toArray⟩:=⟨_,rfl⟩;have Zi:Z3 k.data.toList [109,47]=r.data.toList:=by rw[hr,TA]
 have hc:∀ w,Calls p_ 201 #[.string k,.string ⟨#[109,47]⟩] w fun e w'=>e=.returned (.tuple #[.string r,.bool (Y4 k.data.toList [109,47])])/\w'=w:=by
  rw[hr];exact U9 k ⟨#[109,47]⟩
 have Mb:r.size<=maxLen:=by
  rw[R0,<-Zi];rw[R0] at hk;unfold Z3;split
  ·rw[UZ];omega
  ·exact hk
 have hcut:=fun w=>VR r 47 w Mb;unfold kW;rw[Zi];clear Zi hr Mb;generalize Lib.indexByte r.data.toList 47=i at hcut ⊢;have hn:=kM (qE r i.toNat);have hx:=zC4 (qD r (i.toNat+1));rw[oT] at hn;rw[oM] at hx;unfold nY;unfold fh at hcut;generalize qE r i.toNat=x at hn hcut;generalize qD r (i.toNat+1)=y at hx hcut;generalize bK (r.data.toList.take i.toNat)=nx at hn ⊢;generalize ui (r.data.toList.drop (i.toNat+1))=ny at hx ⊢;generalize Y4 k.data.toList [109,47]=p at hc ⊢;have HB:=r_ w.heap.size w;have HC:=aa hc;have HN:=aa hn;have HX:=aa hx;clear hc hn hx;cases p
 ·have HT:=aa hcut;clear hcut;go_enter func141,ntmps141;go_wp2_with (go_at_call 201;refine(HC.out _).mono ?_;rintro e w1 ⟨rfl,rfl⟩)
  go_ret;exact⟨rfl,HB⟩
 ·by_cases h0:0<=i
  all_goals
   simp only[h0,if_true,if_false,decide_true,decide_false,Bool.true_and,Bool.false_and] at hcut ⊢;have HT:=aa hcut;clear hcut h0
   try cases nx
   all_goals
    go_enter func141,ntmps141;go_wp2_with (first
     | (go_at_call 201;refine(HC.out _).mono ?_;rintro e w1 ⟨rfl,rfl⟩)
     | (go_at_call 202;refine(HT.out _).mono ?_;rintro e w1 ⟨rfl,hb⟩;replace HB:=aB HB (n_ _) hb;clear hb)
     | (go_at_call 120;refine(HN.out _).mono ?_;rintro e w1 ⟨rfl,rfl⟩)
     | (go_at_call 203;refine(HX.out _).mono ?_;rintro e w1 ⟨rfl,rfl⟩))
    go_ret;exact⟨rfl,HB⟩
theorem oD (k:BA) (w:World) (hk:k.size<=maxLen):
  Calls p_ 73 #[.string k] w fun e w'=>e=.returned (pa (if Fc k.data.toList then 0 else 3))/\Below w.heap.size w w':=by
 have h1:=wJ k ⟨#[116,47]⟩;have h2:=wJ k ⟨#[113,47]⟩;have h3:=fun w=>zBV k w hk;have e1:(⟨#[116,47]⟩:BA).data.toList=[116,47]:=rfl;have e2:(⟨#[113,47]⟩:BA).data.toList=[113,47]:=rfl;rw[e1] at h1;rw[e2] at h2;clear e1 e2;unfold Fc;generalize jE k.data.toList [116,47]=x at h1 ⊢;generalize jE k.data.toList [113,47]=y at h2 ⊢;generalize kW k.data.toList=z at h3 ⊢;have HB:=r_ w.heap.size w;have H1:=aa h1;have H2:=aa h2;have H3:=aa h3;clear h1 h2 h3;cases x<;>cases y<;>cases z
 all_goals
  go_enter func73,ntmps73;go_wp2_with (first
   | (go_at_call_of 140 (v_ ⟨#[116,47]⟩);refine(H1.out _).mono ?_;rintro e w1 ⟨rfl,rfl⟩)
   | (go_at_call_of 140 (v_ ⟨#[113,47]⟩);refine(H2.out _).mono ?_;rintro e w1 ⟨rfl,rfl⟩)
   | (go_at_call 141;refine(H3.out _).mono ?_;rintro e w1 ⟨rfl,hb⟩;replace HB:=aB HB (n_ _) hb;clear hb))
  go_ret;exact⟨rfl,HB⟩
def aD (c:ma):Nat:=if !Fc c.key.data.toList then 3 else if c.gone&&!c.val.toList.isEmpty then 3 else if 40<c.val.size then 1 else 0
theorem gB (c:ma) (w:World) (hk:c.key.size<=maxLen):
  Calls p_ 145 #[.agg #[.string c.key,.string c.val,.bool c.gone]] w fun e w'=>e=.returned (pa (aD c))/\Below w.heap.size w w':=by
 have HK:=fun w'=>aa (oD c.key w' hk);unfold aD;generalize Fc c.key.data.toList=kl at *;obtain⟨-,a1,a2,hB,-⟩:=Nf w (FX c.key c.val c.gone) rfl rfl;cases kl
 ·go_enter func145,ntmps145;go_wp2_with fail;refine((HK _).out).mono ?_;rintro e w1 ⟨rfl,hb⟩;replace hB:=aB hB (n_ _) hb;simp only[Bool.false_eq_true,if_false,pa];go_wp2;go_ret;exact⟨rfl,hB⟩
 ·generalize c.gone=g at *;cases g
  all_goals
   go_enter func145,ntmps145;go_wp2_with fail;refine((HK _).out).mono ?_;rintro e w1 ⟨rfl,hb⟩;replace hB:=aB hB (n_ _) hb;replace ⟨a1,a2⟩:=Em hb a1 a2;clear HK hb;simp only[if_true,pa];by_cases Xy:40<c.val.size
   ·have MQ:(40:Int)<(c.val.size:Int):=by omega
    go_wp2
    all_goals
     go_ret;exact⟨by simp_all [pa],hB⟩
   ·have MQ:¬(40:Int)<(c.val.size:Int):=by omega
    go_wp2
    all_goals
     go_ret;exact⟨by simp_all [pa],hB⟩
theorem oR {n:Int} (h0:0<=n) (h1:n<=100000):wrap64 n=n:=by unfold wrap64;omega
theorem zFw (s:ByteArray) (w:World) (h2:2<=s.size) (hs:s.size<=1000) (x y:Nat) (hx:s[0].toNat=x) (hy:s[1].toNat=y) (h1:x<=1) (hl:2+y<=s.size):
  Calls p_ 307 #[.string s] w fun e w'=>e=.returned (.tuple #[.agg #[.string (s.extract 2 (2+y)),.string (s.extract (2+y) s.size),.bool (decide (x=1))],.bool true])/\Below w.heap.size w w':=by
 have hB:=a_ w OX;have fz:=aQ w #[v_ ⟨#[]⟩,v_ ⟨#[]⟩,D5 false] 99;have w1:wrap64 (y:Int)=y:=oR (by omega) (by omega);have w2:wrap64 (2+(y:Int))=2+y:=oR (by omega) (by omega);have d1:decide ((s.size:Int)<2)=false:=by simp;omega
 have d2:decide ((1:Int)<(x:Int))=false:=by simp;omega
 have d3:decide ((s.size:Int)<2+(y:Int))=false:=by simp;omega
 have g1:1<(s.size:Int):=by omega
 have g0:0<s.size:=by omega
 have i1:(0:Int)<=2+(y:Int):=by omega
 have i2:2+(y:Int)<=(s.size:Int):=by omega
 have i3:(2:Int)<=2+(y:Int):=by omega
 go_enter func307,ntmps307;go_wp2
 go_region_held3 (fun _=>True) (trivial) (fail)
 go_wp2;refine bodyPost_ret (v:=.tuple #[.agg #[.string (s.extract 2 (2+y)),.string (s.extract (2+y) s.size),.bool ((x:Int)==1)],.bool true]) (by simp[results,results307,go_sem];rw[show(2+(y:Int)).toNat=2+y by omega];exact⟨rfl,rfl⟩) rfl ⟨?_,(a_ w _).drew⟩;have dh:x=0∨x=1:=by omega
 rcases dh with e|e<;>rw[e]<;>rfl
theorem zGa (s:ByteArray) (c:ma) (w:World) (hk:c.key.size<=maxLen) (hf:aD c=0)
  (HS:∀ w',Calls p_ 307 #[.string s] w' fun e Ch=>e=.returned (.tuple #[.agg #[.string c.key,.string c.val,.bool c.gone],.bool true])/\Below w'.heap.size w' Ch):
  Calls p_ 282 #[.string s] w fun e w'=>e=.returned (.tuple #[.agg #[.string c.key,.string c.val,.bool c.gone],.nilIface])/\Below w.heap.size w w':=by
 have HK:=fun w'=>aa (gB c w' hk);rw[hf] at HK;replace HS:=fun w'=>aa (HS w');go_enter func282,ntmps282;obtain⟨r0,r1,r2,hB,h0,fz,-⟩:=Nf w OX rfl rfl;go_wp2_with fail;refine((HS _).out).mono ?_;rintro e w1 ⟨rfl,hb⟩;replace hB:=aB hB (n_ _) hb;replace fz:=fun j=>aE hb h0 (fz j);replace ⟨r0,r1,r2⟩:=Fe hb r0 r1 r2;replace h0:=UY h0 hb.size;clear hb;obtain⟨q0,q1,q2,hX,h3,-⟩:=Nf w1 (FX c.key c.val c.gone) rfl rfl;go_wp2_with fail;refine((HK _).out).mono ?_;rintro e w2 ⟨rfl,hb⟩;replace hX:=aB hX (n_ _) hb;replace hB:=aB hB (n_ _) hX;replace fz:=fun j=>aE hX h0 (fz j);replace ⟨r0,r1,r2⟩:=Fe hX r0 r1 r2;replace ⟨q0,q1,q2⟩:=Fe hb q0 q1 q2;clear hb hX HS HK h3;simp only[pa,if_true];go_wp2;exact bodyPost_ret (v:=.tuple #[.agg #[.string c.key,.string c.val,.bool c.gone],.nilIface]) (by simp[results,results282,go_sem,r0,r1,r2]) rfl ⟨rfl,((hB.setCell (n_ _) _).setCell (n_ _) _).setCell (n_ _) _⟩
def rZ (c:ma):ByteArray:=⟨#[if c.gone then 1 else 0,UInt8.ofNat c.key.size]⟩
theorem zH1 (c:ma) (w:World) (hk:c.key.size<=1000) (hv:c.val.size<=1000) (f:Nat) (hf:aD c=f):
  Calls p_ 249 #[.agg #[.string c.key,.string c.val,.bool c.gone]] w fun e w'=>e=.returned (.tuple (if f=0 then #[.string (rZ c++c.key++c.val),.nilIface] else #[.string ⟨#[]⟩,pa f]))/\Below w.heap.size w w':=by
 have HK:=fun w'=>aa (gB c w' (by unfold maxLen;omega));rw[hf] at HK;obtain⟨a0,a1,a2,hB,-⟩:=Nf w (FX c.key c.val c.gone) rfl rfl;by_cases h0:f=0
 ·subst h0;simp only[if_true];unfold rZ;generalize c.gone=g at *;cases g
  ·go_enter func249,ntmps249;go_wp2_with fail;refine((HK _).out).mono ?_;rintro e w1 ⟨rfl,hb⟩;replace hB:=aB hB (n_ _) hb;replace ⟨a0,a1,a2⟩:=Fe hb a0 a1 a2;have m0:=P3 w1 _ a0;have hX:=a_ w1 (NY ((c.key.size:Int) % 256));have x0:=aA hX a0;have x1:=aA hX a1;have x2:=aA hX a2;have hcv:=run_convert_bytes_back (P:=p_) ((w1.alloc (NY ((c.key.size:Int) % 256)))) 226 9 5 ⟨w1.heap.size,0,none⟩ 2 [0,UInt8.ofNat c.key.size] underlying226 underlying5 underlying9 (fun j hj=>by
    have Dj:j=0∨j=1:=by simp at hj;omega
    rcases Dj with rfl|rfl
    ·simp[P6]
    ·simp[P6])
   simp only[PZ,F3,TZ,X5] at hcv;have s1:¬9223372036854775807<2+c.key.size:=by omega
   have s2:¬9223372036854775807<2+c.key.size+c.val.size:=by omega
   clear HK hb;simp only[if_true,pa];go_wp2;go_ret2;exact⟨rfl,hB.trans (hX.mono hB.size)⟩
  ·go_enter func249,ntmps249;go_wp2_with fail;refine((HK _).out).mono ?_;rintro e w1 ⟨rfl,hb⟩;replace hB:=aB hB (n_ _) hb;replace ⟨a0,a1,a2⟩:=Fe hb a0 a1 a2;have m0:=P3 w1 _ a0;have hX:=a_ w1 (NY ((c.key.size:Int) % 256));have x0:=aA hX a0;have x1:=aA hX a1;have x2:=aA hX a2;have hY:=a_ w1 (SY ((c.key.size:Int) % 256));have y0:=aA hY a0;have y1:=aA hY a1;have hcv:=run_convert_bytes_back (P:=p_) (w1.alloc (SY ((c.key.size:Int) % 256))) 226 9 5 ⟨w1.heap.size,0,none⟩ 2 [1,UInt8.ofNat c.key.size] underlying226 underlying5 underlying9 (fun j hj=>by
    have Dj:j=0∨j=1:=by simp at hj;omega
    rcases Dj with rfl|rfl
    ·simp[P6]
    ·simp[P6])
   simp only[PZ,F3,TZ,X5] at hcv;have s1:¬9223372036854775807<2+c.key.size:=by omega
   have s2:¬9223372036854775807<2+c.key.size+c.val.size:=by omega
   clear HK hb;simp only[if_true,pa];go_wp2;go_ret2;exact⟨rfl,hB.trans (hY.mono hB.size)⟩
 ·simp only[if_neg h0];go_enter func249,ntmps249;go_wp2_with fail;refine((HK _).out).mono ?_;rintro e w1 ⟨rfl,hb⟩;replace hB:=aB hB (n_ _) hb;simp only[if_neg h0,pa];go_wp2;go_ret2;exact⟨by simp[pa,h0],hB⟩
def bW (w:World) (ao:Option Addr) (l:List ma):Prop:=l=[]∨∃ b off,ao=some ⟨b,off,none⟩/\dG w b off l
theorem eA (hb:Below w.heap.size w w') (h:bW w ao l):bW w' ao l:=by
 rcases h with h|⟨b,off,h,k⟩
 ·exact .inl h
 ·exact .inr ⟨b,off,h,gC hb k⟩
theorem sV (l:List ma) (n cap:Nat) (ao:Option Addr) (w:World) (hl:bW w ao l) (hm:n<=1000):
  Calls p_ 29 #[.slice ao l.length cap,.int .i64 n] w fun e w'=>e=.returned (.bool (iR l n))/\w'=w:=by
 rcases hl with rfl|⟨b,off,rfl,h⟩
 ·exact zCj _ _ _ _
 ·exact zAi l n b off cap w h hm
structure Dd where
 ao:Option Addr
 cap:Nat
 ba:List ma
end
section
open Go.RowKit Go.Joins
attribute [local go_sem ↓] Go.wp_at_zero Go.wp_at_succ
theorem zGN:∃ i,XZ.info? 5=some i/\i.zero=some (.int .u8 0)/\i.size=1/\i.bytes=1:=by
 have h:(XZ.info? 5).map (fun i=>(i.zero,i.size,i.bytes))=some (some (.int .u8 0),1,1):=by kernel_rfl
 cases hi:XZ.info? 5 with
 | none=>rw[hi] at h;cases h
 | some i=>
  rw[hi] at h;simp only[Option.map_some,I0.injEq,Prod.mk.injEq] at h;exact⟨i,rfl,h.1,h.2.1,h.2.2⟩
def zLJ (w w':World) (v:Value) (t:ByteArray):Prop:=w'.ownsRow w.heap.size 5 1 v t.size (K4 t)/\Below w.heap.size w w'
def mD (w:World) (b:Nat) (c:ma):Prop:=w.heap[b]?=some (.cells #[.string c.key,.string c.val,.bool c.gone] 99 (0,0))
theorem zJE (h:mD w b c) (ho:w.ownsRow B 5 1 v n xs):v.ownBlock≠some b:=by
 intro e;rcases ho.2 with⟨rfl,_⟩|⟨g,cap,cur,rfl,_,hg,_⟩
 ·cases e
 ·have:g=b:=by simpa[VZ] using e
  subst this;rw[h] at hg;simp at hg
theorem uG (h:mD w b c) (ho:w.ownsRow B 5 1 v n xs) (hg:w.grownBy w' v.ownBlock):mD w' b c:=
 (hg.block b (F1.1 h).1 (fun e=>zJE h ho e.symm)).trans h
theorem zI5 (h:mD w b c) (hb:Below w.heap.size w w'):mD w' b c:=
 (hb.block b (F1.1 h).1).trans h
theorem uX (h:mD w b c):w.cell? ⟨b,0,none⟩=some (.string c.key)/\w.cell? ⟨b,1,none⟩=some (.string c.val)/\w.cell? ⟨b,2,none⟩=some (.bool c.gone):=by
 unfold mD at h;refine⟨?_,?_,?_⟩<;>simp[World.cell?,h]
theorem zHs (w:World) (i j:Int) (c:ma):∀ k u,([.int .u8 i,.int .u8 j]:List Value)[k]?=some u->((w.alloc (FX c.key c.val c.gone)).alloc (o_ #[.int .u8 i,.int .u8 j] 5)).cell? ((⟨w.heap.size+1,0,none⟩:Addr).add k)=some u:=by
 intro k u h;have e:(w.alloc (FX c.key c.val c.gone)).heap.size=w.heap.size+1:=by simp
 generalize w.alloc (FX c.key c.val c.gone)=W at *;rw[<-e,Go.WideShapes.add_plain,TZ,aC W];simpa using h
theorem zMg (i j:Int):∀ u∈([.int .u8 i,.int .u8 j]:List Value),u.oneCell'=true:=by
 intro u h;simp only[L2,X0,or_false] at h;rcases h with rfl|rfl<;>rfl
theorem zKa (l:List ma) (ao:Option Addr) (cap:Nat) (w:World) (hd:bW w ao l) (hl:l.length<=1000) (Mb:∀ c∈l,c.key.size<=255/\c.val.size<=255):
  Calls p_ 147 #[.slice ao l.length cap] w fun e w'=>∃ v,e=.returned v/\zLJ w w' v (aO l):=by
 have HD:=aa hd;have HZ:=aa Mb;clear hd Mb;obtain⟨i0,Qb,Xb,Vm,Tp⟩:=zGN;go_enter func147,ntmps147;go_wp2
 go_loopw [3,8] (fun v iv wr=>∃ k:Nat,k<=l.length/\iv=.int .i64 (k:Int)/\zLJ w wr v (aO (l.take k))) (fun _ iv _=>l.length-(intOf iv).toNat)
 case atStart=>exact⟨0,OZ _,rfl,⟨rfl,.inl ⟨rfl,rfl⟩⟩,r_ _ _⟩
 case round=>
  obtain⟨k,hk,rfl,ho,hb⟩:=hrel;by_cases Aa:k<l.length
  ·have Za:(k:Int)<(l.length:Int):=by omega
   have Ih:(0:Int)<=(k:Int):=by omega
   rcases HD.out with e|⟨b,off,e,Bf⟩
   ·rw[e] at Aa;simp at Aa
   subst e;obtain⟨x0,x1,x2⟩:=Bf k Aa;have bj:aO (l.take (k+1))=aO (l.take k)++jd l[k]:=by
    rw[ZY Aa,zGO]
   have Et:(aO (l.take k)).size<=512000:=by
    have h1:=sP (l.take k) 510 fun c hc=>by have:=HZ.out c (List.mem_of_mem_take hc);omega
    rw[XY] at h1;have:min k l.length*(510+2)<=1000*512:=Nat.mul_le_mul (by omega) (by omega);omega
   obtain⟨z1,z2⟩:=HZ.out _ (MZ Aa);clear Bf;generalize l[k]=x at *;generalize aO (l.take k)=pt at *;replace ⟨x0,x1,x2⟩:=Fe hb x0 x1 x2;have HO:=aa ho;have Md:=aa hb;have tj:=aa bj;clear ho hb bj;have yt:∀ (W:World),mD (W.alloc (FX x.key x.val x.gone)) W.heap.size x:=fun W=>by
    unfold mD World.alloc;simp
   have MK:=aa (yt wr);clear yt;have Zg:=a_ wr (FX x.key x.val x.gone);have He:=aa (aB Md.out (n_ _) Zg);have Pd:=aa (bQ HO.out Zg);clear HO Zg;have s1:(K4 ⟨#[UInt8.ofNat x.key.size,UInt8.ofNat x.val.size]⟩)=[.int .u8 (x.key.size:Int),.int .u8 (x.val.size:Int)]:=zIL _ _ (by omega) (by omega);have tc:=aa s1;clear s1;go_wp2_with (at_builtin;first
    | (refine wpList_append_own _ rfl _ _ 226 rfl w.heap.size 5 i0 _ 1 1 underlying226 Qb Xb Vm Tp rfl (by omega) _ pt.size _ rfl (Pd.out.alloc _) ⟨wr.heap.size+1,0,none⟩ 2 2 [.int .u8 (x.key.size:Int),.int .u8 (x.val.size:Int)] rfl rfl (zHs _ _ _ _) (zMg _ _) (by unfold maxLen;omega) (by omega) (by have:=He.out.size;simp at this ⊢;omega) ?_;intro v7 w7 Xp Vx _;have Vz:=aa (uG (zI5 MK.out (a_ _ _)) (Pd.out.alloc _) Vx);have Gi:=aa ((aB He.out (n_ _) (a_ _ _)).grown Vx (aB He.out (n_ _) (a_ _ _)).size (fun k hk=>(Pd.out.lt k hk).1));have vn:=aa Xp;obtain⟨y0,y1,_⟩:=uX Vz.out;clear Xp Vx)
    | (refine R7 _ rfl _ _ 226 9 rfl w.heap.size 5 i0 underlying226 underlying9 Qb Xb Vm Tp _ (pt.size+2) _ rfl vn.out x.key rfl (by unfold maxLen;omega) (by omega) Gi.out.size ?_;intro v8 w8 fg LO _;have HK8:=aa (uG Vz.out vn.out LO);have Hl:=aa (Gi.out.grown LO Gi.out.size (fun k hk=>(vn.out.lt k hk).1));have Ng:=aa fg;obtain⟨q0,q1,_⟩:=uX HK8.out;clear fg LO y0 y1)
    | (refine R7 _ rfl _ _ 226 9 rfl w.heap.size 5 i0 underlying226 underlying9 Qb Xb Vm Tp _ (pt.size+2+x.key.size) _ rfl Ng.out x.val rfl (by unfold maxLen;omega) (by omega) Hl.out.size ?_;intro v9 w9 Ei hg9 _;have Rt:=aa (Hl.out.grown hg9 Hl.out.size (fun k hk=>(Ng.out.lt k hk).1));have Kj:=aa Ei;clear Ei hg9))
   refine⟨⟨k+1,by omega,by go_num,?_,Rt.out⟩,by simp[intOf];omega⟩;have e:(pt++jd x).size=pt.size+2+x.key.size+x.val.size:=by rw[I1,oA];omega
   have e2:K4 (pt++jd x)=K4 pt++[.int .u8 (x.key.size:Int),.int .u8 (x.val.size:Int)]++K4 x.key++K4 x.val:=by
    unfold jd;rw[mE,mE,mE,tc.out];simp only[List.append_assoc]
   rw[tj.out,e,e2];exact Kj.out
  ·have ek:k=l.length:=by omega
   subst ek;have Za:¬(l.length:Int)<(l.length:Int):=by omega
   rw[O1] at ho;have HO:=aa ho;have Md:=aa hb;clear ho hb;go_wp2;go_ret;exact⟨_,rfl,HO.out,Md.out⟩
end
section
open Go.RowKit Go.Joins
def aV (r:BA×BA):List Value:=[.string r.1,.string r.2]
theorem gQ (r:BA×BA):(aV r).length=2:=rfl
def Sb (w:World) (B:Nat) (v:Value) (F:List (BA×BA)):Prop:=w.ownsRow B 142 2 v F.length (F.flatMap aV)
theorem FG:(XZ.info? 142).map (fun i=>(i.zero,i.size,i.bytes))=some (some (.agg #[.string ⟨#[]⟩,.string ⟨#[]⟩]),2,32):=by kernel_rfl
theorem Cw {l:List (BA×BA)} {r:BA×BA} (h:w.ownsRow B 142 2 v (l.length+1) (l.flatMap aV++aV r)):Sb w B v (l++[r]):=by
 unfold Sb;rw[O4,YY];simpa using h
theorem GG (r:BA×BA):∀ u∈aV r,u.oneCell'=true:=by
 intro u hu;simp only[aV,L2,X0,or_false] at hu;rcases hu with rfl|rfl<;>rfl
theorem lV (h:Sb w B v F):∃ ao cap,v=.slice ao F.length cap/\bY w ao F:=by
 rcases aX h with⟨hv,h0⟩|⟨g,cap,hv,_,hl,hc,hm⟩
 ·have e:F=[]:=E0.1 h0;subst e;exact⟨none,0,hv,.inl rfl⟩
 ·refine⟨_,cap,hv,.inr ⟨g,0,rfl,fun i hi=>?_⟩⟩;unfold Sb at h;rw[hv] at h;have h0:=(dU gQ h i 0 hi (by omega)).1;have h1:=(dU gQ h i 1 hi (by omega)).1;rw[show 0+i*2=i*2+0 by omega];exact⟨h0,by rw[show i*2+0+1=i*2+1 by omega];exact h1⟩
theorem zJU {la:Option Addr} {lc:Nat} (h:Sb w B (.slice la F.length lc) F):bY w la F/\F.length<=9223372036854775807:=by
 refine⟨?_,?_⟩
 ·obtain⟨ao,cap,e,hh⟩:=lV h;cases e;exact hh
 ·rcases aX h with⟨_,h0⟩|⟨g,cap,hv,_,hl,hc,hm⟩
  ·omega
  ·unfold maxLen at hm;omega
theorem zL3 (l:List (BA×BA)) (b off cap b2 th pd:Nat) (w:World) (hl:iO w b off l) (Jh:iO w b2 th l) (hn:l.length<=9223372036854775807):
  Calls p_ 25 #[.slice (some ⟨b,off,none⟩) l.length cap,.slice (some ⟨b2,th,none⟩) l.length pd] w fun e w'=>e=.returned (.bool true)/\Below w.heap.size w w':=by
 go_enter func25,ntmps25;go_wp2
 go_loopw [5] (fun i wr=>∃ k:Nat,k<=l.length/\i=.int .i64 k/\Below w.heap.size w wr) (fun i _=>l.length-(intOf i).toNat)
 case atStart=>exact⟨0,OZ _,rfl,r_ _ _⟩
 case round=>
  obtain⟨k,hk,rfl,hB⟩:=hrel;by_cases Aa:k<l.length
  ·obtain⟨c0,c1⟩:=gW hB hl k Aa;obtain⟨d0,d1⟩:=gW hB Jh k Aa;go_wp2;go_quiet (fail);go_wp2;go_roundw
   case rel=>exact⟨k+1,by omega,by go_num,hB.trans (below_draws _ _ _)⟩
   case measure=>simp[intOf];omega
  ·go_wp2;go_ret;exact⟨rfl,hB⟩
theorem pE (ao Nj:Option Addr) (cap pd:Nat) (w:World):
  Calls p_ 25 #[.slice ao 0 cap,.slice Nj 0 pd] w fun e w'=>e=.returned (.bool true)/\Below w.heap.size w w':=by
 go_enter func25,ntmps25;go_wp2
 go_loopw [5] (fun i wr=>i=.int .i64 0/\wr=w) (fun _ _=>0)
 case atStart=>exact⟨rfl,rfl⟩
 case round=>
  obtain⟨rfl,rfl⟩:=hrel;go_wp2;go_ret;exact⟨rfl,r_ _ _⟩
theorem rP (l:List (BA×BA)) (ao Nj:Option Addr) (cap pd:Nat) (w:World) (hl:bY w ao l) (Jh:bY w Nj l) (hn:l.length<=9223372036854775807):
  Calls p_ 25 #[.slice ao l.length cap,.slice Nj l.length pd] w fun e w'=>e=.returned (.bool true)/\Below w.heap.size w w':=by
 rcases hl with rfl|⟨b,off,rfl,h⟩
 ·exact pE _ _ _ _ _
 ·rcases Jh with rfl|⟨b2,th,rfl,h2⟩
  ·exact pE _ _ _ _ _
  ·exact zL3 l b off cap b2 th pd w h h2 hn
end
section
open Go.RowKit Go.Joins Go.Shelf
attribute [local go_sem] Oper.semAt_some
def OS (n:Int) (pre:List (Nat×yb)):Prop:=∀ y∈pre,n<y.2.ed
theorem KR (W:World) (v:Value) (t:TypeId):(W.alloc (.cells #[v] t)).cell? ⟨W.heap.size,0,none⟩=some v/\(W.alloc (.cells #[v] t)).frozen? ⟨W.heap.size,0,none⟩=false:=⟨aC W #[v] t 0,aQ W #[v] t 0⟩
theorem pJ (o:Obj) (h:W.cell? a=some v):(W.alloc o).cell? a=some v:=aA (a_ _ _) h
theorem zBH (o:Obj) (h:W.cell? a=some v) (hf:W.frozen? a=false):(W.alloc o).frozen? a=false:=aE (a_ _ _) (AZ _ _ h) hf
theorem zLY (F:Fence) (m:Nat) (hL:F.fn 167) (hBk:F.fn 221) (Th:F.fn 256) (bh:F.round=none) (hm:3<=m) (ao:Option Addr) (cap:Nat) (vs:List yb) (n:Int) (w:World) (hlen:vs.length<=1000000) (hI:jH w.heap.size w ao cap vs):
  CallsIn F m p_ 167 #[.slice ao vs.length cap,.int .i64 n] w fun e W'=>e=.returned (.int .i64 (fO vs n))/\Below w.heap.size w W':=by
 have h1:1<=m:=by omega
 refine callsIn_of_wp_marks func167 rfl hL ?_ bh;simp only[ntmps167,List.size_toArray,PZ,F3,X5,Nat.reduceSub,Array.replicate_succ,Array.replicate_zero,List.push_toArray,List.append_toArray,X3,List.cons_append]
 gi_wp2_with (gi_at_call 221;refine(zL5 F (m-1) hBk bh _ _ _ _).mono ?_;rintro e w' ⟨rfl,rfl⟩)
 have c0:=KR w (.int .i64 n) 3;have c1:=KR (w.alloc (.cells #[.int .i64 n] 3)) (.int .i64 0) 3;have c2:=KR ((w.alloc (.cells #[.int .i64 n] 3)).alloc (.cells #[.int .i64 0] 3)) (.slice ao vs.length cap) 177;simp only[World.size_alloc] at c1 c2;have Nc:Below w.heap.size w (((w.alloc (.cells #[.int .i64 n] 3)).alloc (.cells #[.int .i64 0] 3)).alloc (.cells #[.slice ao vs.length cap] 177)):=(((r_ _ w).alloc (n_ _) _).alloc (by simp) _).alloc (by simp;omega) _;have hI2:jH (w.heap.size+3) (((w.alloc (.cells #[.int .i64 n] 3)).alloc (.cells #[.int .i64 0] 3)).alloc (.cells #[.slice ao vs.length cap] 177)) ao cap vs:=by
  rcases hI.below Nc with h|⟨b,e,hb,h⟩
  ·exact .inl h
  ·exact .inr ⟨b,e,by omega,h⟩
 refine wpIn_rangeFunc_ownH bh h1 (gf:=256) (lb:=#[.pointer (some ⟨w.heap.size+1+1,0,none⟩)]) rfl Th (enters_of func256 (by kernel_rfl) rfl)
  (zFD F (m-1) Th bh (by omega) (w.heap.size+1+1) (w.heap.size+3) ao cap vs hlen _ (by omega) (by simp) c2.1 hI2) belowK_t (belowK_b (by simp)) (r_ _ _) (fun _=>rfl)
  (fun pre W=>(OS n pre/\W.cell? ⟨w.heap.size+1+1,0,none⟩=some (.slice ao vs.length cap)/\W.cell? ⟨w.heap.size,0,none⟩=some (.int .i64 n)/\W.cell? ⟨w.heap.size+1,0,none⟩=some (.int .i64 0)/\W.frozen? ⟨w.heap.size+1,0,none⟩=false)/\Below w.heap.size w W)
  (fun c pre W=>(c=.ret/\(∃ Ps x,pre=Ps++[x]/\OS n Ps/\x.2.ed<=n/\W.cell? ⟨w.heap.size+1,0,none⟩=some (.int .i64 (x.1:Int))))/\Below w.heap.size w W)
  (OwnFrom.and (Own.from (fun s A B Hm hs hg hr=>⟨hs.1,cell_kept hs.2.1 hg hr,cell_kept hs.2.2.1 hg hr,cell_kept hs.2.2.2.1 hg hr,(frozen_kept hs.2.2.2.1 hg hr).trans hs.2.2.2.2⟩) _) (ownFrom_below (n_ _) (by simp;omega)))
  (fun c=>OwnFrom.and (Own.from (fun s A B Hm hs hg hr=>by obtain⟨e,Ps,x,h2,h3,h4,h5⟩:=hs;exact⟨e,Ps,x,h2,h3,h4,cell_kept h5 hg hr⟩) _) (ownFrom_below (n_ _) (by simp;omega)))
  ⟨⟨by simp[OS],c2.1,pJ _ (pJ _ c0.1),pJ _ c1.1,zBH _ c1.1 c1.2⟩,Nc⟩
  (fun x a' W=>∃ Bx,W.cell? ⟨Bx,0,none⟩=some (.int .i64 x.2.ed)/\a'={ tmps:=#[.slice ao vs.length cap,.int .i64 n,undef,.pointer (some ⟨w.heap.size,0,none⟩),.pointer (some ⟨w.heap.size+1,0,none⟩),.int .i64 (x.1:Int),.pointer (some ⟨Bx,0,none⟩),.slice ao vs.length cap,.func (.func 256) #[] #[.pointer (some ⟨w.heap.size+1+1,0,none⟩)],.int .i64 (x.1:Int),Vs x.2,undef,undef,undef,undef,undef],defers:=[] })
  (fun x a'=>Own.from (fun s A B Hm hs hg hr=>by obtain⟨Bx,hc,e⟩:=hs;exact⟨Bx,cell_kept hc hg hr,e⟩) _) ?assign ?body ?done ?stop
 case assign=>
  rintro l pre x W K ⟨⟨hp,Yf,zr,Mp,Ci⟩,hB⟩ hK;obtain⟨xi,xv⟩:=x;dsimp only[Vs] at hK ⊢
  gi_wp2
  exact hK _ _ ((KeepsOthers.alloc _ _).from _) ((r_ _ W).alloc (by have h3:w.heap.size+1+1<W.heap.size:=AZ _ _ Yf;omega) _) ⟨⟨hp,pJ _ Yf,pJ _ zr,pJ _ Mp,zBH _ Mp Ci⟩,hB.alloc hB.size _⟩ ⟨W.heap.size,aC W _ _ 0,rfl⟩
 case body=>
  rintro l pre x a' W hl ⟨r,hr⟩ ⟨⟨hp,Yf,zr,Mp,Ci⟩,hB⟩ ⟨Bx,Zg,rfl⟩ Aa;by_cases hx:x.2.ed<=n
  ·gi_wp2
   exact⟨(KeepsOthers.setCell _ _ _).from _,⟨rfl,pre,x,rfl,hp,hx,Y8 _ _ _ (by rw[Mp];rfl)⟩,hB.setCell (p:=⟨w.heap.size+1,0,none⟩) (by simp) _⟩
  ·gi_wp2
   exact⟨(KeepsOthers.refl _).from _,r_ _ _,⟨fun y hy=>(Q0.1 hy).elim (hp y) (fun e=>by simp at e;subst e;omega),Yf,zr,Mp,Ci⟩,hB⟩
 case done=>
  rintro D ys W hD rfl ⟨⟨La,_,_,Mp,Ci⟩,hB⟩ hK
  gi_wp2
  have hK':=(KeepsOthers.setCell W ⟨w.heap.size+1,0,none⟩ (.int .i64 (-1))).same D _ hK rfl;refine⟨by simp,.inl ⟨_,_,rfl,run_takeDeferred hK',?_⟩⟩;have yr:=cell_kept (Y8 W ⟨w.heap.size+1,0,none⟩ (.int .i64 (-1)) (by rw[Mp];rfl)) (grownBy_putObj' _ D (.deferred none)) (fun r e=>by cases e;exact⟨_,hK',rfl⟩);refine⟨.int .i64 (-1),?_,by rw[zIZ La],(hB.setCell (p:=⟨w.heap.size+1,0,none⟩) (by simp) _).trans (belowK_b (w:=w) (n_ _) _ D _ _ (by simp at hD;omega) hK' rfl rfl)⟩;simp[results,Tryz.f167,go_sem,yr]
 case stop=>
  rintro D c pre W hD ⟨k,hk,ry⟩ ⟨⟨rfl,Ps,x,e,La,hx,Mp⟩,hB⟩ hK
  gi_wp2
  refine⟨by simp,.inl ⟨_,_,rfl,run_takeDeferred hK,?_⟩⟩;have yr:=cell_kept Mp (grownBy_putObj' _ D (.deferred none)) (fun r e=>by cases e;exact⟨_,hK,rfl⟩);refine⟨.int .i64 (x.1:Int),?_,by rw[(zJw hk (e.symm.trans ry) La hx).1],hB.trans (belowK_b (w:=w) (n_ _) W D _ _ (by simp at hD;omega) hK rfl rfl)⟩;simp[results,Tryz.f167,go_sem,yr]
theorem kO (ao:Option Addr) (cap:Nat) (vs:List yb) (n:Int) (w:World) (hlen:vs.length<=1000000) (hI:jH w.heap.size w ao cap vs):
  Calls p_ 167 #[.slice ao vs.length cap,.int .i64 n] w fun e W'=>e=.returned (.int .i64 (fO vs n))/\Below w.heap.size w W':=
 (callsIn_wide (n:=3)).1 (zLY L7 3 trivial trivial trivial rfl (n_ _) ao cap vs n w hlen hI)
end
section
open Go.RowKit Go.Joins
def dZ (vs:List yb) (n:Int):Option yb:=vs.reverse.find? fun x=>decide (x.ed<=n)
def bE (vs:List yb) (n:Int):ByteArray×Bool:=match dZ vs n with
 | some x=>if x.gone then (⟨#[]⟩,false) else (x.val,true)
 | none=>(⟨#[]⟩,false)
theorem zGF (vs:List yb) (n:Int):(fO vs n=-1/\dZ vs n=none)∨∃ p,fO vs n=((p:Nat):Int)/\∃ h:p<vs.length,dZ vs n=some vs[p]:=by
 unfold fO dZ
 cases hf:vs.reverse.findIdx? (fun x=>decide (x.ed<=n)) with
 | none=>
  left;refine⟨rfl,?_⟩;rw[O7];exact fun x hx=>by have:=D9.1 hf x hx;simpa using this
 | some j=>
  right;obtain⟨hj,hp,Aa⟩:=T7.1 hf;have Td:j<vs.length:=by simpa using hj
  refine⟨vs.length-1-j,by show(vs.length:Int)-1-(j:Int)=_;omega,by omega,?_⟩;rw[J8];refine⟨by rw[I5] at hp;simpa using hp,j,hj,?_,fun i hi=>by have:=Aa i hi;simpa using this⟩;rw[I5]
theorem sZ (ao:Option Addr) (cap:Nat) (vs:List yb) (n:Int) (w:World) (hlen:vs.length<=1000000) (hI:jH w.heap.size w ao cap vs):
  Calls p_ 144 #[.slice ao vs.length cap,.int .i64 n] w fun e W'=>e=.returned (.tuple #[.string (bE vs n).1,.bool (bE vs n).2])/\Below w.heap.size w W':=by
 rcases zGF vs n with⟨hl,hv⟩|⟨p,hl,hp,hv⟩
 ·have HL:=aa hl;have HB:Hid (bE vs n=(⟨#[]⟩,false)):=by unfold Hid bE;rw[hv]
  clear hl hv;go_enter func144,ntmps144;go_wp2_with (go_at_call 167;refine(kO ao cap vs n _ hlen hI).mono ?_;rintro e w1 ⟨rfl,hb⟩;rw[HL.out])
  go_ret2;exact⟨by rw[HB.out];rfl,hb⟩
 ·rcases hI with⟨_,_,e⟩|⟨b,rfl,ze,hc⟩
  ·rw[e] at hp;simp at hp
  ·obtain⟨d0,d1,d2⟩:=hc p hp;have hp0:¬((p:Int)<0):=by omega
   have Al:(p:Int)<(vs.length:Int):=by omega
   have HL:=aa hl;have HI:Hid (jH w.heap.size w (some ⟨b,0,none⟩) cap vs):=.inr ⟨b,rfl,ze,hc⟩
   cases hg:vs[p].gone with
   | true=>
    have HB:Hid (bE vs n=(⟨#[]⟩,false)):=by unfold Hid bE;rw[hv];simp[hg]
    rw[hg] at d2;clear hl hv hg hc;go_enter func144,ntmps144;go_wp2_with (go_at_call 167;refine(kO _ cap vs n _ hlen HI.out).mono ?_;rintro e w1 ⟨rfl,hb⟩;rw[HL.out];have k2:=aA hb d2)
    go_ret2;exact⟨by rw[HB.out];rfl,hb⟩
   | false=>
    have HB:Hid (bE vs n=(vs[p].val,true)):=by unfold Hid bE;rw[hv];simp[hg]
    rw[hg] at d2;clear hl hv hg hc;go_enter func144,ntmps144;go_wp2_with (go_at_call 167;refine(kO _ cap vs n _ hlen HI.out).mono ?_;rintro e w1 ⟨rfl,hb⟩;rw[HL.out];have k1:=aA hb d1;have k2:=aA hb d2)
    go_ret2;exact⟨by rw[HB.out];rfl,hb⟩
def nO (x:yb):List Value:=[.int .i64 x.ed,.string x.val,.bool x.gone]
theorem kV (x:yb):(nO x).length=3:=rfl
theorem zH3 (l:List yb):∀ u∈l.flatMap nO,u.oneCell'=true:=by
 intro u hu;obtain⟨s,_,hu⟩:=K8.1 hu;simp only[nO,L2,X0,or_false] at hu;rcases hu with rfl|rfl|rfl<;>rfl
def uh (w:World) (B:Nat) (v:Value) (vs:List yb):Prop:=w.ownsRow B 192 3 v vs.length (vs.flatMap nO)
theorem nF (h:uh w B v vs):∃ ao cap,v=.slice ao vs.length cap/\jH w.heap.size w ao cap vs/\vs.length<=cap/\cap<=9223372036854775807:=by
 rcases aX h with⟨hv,h0⟩|⟨g,cap,hv,_,hl,hc,hm⟩
 ·have e:vs=[]:=E0.1 h0;subst e;exact⟨none,0,hv,.inl ⟨rfl,rfl,rfl⟩,n_ _,by omega⟩
 ·refine⟨_,cap,hv,.inr ⟨g,rfl,hl,fun i hi=>?_⟩,hc,by unfold maxLen at hm;omega⟩;unfold uh at h;rw[hv] at h;exact⟨(dU kV h i 0 hi (by omega)).1,(dU kV h i 1 hi (by omega)).1,(dU kV h i 2 hi (by omega)).1⟩
def RV (v:Value):Option (DataW Value×List MemPlace):=some (.held v,[])
def kL (s:BA):Lit:=.string s.data.toList
theorem oU {a b:BA} (h:a≠b):kL a≠kL b:=fun e=>h (by
 unfold kL at e;simp at e;exact D8 e)
def LW (a b:Value):Prop:=∀ k,a.ownBlock=some k->b.ownBlock≠some k
structure VS (w:World) (B vb mb:Nat) (now:Int) (n:Nat) (D:DataW Value) (g:BA->Value) (R:BA->List yb):Prop where
 num:w.cell? ⟨vb,0,none⟩=some (.int .i64 now)
 soft:w.frozen? ⟨vb,0,none⟩=false
 mp:w.cell? ⟨vb,1,none⟩=some (.map (some mb))
 own:w.ownsMap p_ 9 RV mb n D
 look:∀ key,key.size<=maxLen->D.atKey (kL key) (.held (.slice none 0 0))=.held (g key)
 has:∀ key,key.size<=maxLen->(Z8 D (kL key)=true↔R key≠[])
 rows:∀ key,uh w B (g key) (R key)
 Cm:B<=vb
 Bm:B<=mb
 ne:vb≠mb
 Vg:∀ key,(g key).ownBlock≠some vb
 Lg:∀ key,(g key).ownBlock≠some mb
 apart:∀ a b,a≠b->LW (g a) (g b)
def Gb (vb mb:Nat) (g:BA->Value) (k:Nat):Prop:=k=vb∨k=mb∨∃ key,(g key).ownBlock=some k
theorem VS.lt (h:VS w B vb mb now n D g R) (hk:Gb vb mb g k):k<w.heap.size:=by
 rcases hk with rfl|rfl|⟨key,e⟩
 ·exact AZ _ _ h.num
 ·exact h.own.lt
 ·exact(l_ (h.rows key) k e).2
theorem tZ (h:w.ownsMap p_ 9 RV mb n D) (e:w'.heap[mb]?=w.heap[mb]?):w'.ownsMap p_ 9 RV mb n D:=by
 obtain⟨es,xo,hb,r⟩:=h;exact⟨es,xo,e.trans hb,r⟩
theorem VS.kept (h:VS w B vb mb now n D g R) (hk:∀ k,Gb vb mb g k->w'.heap[k]?=w.heap[k]?):VS w' B vb mb now n D g R where
 num:=(b_ (w:=w) (hk vb (.inl rfl))).trans h.num
 soft:=(CZ (w:=w) (hk vb (.inl rfl))).trans h.soft
 mp:=(b_ (w:=w) (hk vb (.inl rfl))).trans h.mp
 own:=tZ h.own (hk mb (.inr (.inl rfl)))
 look:=h.look
 has:=h.has
 rows:=fun key=>aI (h.rows key) fun k e=>hk k (.inr (.inr ⟨key,e⟩))
 Cm:=h.Cm
 Bm:=h.Bm
 ne:=h.ne
 Vg:=h.Vg
 Lg:=h.Lg
 apart:=h.apart
theorem VS.on (h:VS w B vb mb now n D g R) (hb:Below w.heap.size w w'):VS w' B vb mb now n D g R:=h.kept fun k hk=>hb.block k (h.lt hk)
theorem eX:Maps.Keyed p_ 9:=Maps.string_keyed underlying9
theorem uH {s:BA} (hs:s.size<=maxLen):keyOf p_ 9 (.string s)=some (kL s):=Go.WideMaps.keyOf_string_mk underlying9 hs
theorem nJ (s:BA):WideAt.IsKeyLit (kL s):=trivial
theorem VS.looked (h:VS w B vb mb now n D g R) (hk:key.size<=maxLen):
  (Instr.lookup 176 (.map (some mb)) (.string key) false).run p_ w=.ok (g key) w:=by
 obtain⟨v,ps,ri,hv⟩:=h.own.lookup eX underlying176 (zeroValue177 w) (zd:=.held (.slice none 0 0)) (zp:=[]) rfl (uH hk);rw[h.look key hk] at hv;simp only[RV,I0.injEq,Prod.mk.injEq,DataW.held.injEq] at hv;rw[hv.1] at ri;exact ri
def Ec {α:Type} (g:BA->α) (key:BA) (v:α):BA->α:=fun k=>if k=key then v else g k
theorem bH {α:Type} (g:BA->α) (key:BA) (v:α):Ec g key v key=v:=by simp[Ec]
theorem aW {α:Type} (g:BA->α) {k:BA} (v:α) (h:k≠key):Ec g key v k=g k:=by simp[Ec,h]
theorem VS.put {ck:Nat} {x:yb} (h:VS W B vb mb now n D g R) (hk:key.size<=maxLen) (hB:B<=W.heap.size)
  (hg:W.grownBy w3 (g key).ownBlock) (ho:uh w3 B (.slice (some ⟨gk,0,none⟩) ((R key).length+1) ck) (R key++[x])) (Sc:(g key).ownBlock=some gk∨gk=W.heap.size)
  (hm:w4.ownsMap p_ 9 RV mb (n+1) (D.put (kL key) (.held (.slice (some ⟨gk,0,none⟩) ((R key).length+1) ck)))) (Ah:w3.grownBy w4 (some mb)):
  VS w4 B vb mb now (n+1) (D.put (kL key) (.held (.slice (some ⟨gk,0,none⟩) ((R key).length+1) ck))) (Ec g key (.slice (some ⟨gk,0,none⟩) ((R key).length+1) ck)) (Ec R key (R key++[x]))/\Below B W w4/\
  (∀ j,j<W.heap.size->¬Gb vb mb g j->w4.heap[j]?=W.heap[j]?/\¬Gb vb mb (Ec g key (.slice (some ⟨gk,0,none⟩) ((R key).length+1) ck)) j):=by
 have Qg:=h.lt (k:=vb) (.inl rfl);have qz:=h.lt (k:=mb) (.inr (.inl rfl));have Kr:=h.own.isMap;have Sv:gk≠vb:=by
  rcases Sc with e|e
  ·exact fun e'=>h.Vg key (by rw[e,e'])
  ·omega
 have ZC:gk≠mb:=by
  rcases Sc with e|e
  ·exact fun e'=>h.Lg key (by rw[e,e'])
  ·omega
 have ll:gk<w3.heap.size:=(l_ ho gk rfl).2;have b3:∀ j,j<W.heap.size->some j≠(g key).ownBlock->w3.heap[j]?=W.heap[j]?:=fun j h1 h2=>hg.block j h1 h2;have b4:∀ j,j<w3.heap.size->j≠mb->w4.heap[j]?=w3.heap[j]?:=fun j h1 h2=>Ah.block j h1 (fun e=>h2 (by cases e;rfl));have bv:w4.heap[vb]?=W.heap[vb]?:=(b4 vb (UY Qg hg.size) h.ne).trans (b3 vb Qg (Ne.symm (h.Vg key)));have SF:∀ k,k≠key->∀ j,(g k).ownBlock=some j->w4.heap[j]?=W.heap[j]?:=fun k La j hj=>by
  have ki:=(l_ (h.rows k) j hj).2;exact(b4 j (UY ki hg.size) (fun e=>h.Lg k (by rw[hj,e]))).trans (b3 j ki (fun e=>h.apart k key La j hj e.symm))
 have EB:∀ k,k≠key->(g k).ownBlock≠some gk:=fun k La e=>by
  rcases Sc with e'|e'
  ·exact h.apart k key La gk e e'
  ·have:=(l_ (h.rows k) gk e).2;omega
 refine⟨{ num:=?_,soft:=?_,mp:=?_,own:=hm,look:=?_,has:=?_,rows:=?_,Cm:=h.Cm,Bm:=h.Bm,ne:=h.ne,Vg:=?_,Lg:=?_,apart:=?_ },?_,?_⟩
 ·exact(b_ (w:=W) bv).trans h.num
 ·exact(CZ (w:=W) bv).trans h.soft
 ·exact(b_ (w:=W) bv).trans h.mp
 ·intro k Ui;by_cases e:k=key
  ·subst e;rw[bH,I7 Kr (nJ k)]
  ·rw[aW _ _ e,D7 (oU e)];exact h.look k Ui
 ·intro k Ui;by_cases e:k=key
  ·subst e;rw[bH,X7 Kr (nJ k)];simp
  ·rw[aW _ _ e,P7 (oU e)];exact h.has k Ui
 ·intro k;by_cases e:k=key
  ·subst e;rw[bH,bH];exact aI ho fun j hj=>by
    simp[VZ] at hj;subst hj;exact b4 _ ll ZC
  ·rw[aW _ _ e,aW _ _ e];exact aI (h.rows k) fun j hj=>SF k e j hj
 ·intro k;by_cases e:k=key
  ·subst e;rw[bH];simpa[VZ] using Sv
  ·rw[aW _ _ e];exact h.Vg k
 ·intro k;by_cases e:k=key
  ·subst e;rw[bH];simpa[VZ] using ZC
  ·rw[aW _ _ e];exact h.Lg k
 ·intro a b gh;by_cases ea:a=key
  ·subst ea;rw[bH,aW _ _ (Ne.symm gh)];intro j hj;simp[VZ] at hj;subst hj;exact EB b (Ne.symm gh)
  ·rw[aW _ _ ea];by_cases eb:b=key
   ·subst eb;rw[bH];intro j hj e;simp[VZ] at e;subst e;exact EB a ea hj
   ·rw[aW _ _ eb];exact h.apart a b gh
 ·exact((r_ B W).grown hg hB (fun k e=>(l_ (h.rows key) k e).1)).grown Ah (BZ hB hg.size) (fun k e=>by cases e;exact h.Bm)
 ·intro j h1 h2;have n1:j≠mb:=fun e=>h2 (.inr (.inl e));have n2:some j≠(g key).ownBlock:=fun e=>h2 (.inr (.inr ⟨key,e.symm⟩));refine⟨(b4 j (UY h1 hg.size) n1).trans (b3 j h1 n2),?_⟩;rintro(e|e|⟨k,e⟩)
  ·exact h2 (.inl e)
  ·exact h2 (.inr (.inl e))
  ·by_cases ek:k=key
   ·subst ek;rw[bH] at e;simp[VZ] at e;subst e;rcases Sc with e'|e'
    ·exact n2 e'.symm
    ·omega
   ·rw[aW _ _ ek] at e;exact h2 (.inr (.inr ⟨k,e⟩))
def cW (R:BA->List yb) (d:Int) (l:List ma):BA->List yb:=l.foldl (fun R c=>Ec R c.key (R c.key++[⟨d,c.val,c.gone⟩])) R
theorem zEl (R:BA->List yb) (d:Int) (l:List ma) (c:ma):cW R d (l++[c])=Ec (cW R d l) c.key (cW R d l c.key++[⟨d,c.val,c.gone⟩]):=by simp[cW]
theorem sF (d:Int) (key:BA):∀ (l:List ma) (R:BA->List yb),(cW R d l key).length<=(R key).length+l.length
 | [],R=>by simp[cW]
 | c::l,R=>by
  have h:=sF d key l (Ec R c.key (R c.key++[⟨d,c.val,c.gone⟩]));have e:cW R d (c::l)=cW (Ec R c.key (R c.key++[⟨d,c.val,c.gone⟩])) d l:=rfl;rw[e,PZ];by_cases ek:key=c.key
  ·subst ek;rw[bH,YY] at h;simp at h;omega
  ·rw[aW _ _ ek] at h;omega
end
section
open Go.RowKit Go.Joins
attribute [local go_sem ↓] Go.wp_at_zero Go.wp_at_succ
theorem VS.set {ZF:List yb} (h:VS W B vb mb now n D g R) (hB:B<=W.heap.size)
  (ho:uh W B v' ZF) (Hu:v'.ownBlock=some gk) (Si:¬Gb vb mb g gk) (La:ZF≠[])
  (hm:w4.ownsMap p_ 9 RV mb (n+1) (D.put (kL key) (.held v'))) (Ah:W.grownBy w4 (some mb)):
  VS w4 B vb mb now (n+1) (D.put (kL key) (.held v')) (Ec g key v') (Ec R key ZF)/\Below B W w4/\(∀ j,j<W.heap.size->j≠gk->¬Gb vb mb g j->w4.heap[j]?=W.heap[j]?/\¬Gb vb mb (Ec g key v') j):=by
 have Qg:=h.lt (k:=vb) (.inl rfl);have Kr:=h.own.isMap;have Sv:gk≠vb:=fun e=>Si (.inl e);have ZC:gk≠mb:=fun e=>Si (.inr (.inl e));have ll:gk<W.heap.size:=(l_ ho gk Hu).2;have b4:∀ j,j<W.heap.size->j≠mb->w4.heap[j]?=W.heap[j]?:=fun j h1 h2=>Ah.block j h1 (fun e=>h2 (by cases e;rfl));have bv:w4.heap[vb]?=W.heap[vb]?:=b4 vb Qg h.ne;have EB:∀ k,(g k).ownBlock≠some gk:=fun k e=>Si (.inr (.inr ⟨k,e⟩));refine⟨{ num:=?_,soft:=?_,mp:=?_,own:=hm,look:=?_,has:=?_,rows:=?_,Cm:=h.Cm,Bm:=h.Bm,ne:=h.ne,Vg:=?_,Lg:=?_,apart:=?_ },?_,?_⟩
 ·exact(b_ (w:=W) bv).trans h.num
 ·exact(CZ (w:=W) bv).trans h.soft
 ·exact(b_ (w:=W) bv).trans h.mp
 ·intro k Ui;by_cases e:k=key
  ·subst e;rw[bH,I7 Kr (nJ k)]
  ·rw[aW _ _ e,D7 (oU e)];exact h.look k Ui
 ·intro k Ui;by_cases e:k=key
  ·subst e;rw[bH,X7 Kr (nJ k)];simp[La]
  ·rw[aW _ _ e,P7 (oU e)];exact h.has k Ui
 ·intro k;by_cases e:k=key
  ·subst e;rw[bH,bH];exact aI ho fun j hj=>by
    rw[Hu] at hj;cases hj;exact b4 _ ll ZC
  ·rw[aW _ _ e,aW _ _ e];exact aI (h.rows k) fun j hj=>b4 j (l_ (h.rows k) j hj).2 (fun e=>h.Lg k (by rw[hj,e]))
 ·intro k;by_cases e:k=key
  ·subst e;rw[bH,Hu];simpa using Sv
  ·rw[aW _ _ e];exact h.Vg k
 ·intro k;by_cases e:k=key
  ·subst e;rw[bH,Hu];simpa using ZC
  ·rw[aW _ _ e];exact h.Lg k
 ·intro a b gh;by_cases ea:a=key
  ·subst ea;rw[bH,aW _ _ (Ne.symm gh)];intro j hj;rw[Hu] at hj;cases hj;exact EB b
  ·rw[aW _ _ ea];by_cases eb:b=key
   ·subst eb;rw[bH];intro j hj e;rw[Hu] at e;cases e;exact EB a hj
   ·rw[aW _ _ eb];exact h.apart a b gh
 ·exact(r_ B W).grown Ah hB (fun k e=>by cases e;exact h.Bm)
 ·intro j h1 h2 h3;refine⟨b4 j h1 (fun e=>h3 (.inr (.inl e))),?_⟩;rintro(e|e|⟨k,e⟩)
  ·exact h3 (.inl e)
  ·exact h3 (.inr (.inl e))
  ·by_cases ek:k=key
   ·subst ek;rw[bH,Hu] at e;cases e;exact h2 rfl
   ·rw[aW _ _ ek] at e;exact h3 (.inr (.inr ⟨k,e⟩))
def jS (l:List (BA×BA)):BA->List yb:=l.foldl (fun R r=>Ec R r.1 [⟨0,r.2,false⟩]) fun _=>[]
theorem zGn (l:List (BA×BA)) (r:BA×BA):jS (l++[r])=Ec (jS l) r.1 [⟨0,r.2,false⟩]:=by simp[jS]
theorem zMd (h1:W.cell? ⟨vb,0,none⟩=some (.int .i64 0)) (h2:W.frozen? ⟨vb,0,none⟩=false) (h3:W.cell? ⟨vb,1,none⟩=some (.map (some mb))) (h4:W.heap[mb]?=some (.map #[] 0)) (h5:B<=vb) (h6:B<=mb) (h7:vb≠mb):VS W B vb mb 0 0 (.map []) (fun _=>.slice none 0 0) (fun _=>[]) where
 num:=h1
 soft:=h2
 mp:=h3
 own:=by
  obtain⟨es,xo,hb,r⟩:=World.ownsMap_made W p_ 9 RV;rw[Z5] at hb;cases hb;exact⟨_,_,h4,r⟩
 look:=fun key _=>by rw[Maps.atKey_of_not_has rfl]
 has:=fun key _=>by simp[Z8]
 rows:=fun key=>M1 _ _ _ _
 Cm:=h5
 Bm:=h6
 ne:=h7
 Vg:=fun key=>by simp[VZ]
 Lg:=fun key=>by simp[VZ]
 apart:=fun a b _ k hk=>by simp[VZ] at hk
theorem zIz (n:Int) (w:World):(Instr.makeMap 176 (some (.int .i64 n))).run p_ w=.ok (.map (some w.heap.size)) (w.alloc (.map #[] 0)):=by
 simp[Instr.makeMap,run_underlying underlying176,asInt,newObj,go_sem];rfl
theorem zMl (l:List (BA×BA)) (ao:Option Addr) (cap:Nat) (w:World) (hl:bY w ao l) (hn:l.length<=1000) (hk:∀ r∈l,r.1.size<=1000000):
  Calls p_ 48 #[.slice ao l.length cap] w fun e w'=>∃ vb,e=.returned (.pointer (some ⟨vb,0,none⟩))/\Below w.heap.size w w'/\∃ mb D g,VS w' w.heap.size vb mb 0 l.length D g (jS l):=by
 have HL:=aa hl;have HK:=aa hk;clear hl hk;go_enter func48,ntmps48;have TD:=zIz;go_wp2;have ie:Hid (Below w.heap.size w ((w.alloc (A9 #[] 0)).alloc (o_ #[.int .i64 0,E8 (some w.heap.size)] 179))):=below_alloc2 _ _ _;have DW:Hid (VS ((w.alloc (A9 #[] 0)).alloc (o_ #[.int .i64 0,E8 (some w.heap.size)] 179)) w.heap.size (w.heap.size+1) w.heap.size 0 0 (.map []) (fun _=>.slice none 0 0) (fun _=>[])):=by
  have e1:(w.alloc (A9 #[] 0)).heap.size=w.heap.size+1:=by simp
  refine zMd ?_ ?_ ?_ ?_ (by omega) (n_ _) (by omega)
  ·have:=aC (w.alloc (A9 #[] 0)) #[i_ .i64 0,E8 (some w.heap.size)] 179 0;rwa [e1] at this
  ·have:=aQ (w.alloc (A9 #[] 0)) #[i_ .i64 0,E8 (some w.heap.size)] 179 0;rwa [e1] at this
  ·have:=aC (w.alloc (A9 #[] 0)) #[i_ .i64 0,E8 (some w.heap.size)] 179 1;rwa [e1] at this
  ·rw[Below.heap_alloc _ _ _ (by simp)];exact Z5 w _
 clear TD
 go_loopw [13] (fun i wr=>∃ (k:Nat) (D:DataW Value) (g:BA->Value),k<=l.length/\i=.int .i64 k/\VS wr w.heap.size (w.heap.size+1) w.heap.size 0 k D g (jS (l.take k))/\Below w.heap.size w wr) (fun i _=>l.length-(intOf i).toNat)
 case atStart=>exact⟨0,_,_,OZ _,rfl,DW.out,ie.out⟩
 case round=>
  obtain⟨k,D,g,Ui,rfl,hV,mj⟩:=hrel;have H1:=aa hV;have H2:=aa mj;clear hV mj DW ie;by_cases Aa:k<l.length
  ·rcases lX H2.out HL.out with e|⟨b,off,lu,Df⟩
   ·rw[e] at Aa;simp at Aa
   subst lu;obtain⟨c0,c1⟩:=Df k Aa;have Za:(k:Int)<(l.length:Int):=by omega
   have Wh:=HK.out _ (MZ Aa);have mz:l[k].1.size<=maxLen:=by unfold maxLen;omega
   have HT:Hid (jS (l.take (k+1))=Ec (jS (l.take k)) l[k].1 [⟨0,l[k].2,false⟩]):=by
    unfold Hid;rw[ZY Aa,zGn]
   generalize jS (l.take k)=R1 at H1 HT;clear Df Wh;generalize l[k]=x at *;obtain⟨x0,x1,Ja,-,-,xs⟩:=Fl wr (MX x.1 x.2) rfl rfl;have An:=aa (H1.out.on Ja);have Kz:=aa Ja;have GI:¬Gb (w.heap.size+1) w.heap.size g wr.heap.size:=fun e=>by have:=H1.out.lt e;omega
   have EP:¬Gb (w.heap.size+1) w.heap.size g (wr.heap.size+1):=fun e=>by have:=H1.out.lt e;omega
   go_wp2;generalize hY:wr.alloc (MX x.1 x.2)=Y at x0 x1 xs An Kz ⊢;clear hY Ja c0 c1;have v1:=An.out.mp;have hvY:=An.out.lt (k:=w.heap.size+1) (.inl rfl);have Yg:=(a_ Y (PY x.2)).drew;have Ev:=aa (An.out.on Yg);have Th:w.heap.size<=Y.heap.size:=by omega
   have hoZ:uh (Y.alloc (PY x.2)).drew w.heap.size (.slice (some ⟨wr.heap.size+1,0,none⟩) 1 1) [⟨0,x.2,false⟩]:=by
    rw[<-xs];refine⟨rfl,.inr ⟨Y.heap.size,1,#[i_ .i64 0,v_ x.2,D5 false],rfl,Th,Z5 Y _,by simp,by simp[maxLen],rfl,rfl⟩⟩
   have HOZ:=aa hoZ;obtain⟨w4,Oo,QD,Ah⟩:=Ev.out.own.update eX underlying176 (by unfold maxLen;omega) (uH mz) (show RV (.slice (some ⟨wr.heap.size+1,0,none⟩) 1 1)=_ from rfl);have UI:(some (w.heap.size+1):Option Nat)≠some w.heap.size:=fun e=>by have:=I0.inj e;omega
   have Bz:(some wr.heap.size:Option Nat)≠some w.heap.size:=fun e=>GI (.inr (.inl (I0.inj e)));have q1:=Ah.cell (aA Yg v1) UI;have q2:=Ah.cell (aA Yg x0) Bz;have q3:=Ah.cell (aA Yg x1) Bz;have HS:Hid (VS w4 w.heap.size (w.heap.size+1) w.heap.size 0 (k+1) (D.put (kL x.1) (.held (.slice (some ⟨wr.heap.size+1,0,none⟩) 1 1))) (Ec g x.1 (.slice (some ⟨wr.heap.size+1,0,none⟩) 1 1)) (Ec R1 x.1 [⟨0,x.2,false⟩])/\Below w.heap.size w w4):=by
    obtain⟨r1,r2,_⟩:=Ev.out.set (BZ Th Yg.size) HOZ.out rfl EP (by simp) QD Ah;exact⟨r1,(H2.out.trans ((aB Kz.out (n_ _) Yg).mono H2.out.size)).trans r2⟩
   clear hoZ QD Ah
   go_region_held3 (fun w'=>w'.cell? ⟨w.heap.size+1,1,none⟩=some (.map (some w.heap.size))/\w'.cell? ⟨wr.heap.size,0,none⟩=some (.string x.1)/\w'.cell? ⟨wr.heap.size,1,none⟩=some (.string x.2))
    (first|go_keep|exact⟨q1,q2,q3⟩) (fail)
   go_wp2;go_roundw
   case rel=>exact⟨k+1,_,_,by omega,by go_num,by rw[HT.out];exact HS.out.1,HS.out.2⟩
   case measure=>simp[intOf];omega
  ·have ek:k=l.length:=by omega
   subst ek;have Za:¬(l.length:Int)<(l.length:Int):=by omega
   rw[O1] at H1;go_wp2;go_ret;exact⟨_,rfl,H2.out,_,_,_,H1.out⟩
end
section
open Go.RowKit Go.Joins
def po (R:BA->List yb) (n:Int) (s:BA×BA) (r:BA×BA):Prop:=r.1.size<=maxLen/\Fb s.1 s.2 r.1=true/\bE (R r.1) n=(r.2,true)
structure My (D:DataW Value) (R:BA->List yb) (n:Int) (s:BA×BA) (left:Lit->Bool) (F:List (BA×BA)):Prop where
 mem:∀ r,r∈F↔po R n s r/\left (kL r.1)=false
 nodup:(F.map (·.1)).Nodup
theorem zFp {key:Value} {kl:Lit} (h:keyOf p_ 9 key=some kl):∃ s,key=.string s/\kl=kL s/\s.size<=maxLen:=by
 cases key<;>simp[keyOf,underlying9,mapKey] at h
 obtain⟨hs,rfl⟩:=h;exact⟨_,rfl,rfl,hs⟩
theorem wS {k:BA}:(left (kL k)&&!(kL k).sameKey (kL x))=if k=x then false else left (kL k):=by
 by_cases e:k=x
 ·subst e;rw[WideAt.sameKey_self (nJ k)];simp
 ·rw[if_neg e,Maps.sameKey_ne (oU e)];simp
theorem zDi {n:Int} (h:My D R n s left F) (hx:∀ v,¬po R n s (x,v)):My D R n s (fun z=>left z&&!z.sameKey (kL x)) F where
 mem:=fun r=>by
  rw[h.mem r];show _↔_/\(left (kL r.1)&&!(kL r.1).sameKey (kL x))=false;rw[wS];by_cases e:r.1=x
  ·obtain⟨r1,r2⟩:=r;subst e;exact⟨fun h'=>absurd h'.1 (hx r2),fun h'=>absurd h'.1 (hx r2)⟩
  ·rw[if_neg e]
 nodup:=h.nodup
theorem zJ2 {n:Int} (h:My D R n s left F) {v:BA} (hl:left (kL x)=true) (hx:po R n s (x,v)):My D R n s (fun z=>left z&&!z.sameKey (kL x)) (F++[(x,v)]) where
 mem:=fun r=>by
  rw[Q0,h.mem r,List.mem_singleton];show _↔_/\(left (kL r.1)&&!(kL r.1).sameKey (kL x))=false;rw[wS];by_cases e:r.1=x
  ·obtain⟨r1,r2⟩:=r;subst e;rw[if_pos rfl];constructor
   ·rintro(⟨h1,h2⟩|h2)
    ·exact⟨h1,rfl⟩
    ·rw[h2];exact⟨hx,rfl⟩
   ·rintro⟨h1,_⟩;right;have:=h1.2.2.symm.trans hx.2.2;simp at this;rw[this]
  ·rw[if_neg e];constructor
   ·rintro(h'|h')
    ·exact h'
    ·exact absurd (by rw[h']) e
   ·exact fun h'=>.inl h'
 nodup:=by
  rw[List.map_append,List.nodup_append];refine⟨h.nodup,by simp,fun a ha b hb=>?_⟩;obtain⟨r,hr,rfl⟩:=Z2.1 ha;simp at hb;subst hb;intro e;have:=((h.mem r).1 hr).2;rw[e,hl] at this;cases this
theorem rS (vs:List yb) (n:Int):(fO vs n=-1/\∀ x∈vs,n<x.ed)∨∃ p:Nat,∃ h:p<vs.length,fO vs n=(p:Int)/\vs[p].ed<=n/\∀ j (hj:j<vs.length),p<j->n<vs[j].ed:=by
 unfold fO
 cases hf:vs.reverse.findIdx? (fun x=>decide (x.ed<=n)) with
 | none=>
  left;refine⟨rfl,fun x hx=>?_⟩;have:=D9.1 hf x (by simpa using hx);simpa using this
 | some j=>
  right;obtain⟨hj,hp,Aa⟩:=T7.1 hf;have Td:j<vs.length:=by simpa using hj
  refine⟨vs.length-1-j,by omega,by show(vs.length:Int)-1-(j:Int)=_;omega,?_,fun i hi h=>?_⟩
  ·rw[I5] at hp;simpa using hp
  ·have Vm:vs.length-1-i<j:=by omega
   have:=Aa (vs.length-1-i) Vm;rw[I5] at this;have e:vs.length-1-(vs.length-1-i)=i:=by omega
   simp only[e] at this;simpa using this
theorem zKh {n:Int} (h:p<vs.length) (h1:vs[p].ed<=n) (h2:∀ j (hj:j<vs.length),p<j->n<vs[j].ed):fO vs n=(p:Int):=by
 rcases rS vs n with⟨_,hn⟩|⟨q,hq,e,Qa,se⟩
 ·have:=hn _ (MZ h);omega
 ·rcases Nat.lt_trichotomy p q with k|k|k
  ·have:=h2 q hq k;omega
  ·rw[e,k]
  ·have:=se p h k;omega
theorem uW (a b:List yb) (n:Int):dZ (a++b) n=(dZ b n).or (dZ a n):=by
 unfold dZ;rw[List.reverse_append,List.find?_append]
theorem zK {l:List yb} {x:yb} {n:Int} (h:x.ed<=n):dZ (l++[x]) n=some x:=by
 rw[uW];unfold dZ;simp[h]
def dN (vs:List yb) (n:Int):List yb:=
 if fO vs n<0 then vs else if (vs[(fO vs n).toNat]?.map (·.gone)).getD false then vs.drop ((fO vs n).toNat+1) else vs.drop (fO vs n).toNat
theorem sN {n:Int} (h:fO vs n=-1):dN vs n=vs:=by unfold dN;rw[h];rfl
theorem sW {n:Int} (h:p<vs.length) (e:fO vs n=(p:Int)):dN vs n=if vs[p].gone then vs.drop (p+1) else vs.drop p:=by
 unfold dN;rw[e,if_neg (by omega),Int.toNat_natCast,VY h];rfl
theorem zC0 {n m:Int} (hm:n<=m):bE (dN vs n) m=bE vs m:=by
 rcases rS vs n with⟨e,_⟩|⟨p,hp,e,h1,h2⟩
 ·rw[sN e]
 ·rw[sW hp e];by_cases hg:vs[p].gone=true
  ·rw[if_pos hg];have hs:vs=(vs.take p++[vs[p]])++vs.drop (p+1):=by
    rw[<-ZY hp,J2]
   have ha:dZ (vs.take p++[vs[p]]) m=some vs[p]:=zK (by omega);have hl:dZ vs m=(dZ (vs.drop (p+1)) m).or (some vs[p]):=by
    conv=>lhs;rw[hs]
    rw[uW,ha]
   unfold bE;rw[hl]
   cases hb:dZ (vs.drop (p+1)) m with
   | none=>simp[hg]
   | some x=>rfl
  ·rw[if_neg hg];have hs:vs=vs.take p++vs.drop p:=(J2 p vs).symm;have hl:dZ vs m=(dZ (vs.drop p) m).or (dZ (vs.take p) m):=by
    conv=>lhs;rw[hs]
    rw[uW]
   unfold bE;rw[hl]
   cases hb:dZ (vs.drop p) m with
   | none=>
    unfold dZ at hb;rw[O7] at hb;have hi:vs[p]∈vs.drop p:=by rw[Q2 hp];exact List.mem_cons_self
    have:=hb vs[p] (List.mem_reverse.2 hi);simp at this;omega
   | some x=>rfl
theorem zIE (vs:List yb) (n:Int):(dN vs n).length<=vs.length:=by
 unfold dN;split
 ·exact n_ _
 ·split<;>simp
theorem uN (n:Int):dN [] n=[]:=sN rfl
def Hf (R:BA->List yb) (K:List BA):Nat:=(K.map fun k=>(R k).length).sum
theorem zI4 (h:K.Perm K'):Hf R K=Hf R K':=by
 unfold Hf
 induction h with
 | nil=>rfl
 | cons x _ ih=>rw[U2,U2,Y7,Y7,ih]
 | swap x y l=>simp only[U2,Y7];omega
 | trans _ _ ih1 ih2=>exact ih1.trans ih2
def keysV (R:BA->List yb) (K:List BA):Prop:=K.Nodup/\∀ k,k∈K↔k.size<=maxLen/\R k≠[]
theorem zGL (h:keysV R K) (h':keysV R K'):Hf R K=Hf R K':=
 zI4 ((List.perm_ext_iff_of_nodup h.1 h'.1).2 fun k=>(h.2 k).trans (h'.2 k).symm)
def LQ (K:List BA) (key:BA):Bool:=K.any fun y=>decide (y=key)
theorem zFq (K:List BA) (key:BA):LQ K key=true↔key∈K:=by simp[LQ]
def Jf (R:BA->List yb) (n:Int) (K:List BA):BA->List yb:=fun key=>if LQ K key then dN (R key) n else R key
theorem zJV (R:BA->List yb) (n:Int):Jf R n []=R:=rfl
theorem vJ {n:Int} (h:key∈K):Jf R n K key=dN (R key) n:=if_pos ((zFq K key).2 h)
theorem pV {n:Int} (h:key∉K):Jf R n K key=R key:=if_neg (fun e=>h ((zFq K key).1 e))
theorem uR (R:BA->List yb) (n:Int) (K:List BA) (key:BA):Jf R n (K++[key])=fun k=>if k=key then dN (R key) n else Jf R n K k:=by
 funext k;by_cases e:k=key
 ·subst e;rw[vJ (by simp)];simp
 ·show Jf R n (K++[key]) k=if k=key then dN (R key) n else Jf R n K k;rw[if_neg e];by_cases h:k∈K
  ·rw[vJ h,vJ (by simp[h])]
  ·rw[pV h,pV (by simp[h,e])]
def nN (s:BA×BA):List Value:=[.string s.1,.string s.2]
theorem lW (s:BA×BA):(nN s).length=2:=rfl
theorem zHp (l:List (BA×BA)):∀ u∈l.flatMap nN,u.oneCell'=true:=by
 intro u hu;obtain⟨s,_,hu⟩:=K8.1 hu;simp only[nN,L2,X0,or_false] at hu;rcases hu with rfl|rfl<;>rfl
theorem AS:(XZ.info? 128).map (fun i=>(i.zero,i.size,i.bytes))=some (some (.agg #[.string ⟨#[]⟩,.string ⟨#[]⟩]),2,32):=by kernel_rfl
def lL (w:World) (B:Nat) (v:Value) (l:List (BA×BA)):Prop:=w.ownsRow B 128 2 v l.length (l.flatMap nN)
theorem sI {l:List (BA×BA)} (h:lL w B v l):∃ ao cap,v=.slice ao l.length cap/\bY w ao l/\(∀ b,v.ownBlock=some b->B<=b):=by
 have Aa:∀ b,v.ownBlock=some b->B<=b:=fun b hb=>(l_ h b hb).1;rcases aX h with⟨hv,h0⟩|⟨g,cap,hv,_⟩
 ·have e:l=[]:=E0.1 h0;subst e;exact⟨none,0,hv,.inl rfl,Aa⟩
 ·refine⟨_,cap,hv,.inr ⟨g,0,rfl,fun i hi=>?_⟩,Aa⟩;unfold lL at h;rw[hv] at h;have a:=(dU lW h i 0 hi (by omega)).1;have b:=(dU lW h i 1 hi (by omega)).1;rw[TZ];exact⟨a,b⟩
theorem iQ {e:TypeId} (h:w.ownsRow B e size v n xs):∃ ao cap,v=.slice ao n cap:=by
 rcases aX h with⟨hv,h0⟩|⟨g,cap,hv,_⟩
 ·exact⟨none,0,by rw[h0];exact hv⟩
 ·exact⟨_,cap,hv⟩
structure VW (w:World) (B wb vb:Nat) (since:Int) (cv rv:Value) (ba:List ma) (ga:List (BA×BA)):Prop where
 c0:w.cell? ⟨wb,0,none⟩=some (.pointer (some ⟨vb,0,none⟩))
 c1:w.cell? ⟨wb,1,none⟩=some (.int .i64 since)
 c2:w.cell? ⟨wb,2,none⟩=some cv
 c3:w.cell? ⟨wb,3,none⟩=some rv
 soft:∀ j,w.frozen? ⟨wb,j,none⟩=false
 ba:bO w B cv ba
 ga:lL w B rv ga
 lo:B<=wb
 nc:cv.ownBlock≠some wb
 nr:rv.ownBlock≠some wb
 ap:LW cv rv
def sd (wb:Nat) (cv rv:Value) (k:Nat):Prop:=k=wb∨cv.ownBlock=some k∨rv.ownBlock=some k
theorem VW.lt (h:VW w B wb vb since cv rv ba ga) (hk:sd wb cv rv k):k<w.heap.size:=by
 rcases hk with rfl|e|e
 ·exact AZ _ _ h.c0
 ·exact(l_ h.ba k e).2
 ·exact(l_ h.ga k e).2
theorem VW.low (h:VW w B wb vb since cv rv ba ga) (hk:sd wb cv rv k):B<=k:=by
 rcases hk with rfl|e|e
 ·exact h.lo
 ·exact(l_ h.ba k e).1
 ·exact(l_ h.ga k e).1
theorem VW.kept (h:VW w B wb vb since cv rv ba ga) (hk:∀ k,sd wb cv rv k->w'.heap[k]?=w.heap[k]?):VW w' B wb vb since cv rv ba ga where
 c0:=(b_ (w:=w) (hk wb (.inl rfl))).trans h.c0
 c1:=(b_ (w:=w) (hk wb (.inl rfl))).trans h.c1
 c2:=(b_ (w:=w) (hk wb (.inl rfl))).trans h.c2
 c3:=(b_ (w:=w) (hk wb (.inl rfl))).trans h.c3
 soft:=fun j=>(CZ (w:=w) (hk wb (.inl rfl))).trans (h.soft j)
 ba:=aI h.ba fun k e=>hk k (.inr (.inl e))
 ga:=aI h.ga fun k e=>hk k (.inr (.inr e))
 lo:=h.lo
 nc:=h.nc
 nr:=h.nr
 ap:=h.ap
theorem VW.on (h:VW w B wb vb since cv rv ba ga) (hb:Below w.heap.size w w'):VW w' B wb vb since cv rv ba ga:=h.kept fun k hk=>hb.block k (h.lt hk)
theorem VW.Iy {Sa:List ma} (h:VW w B wb vb since cv rv ba ga) (ho:bO w B Og Sa) (hf:∀ k,Og.ownBlock=some k->¬sd wb cv rv k):
  VW (w.setCell ⟨wb,2,none⟩ Og) B wb vb since Og rv Sa ga where
 c0:=(t_ _ _ _ _ (by simp)).trans h.c0
 c1:=(t_ _ _ _ _ (by simp)).trans h.c1
 c2:=u_ _ _ _ h.c2
 c3:=(t_ _ _ _ _ (by simp)).trans h.c3
 soft:=fun j=>by rw[EZ];exact h.soft j
 ba:=aI ho fun k e=>h_ _ _ _ _ (fun e'=>hf k e (.inl e'))
 ga:=aI h.ga fun k e=>h_ _ _ _ _ (fun e'=>h.nr (by rw[e,e']))
 lo:=h.lo
 nc:=fun e=>hf wb e (.inl rfl)
 nr:=h.nr
 ap:=fun k e e'=>hf k e (.inr (.inr e'))
theorem VW.Uu {Wa:List (BA×BA)} (h:VW w B wb vb since cv rv ba ga) (hg:w.grownBy w3 rv.ownBlock) (ho:lL w3 B eh Wa) (hf:∀ k,eh.ownBlock=some k->rv.ownBlock=some k∨w.heap.size<=k):
  VW (w3.setCell ⟨wb,3,none⟩ eh) B wb vb since cv eh ba Wa:=by
 have bw:w3.heap[wb]?=w.heap[wb]?:=hg.block wb (h.lt (.inl rfl)) (Ne.symm h.nr);have nw:∀ k,eh.ownBlock=some k->k≠wb:=fun k e e'=>by
  rcases hf k e with e2|e2
  ·exact h.nr (by rw[e2,e'])
  ·have:=h.lt (k:=wb) (.inl rfl);omega
 exact {
  c0:=(t_ _ _ _ _ (by simp)).trans ((b_ (w:=w) bw).trans h.c0)
  c1:=(t_ _ _ _ _ (by simp)).trans ((b_ (w:=w) bw).trans h.c1)
  c2:=(t_ _ _ _ _ (by simp)).trans ((b_ (w:=w) bw).trans h.c2)
  c3:=u_ _ _ _ ((b_ (w:=w) bw).trans h.c3)
  soft:=fun j=>by rw[EZ];exact(CZ (w:=w) bw).trans (h.soft j)
  ba:=aI h.ba fun k e=>(h_ _ _ _ _ (fun e'=>h.nc (by rw[e,e']))).trans (hg.block k (l_ h.ba k e).2 (fun e'=>h.ap k e e'.symm))
  ga:=aI ho fun k e=>h_ _ _ _ _ (nw k e)
  lo:=h.lo
  nc:=h.nc
  nr:=fun e=>nw wb e rfl
  ap:=fun k e e'=>by
   rcases hf k e' with e2|e2
   ·exact h.ap k e e2
   ·have:=(l_ h.ba k e).2;omega }
theorem VW.down {B':Nat} (h:VW w B wb vb since cv rv ba ga) (hB:B'<=B):VW w B' wb vb since cv rv ba ga:=
 ⟨h.c0,h.c1,h.c2,h.c3,h.soft,dJ h.ba hB,ownsRow_le h.ga hB,BZ hB h.lo,h.nc,h.nr,h.ap⟩
def Nd (w w':World) (wb:Nat) (cv rv Og eh:Value):Prop:=∀ j,j<w.heap.size->¬sd wb cv rv j->w'.heap[j]?=w.heap[j]?/\¬sd wb Og eh j
theorem Nd.trans {w1 w2:World} {XW rv1 YW rv2:Value} (h:Nd w w1 wb cv rv XW rv1) (hs:w.heap.size<=w1.heap.size) (h':Nd w1 w2 wb XW rv1 YW rv2):Nd w w2 wb cv rv YW rv2:=fun j hj hn=>by
 obtain⟨a,b⟩:=h j hj hn;obtain⟨c,d⟩:=h' j (UY hj hs) b;exact⟨c.trans a,d⟩
theorem Nd.on (hb:Below w.heap.size w w'):Nd w w' wb cv rv cv rv:=fun j hj hn=>⟨hb.block j hj,hn⟩
theorem Nd.Iy (hf:∀ k,Og.ownBlock=some k->n<=k) {u:Value}:∀ j,j<n->¬sd wb cv rv j->(w.setCell ⟨wb,2,none⟩ u).heap[j]?=w.heap[j]?/\¬sd wb Og rv j:=fun j hj hn=>by
 refine⟨h_ _ _ _ _ (fun e=>hn (.inl e)),?_⟩;rintro(e|e|e)
 ·exact hn (.inl e)
 ·have:=hf j e;omega
 ·exact hn (.inr (.inr e))
theorem zFg (h:VS w B vb mb now n D g R) (hf:Nd w w' wb cv rv Og eh) (ha:∀ k,Gb vb mb g k->¬sd wb cv rv k):VS w' B vb mb now n D g R/\∀ k,Gb vb mb g k->¬sd wb Og eh k:=
 ⟨h.kept fun k hk=>(hf k (h.lt hk) (ha k hk)).1,fun k hk=>(hf k (h.lt hk) (ha k hk)).2⟩
theorem XS (w:World) (h:VS w B vb mb now n D g R):
  Calls p_ 72 #[.pointer (some ⟨vb,0,none⟩)] w fun e w'=>e=.returned (.int .i64 now)/\w'=w:=by
 have c:=h.num;go_enter func72,ntmps72;go_wp2;go_ret;exact⟨rfl,rfl⟩
theorem zK4 (key:BA) (at_:Int) (w:World) (h:VS w B vb mb now n D g R) (hk:key.size<=maxLen) (hR:(R key).length<=1000000):
  Calls p_ 77 #[.pointer (some ⟨vb,0,none⟩),.string key,.int .i64 at_] w fun e w'=>e=.returned (.tuple #[.string (bE (R key) at_).1,.bool (bE (R key) at_).2])/\Below w.heap.size w w':=by
 have c:=h.mp;have hl:=h.looked hk;obtain⟨ao,cap,e,hI,_,_⟩:=nF (h.rows key);rw[e] at hl;have HI:=aa hI;clear hI e;generalize R key=vs at *;go_enter func77,ntmps77;go_wp2_with (go_at_call 144;refine(sZ ao cap vs at_ _ hR HI.out).mono ?_;rintro e w1 ⟨rfl,hb⟩)
 go_ret2;exact⟨rfl,hb⟩
def zCR:Prop:=∀ (De cap B:Nat) (F:List (BA×BA)) (W:World),Sb W B (.slice (some ⟨De,0,none⟩) F.length cap) F->F.length<=1000000->
 Calls p_ 232 #[.slice (some ⟨De,0,none⟩) F.length cap,.func (Fn.func 233) #[] #[]] W fun e W'=>
  e=.returned (.tuple #[])/\∃ F',F'.Perm F/\(F'.Pairwise fun a b=>jb b.1 a.1=false)/\Sb W' B (.slice (some ⟨De,0,none⟩) F.length cap) F'/\Below De W W'/\(∀ j,j<W.heap.size->j≠De->W'.heap[j]?=W.heap[j]?)
def zFh:Prop:=∀ (W:World),Calls p_ 232 #[.slice none 0 0,.func (Fn.func 233) #[] #[]] W fun e W'=>e=.returned (.tuple #[])/\Below W.heap.size W W'
theorem zIm (h:VS w B vb mb now n D g R) (at_:Int) (s:BA×BA):My D R at_ s (Z8 D) [] where
 mem:=fun r=>by
  simp only[X0,false_iff];rintro⟨⟨h1,h2,h3⟩,h4⟩;have:R r.1≠[]:=fun e=>by rw[e] at h3;simp[bE,dZ] at h3
  rw[(h.has r.1 h1).2 this] at h4;cases h4
 nodup:=by simp
structure kt (w wr:World) (mb n:Nat) (D:DataW Value) (s:BA×BA) (left:Lit->Bool) (uk:Nat) (v:Value) (F:List (BA×BA)):Prop where
 rg:wr.ranges p_ 9 RV mb (w.heap.size+1) n D left uk
 own:Sb wr (w.heap.size+2) v F
 Ia:Below w.heap.size w wr
 size:w.heap.size+2<=wr.heap.size
 c0:wr.cell? ⟨w.heap.size,0,none⟩=some (.string s.1)
 c1:wr.cell? ⟨w.heap.size,1,none⟩=some (.string s.2)
theorem zHh (hb:Below w.heap.size w w'):w.grownBy w' none:=⟨hb.os,hb.tape,hb.output,hb.size,fun k hk _=>hb.block k hk⟩
theorem kt.on (h:kt w wr mb n D s left uk v F) (hb:Below wr.heap.size wr w'):kt w w' mb n D s left uk v F where
 rg:=h.rg.kept (zHh hb) (by simp) (by simp)
 own:=bQ h.own hb
 Ia:=h.Ia.trans (hb.mono h.Ia.size)
 size:=BZ h.size hb.size
 c0:=aA hb h.c0
 c1:=aA hb h.c1
theorem kt.next {VA:Nat} {Vo:Lit->Bool} (h:kt w wr mb n D s left uk v F) (hr:w'.ranges p_ 9 RV mb (w.heap.size+1) n D Vo VA) (hg:wr.grownBy w' (some (w.heap.size+1))):kt w w' mb n D s Vo VA v F where
 rg:=hr
 own:=aI h.own fun k hk=>hg.block k (h.own.lt k hk).2 (by have:=(h.own.lt k hk).1;simp;omega)
 Ia:=h.Ia.grown hg (by have:=h.size;omega) fun k e=>by simp at e;omega
 size:=BZ h.size hg.size
 c0:=hg.cell h.c0 (by simp)
 c1:=hg.cell h.c1 (by simp)
theorem kt.push {F':List (BA×BA)} (h:kt w wr mb n D s left uk v F) (hm:mb<w.heap.size) (hg:wr.grownBy w' v.ownBlock) (ho:Sb w' (w.heap.size+2) v' F'):kt w w' mb n D s left uk v' F' where
 rg:=h.rg.kept hg (fun e=>by have:=(h.own.lt mb e.symm).1;omega) (fun e=>by have:=(h.own.lt _ e.symm).1;omega)
 own:=ho
 Ia:=h.Ia.grown hg (by have:=h.size;omega) fun k e=>by have:=(h.own.lt k e).1;omega
 size:=BZ h.size hg.size
 c0:=hg.cell h.c0 (fun e=>by have:w.heap.size+2<=w.heap.size:=(h.own.lt _ e.symm).1;omega)
 c1:=hg.cell h.c1 (fun e=>by have:w.heap.size+2<=w.heap.size:=(h.own.lt _ e.symm).1;omega)
theorem vT {C:Nat} {e:TypeId} (h:w.ownsRow C e size v n xs) (hC:B<=C):w.ownsRow B e size v n xs:=by
 obtain⟨h1,h2⟩:=h;refine⟨h1,?_⟩;rcases h2 with h2|⟨g,cap,cur,hv,hg,r⟩
 ·exact .inl h2
 ·exact .inr ⟨g,cap,cur,hv,BZ hC hg,r⟩
theorem zO (h:uh w B v vs) (e:v=.slice ao vs.length cap):jH w.heap.size w ao cap vs:=by
 obtain⟨nt,Pb,e',hI,_⟩:=nF h;rw[e] at e';cases e';exact hI
theorem zJ8 (hs:zCR) (We:zFh) (s:BA×BA) (at_:Int) (w:World) (h:VS w B vb mb now n D g R) (hn:n<=1000000) (hR:∀ key,(R key).length<=1000000):
  Calls p_ 196 #[.pointer (some ⟨vb,0,none⟩),.agg #[.string s.1,.string s.2],.int .i64 at_] w fun e w'=>∃ v,e=.returned v/\Below w.heap.size w w'/\∃ F,Sb w' w.heap.size v F/\(F.Pairwise fun a b=>jb b.1 a.1=false)/\(F.map (·.1)).Nodup/\∀ r,r∈F↔po R at_ s r:=by
 have HS:=aa hs;have HS0:=aa We;have HV:=aa h;have Xf:=aa hR;have Ba:=a_ w (GX s.1 s.2);have Dg:=aa (h.on Ba);have v1:=Dg.out.mp;have ya:=Dg.out.own;have Qo:=ya.size_le;have hlm:=h.lt (k:=mb) (.inr (.inl rfl));obtain⟨s0,s1,-⟩:=Fl w (GX s.1 s.2) rfl rfl;have dp:=aa (zIm h at_ s);clear h hR hs We;go_enter func196,ntmps196;go_wp2_with (first|(at_range;refine wpList_range_own _ rfl _ 176 rfl 9 177 eX underlying176 RV mb n D rfl ya ?_;intro w0 Yp Ux We))
 have es:(w.alloc (GX s.1 s.2)).heap.size=w.heap.size+1:=by simp
 rw[es] at Yp We;have ie:Hid (Below w.heap.size w w0):=Ba.grown Ux (by simp) (fun k e=>by cases e);have Ji:=aa Yp;have t0:=Ux.cell s0 (by simp);have t1:=Ux.cell s1 (by simp);clear Yp Ux s0 s1 v1 ya Ba;go_wp2
 go_frame
 simp only[World.size_alloc]
 go_loopw [7] (fun v wr=>∃ (left:Lit->Bool) (uk:Nat) (F:List (BA×BA)),kt w wr mb n D s left uk v F/\My D R at_ s left F/\F.length+uk<=n) (fun _ wr=>wr.rangeLeft mb (w.heap.size+1))
 case atStart=>exact⟨_,_,[],⟨Ji.out,M1 _ _ _ _,ie.out,by omega,t0,t1⟩,dp.out,by simpa using Qo⟩
 case round=>
  obtain⟨left,uk,F,hA,hG,zr⟩:=hrel;have HA:=aa hA;have HG:=aa hG;have t0':=hA.c0;have t1':=hA.c1;clear hA hG Ji ie t0 t1;go_wp2_with (first|(at_next;refine wpList_next_ranges _ rfl _ rfl 9 eX RV v_ id (fun key kl hk=>by obtain⟨x,e,_⟩:=zFp hk;exact⟨x,e⟩) (fun v y _=>⟨v,rfl⟩) mb (w.heap.size+1) n D left uk rfl HA.out.rg ?_ ?_))
  ·intro Df gm;have Ex:F.length<=1000000:=by omega
   have Mb:=HA.out.size;have HM:Hid (∀ r,r∈F↔po R at_ s r):=fun r=>by rw[HG.out.mem r,gm];simp
   rcases aX HA.out.own with⟨hv,h0⟩|⟨bk,cap,hv,Xl,zq,_,_⟩
   ·have e:F=[]:=E0.1 h0;subst e;subst hv;go_wp2_with (go_at_call 232;refine(HS0.out _).mono ?_;rintro e w3 ⟨rfl,Ra⟩;have qo:=aa (HA.out.on Ra))
    go_ret;exact⟨_,rfl,qo.out.Ia,[],M1 _ _ _ _,List.Pairwise.nil,List.nodup_nil,HM.out⟩
   ·subst hv;go_wp2_with (go_at_call 232;refine(HS.out bk cap (w.heap.size+2) F _ HA.out.own Ex).mono ?_;rintro e w3 ⟨rfl,F',hp,OI,Ae,Ra,Bk⟩;have Cf:=aa Ae;have HP:=aa hp;have HSR:=aa OI;have Zc:=aa Ra;have HK3:=aa Bk;clear Ae hp OI Ra Bk)
    go_ret;refine⟨_,rfl,HA.out.Ia.trans (Zc.out.mono (by omega)),F',vT Cf.out (by omega),HSR.out,((HP.out.map (·.1)).nodup_iff).2 HG.out.nodup,fun r=>(HP.out.mem_iff).trans (HM.out r)⟩
  ·intro x c kl y yp w2 IM mi PD OB Sc Xr Nn Hg Ub DO;obtain⟨x',ex,rfl,Mk⟩:=zFp mi;cases ex;have hc:=Sc (.held (.slice none 0 0));rw[HV.out.look x Mk] at hc;simp only[RV,I0.injEq,Prod.mk.injEq] at OB;obtain⟨rfl,rfl⟩:=OB;simp only[DataW.held.injEq] at hc;subst hc;obtain⟨ao,cap,ec,_,_,_⟩:=nF (HV.out.rows x);have MU:=aa ec;have Gl:=aa (HA.out.next Xr Hg);have t02:=Gl.out.c0;have t12:=Gl.out.c1;have BN:=Xf.out x;rw[ec] at DO ⊢;clear ec Sc Xr Hg Ub mi t0' t1';have Xz:=aa PD;clear PD;rcases hh:Fb s.1 s.2 x
   ·have Sz:=aa (zDi HG.out (x:=x) fun v hv=>by have:=hv.2.1;rw[hh] at this;cases this);have HH:=aa hh;clear hh;go_wp2_with (first
     | (go_at_call 158;refine(pH s.1 s.2 x _).mono ?_;rintro e w3 ⟨rfl,Ra⟩;rw[HH.out];have qo:=aa (Gl.out.on Ra)))
    exact⟨⟨_,_,F,qo.out,Sz.out,by omega⟩,by rw[qo.out.rg.left_eq,HA.out.rg.left_eq];exact Nn⟩
   ·rcases iz:bE (R x) at_ with⟨bv,bb⟩;cases bb
    ·have Sz:=aa (zDi HG.out (x:=x) fun v hv=>by have:=hv.2.2;rw[iz] at this;cases this);have HH:=aa hh;have OK:=aa iz;clear hh iz;go_wp2_with (first
      | (go_at_call 158;refine(pH s.1 s.2 x _).mono ?_;rintro e w3 ⟨rfl,Ra⟩;rw[HH.out];have qo:=aa (Gl.out.on Ra))
      | (go_at_call 144;refine(sZ ao cap (R x) at_ _ BN (zO ((HV.out.on qo.out.Ia).rows x) MU.out)).mono ?_;rintro e w4 ⟨rfl,Eb⟩;rw[OK.out];have Yu:=aa (qo.out.on Eb)))
     exact⟨⟨_,_,F,Yu.out,Sz.out,by omega⟩,by rw[Yu.out.rg.left_eq,HA.out.rg.left_eq];exact Nn⟩
    ·have Sz:=aa (zJ2 HG.out Xz.out (v:=bv) ⟨Mk,hh,iz⟩);have HH:=aa hh;have OK:=aa iz;obtain⟨i0,Qb,Xb,Yc,Kq⟩:=info_parts FG;have Ex:F.length<=1000000:=by omega
     clear hh iz;go_wp2_with (first
      | (go_at_call 158;refine(pH s.1 s.2 x _).mono ?_;rintro e w3 ⟨rfl,Ra⟩;rw[HH.out];have qo:=aa (Gl.out.on Ra))
      | (go_at_call 144;refine(sZ ao cap (R x) at_ _ BN (zO ((HV.out.on qo.out.Ia).rows x) MU.out)).mono ?_;rintro e w4 ⟨rfl,Eb⟩;rw[OK.out];have Yu:=aa (qo.out.on Eb);have Po:=Yu.out.size)
      | (at_builtin;have qe:=a_ w4 (MX x bv);have IG:=aa (Yu.out.on qe);have HN5:Hid (∀ j u,[v_ x,v_ bv][j]?=some u->(w4.alloc (MX x bv)).cell? ((⟨w4.heap.size,0,none⟩:Addr).add j)=some u):=V2 (cs:=#[v_ x,v_ bv]) (t:=142) (fr:=(0,0)) (heap_alloc_new w4 _);refine wpList_append_lies _ rfl _ _ _ rfl (w.heap.size+2) 142 i0 _ 2 32 underlying32 Qb Xb Yc Kq rfl (by omega) u7 F.length (F.flatMap aV) rfl IG.out.own ⟨w4.heap.size,0,none⟩ 1 1 [v_ x,v_ bv] rfl rfl HN5.out (by simp[U1]) (by omega) (by unfold maxLen;omega) (by omega) (by simp;omega) (w4.heap.size+1) (by simp) ?_;intro g6 FM w6 Gq hg6 a0n a0A;have lj:=aa Gq;have HG6:=aa hg6;clear Gq hg6))
     have Xp:Sb w6 (w.heap.size+2) (.slice (some ⟨g6,0,none⟩) (F.length+1) FM) (F++[(x,bv)]):=by
      have:=lj.out;unfold Sb;rw[YY,O4];exact this
     have RT:=aa (IG.out.push hlm HG6.out Xp);exact⟨⟨_,_,_,RT.out,Sz.out,by simp;omega⟩,by rw[RT.out.rg.left_eq,HA.out.rg.left_eq];exact Nn⟩
end
section
open Go.RowKit Go.Joins Go.Shelf Go.Lib
open Go.Sort hiding Below
theorem zKQ (x y:BA×BA) (W:World):Calls p_ 233 #[.agg #[.string x.1,.string x.2],.agg #[.string y.1,.string y.2]] W fun e w'=>e=.returned (.int .i64 (E3 x.1.data.toList y.1.data.toList))/\∃ q AR,w'=Go.Sort.grow (W.drewN q) AR:=by
 have Bu:=fun W'=>Tryz.strings_Compare x.1 y.1 W';generalize E3 x.1.data.toList y.1.data.toList=r at Bu ⊢;go_enter func233,ntmps233;go_wp2_with (go_at_call 234;refine(Bu _).mono ?_;rintro e w' ⟨rfl,rfl⟩)
 go_ret;exact⟨rfl,0,_,by rw[N9,N9,Go.Sort.grow_grow];rfl⟩
def kr (x y:BA×BA):Int:=E3 x.1.data.toList y.1.data.toList
theorem zIJ:∀ a b:List UInt8,decide (E3 a b<0)=J1 a b
 | [],[]=>by simp[E3,J1]
 | [],_::_=>by simp[E3,J1]
 | _::_,[]=>by simp[E3,J1]
 | a::la,b::lb=>by
  have ih:=zIJ la lb;unfold E3 J1;by_cases h1:a<b
  ·simp[h1]
  ·by_cases h2:b<a
   ·have h3:¬a=b:=fun e=>by subst e;exact h1 h2
    simp[h1,h2,h3]
   ·have h3:a=b:=UInt8.le_antisymm (UInt8.not_lt.1 h2) (UInt8.not_lt.1 h1);simp only[h1,h2,if_false];rw[ih,h3];simp
theorem vN (x y:BA×BA):ltOf kr x y=jb x.1 y.1:=by
 unfold ltOf kr jb;rw[zIJ,N6,N6]
theorem zLa:Go.Sort.SWO (ltOf kr) where
 irrefl x:=by rw[vN];exact bA _
 trans x y z h1 h2:=by rw[vN] at *;exact cL h1 h2
 ntrans x y z h1 h2:=by
  rw[vN] at *;rcases jZ x.1 z.1 with h|h|h
  ·rcases jZ x.1 y.1 with k|k|k
   ·rw[k] at h1;cases h1
   ·rw[<-k,h] at h2;cases h2
   ·rw[cL k h] at h2;cases h2
  ·rw[h];exact bA _
  ·exact kP h
theorem zBz (d:Array (BA×BA)):(flatK aV 2 d).toList=d.toList.flatMap aV:=by
 apply List.ext_getElem?;intro t;by_cases ht:t<d.size*2
 ·have h1:=nI aV 2 gQ d.toList (t / 2) (t % 2) (by rw[DZ];omega) (by omega);rw[show t / 2*2+t % 2=t by omega] at h1;rw[h1];have h2:=get_flatK aV 2 d t ht;have hs:t<(flatK aV 2 d).size:=by simpa using ht
  rw[getElem!_pos _ t hs] at h2;rw[E4,B9 hs,h2];have h3:t / 2<d.size:=by omega
  rw[getElem!_pos d (t / 2) h3];have h4:t % 2<(aV d[t / 2]).length:=by rw[gQ];omega
  rw[getElem!_pos (aV d[t / 2]) (t % 2) h4];exact(VY h4).symm
 ·rw[A3 (by simp;omega),A3];have:∀ l:List (BA×BA),(l.flatMap aV).length=l.length*2:=by
   intro l
   induction l with
   | nil=>rfl
   | cons x l ih=>rw[J5,YY,ih,gQ,PZ];omega
  rw[this,DZ];omega
theorem zA5 (h:Sb W B (.slice (some ⟨De,0,none⟩) F.length cap) F):HoldsK aV 2 W De 0 F.toArray:=by
 intro j hj;have Td:j<F.length*2:=by simpa using hj
 refine⟨?_,?_⟩
 ·rw[TZ,F2.cellAt h j Td];have e:=zBz F.toArray;rw[List.toList_toArray] at e;rw[<-e,E4,B9 hj,getElem!_pos _ j hj];rfl
 ·rw[TZ];exact F2.frozenAt h _
theorem zCB (F G:Array Value) (h:F.size=G.size):setMany F 0 G.toList=G:=by
 apply Array.ext
 ·simp[h]
 ·intro i h1 h2;have h3:i<F.size:=by simpa using h1
  have:=get_setMany G.toList 0 F i h3;rw[getElem!_pos _ i h1,if_pos ⟨OZ _,by simpa using h2⟩] at this;rw[this,Nat.sub_zero];have h4:i<G.toList.length:=by simpa using h2
  rw[getElem!_pos _ i h4,Array.getElem_toList]
theorem zMu {d:Array (BA×BA)} (h:HoldsK aV 2 W De 0 d) (hs:d'.size=d.size):putRowK aV 2 W De 0 d'=W.setCells De 0 (d'.toList.flatMap aV):=by
 have e:=setCells_putRow W De 0 (flatK aV 2 d').toList 0 (flatK aV 2 d) (by simp[hs]);rw[zCB _ _ (by simp[hs])] at e;have e2:Go.Sort.putRow id W De 0 (flatK aV 2 d)=W:=putRowK_self aV 2 W De 0 d h;rw[e2,zBz] at e;exact e.symm
theorem zDH (w:World) (os:Array Obj):Below w.heap.size w (grow w os):=by
 refine⟨rfl,rfl,rfl,?_,fun i hi=>?_⟩
 ·show w.heap.size<=(w.heap++os).size;simp
 ·show(w.heap++os)[i]?=w.heap[i]?;rw[Array.getElem?_append_left hi]
theorem zFQ {os:Array Obj} (h:Sb W B (.slice (some ⟨De,0,none⟩) F.length cap) F) (hs:d'.size=F.length):
  Sb (sortWorldK aV 2 W De 0 n d' os) B (.slice (some ⟨De,0,none⟩) F.length cap) d'.toList/\Below De W (sortWorldK aV 2 W De 0 n d' os)/\(∀ j,j<W.heap.size->j≠De->(sortWorldK aV 2 W De 0 n d' os).heap[j]?=W.heap[j]?):=by
 have h0:(E6 W n).ownsRow B 142 2 (.slice (some ⟨De,0,none⟩) F.length cap) F.length (F.flatMap aV):=aI h fun _ _=>rfl;have hH:HoldsK aV 2 (E6 W n) De 0 F.toArray:=zA5 h0;have zq:=(l_ h De rfl).2;have h1:=cT (d'.toList.flatMap aV) 0 (E6 W n) _ h0;rw[<-zMu hH (by simpa using hs)] at h1;have hlen:∀ l:List (BA×BA),(l.flatMap aV).length=l.length*2:=by
  intro l
  induction l with
  | nil=>rfl
  | cons x l ih=>rw[J5,YY,ih,gQ,PZ];omega
 have Jh:(d'.toList.flatMap aV).length=(F.flatMap aV).length:=by rw[hlen,hlen,DZ,hs]
 have h2:td (F.flatMap aV) 0 (d'.toList.flatMap aV)=d'.toList.flatMap aV:=by
  have:=tI (d'.toList.flatMap aV) (F.flatMap aV) (by omega);rwa [Jh,LZ (by rw[zDO];exact n_ _)] at this
 rw[h2] at h1;have hb:=zDH (putRowK aV 2 (E6 W n) De 0 d') os;have e:sortWorldK aV 2 W De 0 n d' os=grow (putRowK aV 2 (E6 W n) De 0 d') os:=rfl;have hk:∀ j,j<W.heap.size->j≠De->(sortWorldK aV 2 W De 0 n d' os).heap[j]?=W.heap[j]?:=fun j hj La=>by
  rw[e,hb.block j (UY hj h1.2.size),h1.2.block j hj (by simpa using La)];rfl
 refine⟨?_,⟨?_,?_,?_,?_,fun j hj=>hk j (by omega) (by omega)⟩,hk⟩
 ·rw[e];have:=bQ h1.1 hb;unfold Sb;rw[show d'.toList.length=F.length by simpa using hs];exact this
 ·rw[e,hb.os,h1.2.os];rfl
 ·rw[e,hb.tape,h1.2.tape];rfl
 ·rw[e,hb.output,h1.2.output];rfl
 ·rw[e];exact BZ h1.2.size hb.size
theorem zI7 (De size:Nat) (w:World):CmpLays p_ 233 #[] aV 2 kr De 0 size w:=fun _ _ _ _ x y=>zKQ x y _
theorem zHl:zCR:=by
 intro De cap B F W ho hn;have eg:∀ args w,(callFunc 233 args).run p_ w=.ok (.enter 233 args) w:=enters_of func233 (by kernel_rfl) rfl;have Bu:=AnyQ.slices_SortFunc Tryz.sortRow 2 isAgg142 sizeOf142 aV (fun _=>rfl) (fun x v hv=>by simp[aV] at hv;rcases hv with rfl|rfl<;>rfl) kr zLa 233 #[] De 0 cap F.toArray W eg (zI7 De _ W) (zA5 ho) (l_ ho De rfl).2 (by simp;omega);refine Bu.mono ?_;rintro e w' ⟨rfl,d',n,os,hp,hs,rfl⟩;have Mb:d'.size=F.length:=by simpa using hp.1
 obtain⟨h1,h2,h3⟩:=zFQ (n:=n) (os:=os) ho Mb;refine⟨rfl,d'.toList,?_,?_,h1,h2,h3⟩
 ·have:=hp.2.2;have e1:d'.extract 0 F.toArray.size=d':=by rw[show F.toArray.size=d'.size by simpa using Mb.symm];exact m_
  have e2:F.toArray.extract 0 F.toArray.size=F.toArray:=m_;rw[e1,e2] at this;exact this
 ·rw[List.pairwise_iff_getElem];intro i j hi hj Yx;have:=hs i j (OZ _) Yx (by simpa[Mb] using hj);rw[vN,getElem!_pos _ j (by simpa using hj),getElem!_pos _ i (by simpa using hi)] at this;simpa using this
end
section
open Go.RowKit Go.Joins
attribute [local go_sem ↓] Go.wp_at_zero Go.wp_at_succ
abbrev jg:Value:=.agg #[.string ⟨#[]⟩,.string ⟨#[]⟩]
theorem oE:(XZ.info? 142).map (fun i=>(i.zero,i.size,i.bytes))=some (some jg,2,32):=by kernel_rfl
theorem zF0 (n:Nat):∀ u∈(KZ jg.cells n).toList,u.oneCell'=true:=by
 intro u hu;simp[KZ,Value.cells] at hu;obtain⟨i,_,rfl⟩:=hu;rcases E9 i with e|e<;>rw[e]<;>rfl
theorem zIM (xs:List Value) (i n:Nat) (hx:xs.length=n*2) (hi:i<n) (zs:List Value):((td (td xs (i*2) (xs.drop ((i+1)*2))) ((n-1)*2) zs).take ((n-1)*2))=xs.take (i*2)++xs.drop ((i+1)*2):=by
 rw[tN,nH _ _ _ (by rw[UZ];omega),List.take_append_of_le_length (by rw[YY,XY,UZ];omega)];exact LZ (by rw[YY,XY,UZ];omega)
theorem zJd (B g cap i n:Nat) (xs:List Value) (w:World) (ho:w.ownsRow B 142 2 (.slice (some ⟨g,0,none⟩) n cap) n xs) (h1:∀ u∈xs,u.oneCell'=true) (hi:i<n) (hn:n<=1000000) (Ri:n<=cap) (bm:cap<=9223372036854775807):
  Calls p_ 236 #[.slice (some ⟨g,0,none⟩) n cap,.int .i64 i,.int .i64 ((i+1:Nat):Int)] w fun e w'=>
   e=.returned (.slice (some ⟨g,0,none⟩) (n-1) cap)/\w'.ownsRow B 142 2 (.slice (some ⟨g,0,none⟩) (n-1) cap) (n-1) (xs.take (i*2)++xs.drop ((i+1)*2))/\w.grownBy w' (some g):=by
 obtain⟨i0,Qb,Xb,Yc,te⟩:=info_parts oE;have Mf:xs.length=n*2:=ho.1;obtain⟨m,hm⟩:∃ m,n=i+1+m:=⟨n-(i+1),by omega⟩;obtain⟨K,hK⟩:∃ K,K=i+1:=⟨_,rfl⟩;rw[<-hK];obtain⟨Vb,Ef⟩:∃ Vb,Vb=xs.drop (K*2):=⟨_,rfl⟩;have hlen:Vb.length=m*2:=by rw[Ef,UZ,Mf];omega
 have Eu:w.drew.ownsRow B 142 2 (.slice (some ⟨g,0,none⟩) n cap) n xs:=ho;obtain⟨A,hA,As⟩:∃ A:Addr,(if cap=K then some (⟨g,0,none⟩:Addr) else some ⟨g,K*2,none⟩)=some A/\Hid (∀ t u,Vb[t]?=some u->w.drew.cell? (A.add t)=some u):=by
  by_cases h:cap=K
  ·refine⟨⟨g,0,none⟩,by simp[h],fun t u hu=>?_⟩;have h0:Vb.length=0:=by omega
   rw[E0.1 h0] at hu;simp at hu
  ·refine⟨⟨g,K*2,none⟩,by simp[h],fun t u hu=>?_⟩;have ht:t<m*2:=by
    have:=(Z0.1 hu).1;omega
   rw[F6,Eu.cellAt (K*2+t) (by omega),<-hu,Ef,List.getElem?_drop]
 have s2:Hid (∀ u∈Vb,u.oneCell'=true):=fun u hu=>h1 u (by rw[Ef] at hu;exact List.mem_of_mem_drop hu);have s3:Hid (∀ t,t<Vb.length->(w.drew.cell? ⟨g,0+i*2+t,none⟩).isSome=true/\w.drew.frozen? ⟨g,0+i*2+t,none⟩=false):=fun t ht=>by
  have:=cS Eu (i*2+t) (by omega);simpa using this
 obtain⟨W1,Ln⟩:∃ W1,W1=w.drew.setCells g (0+i*2) Vb:=⟨_,rfl⟩;have Mn:=Ln;simp only[TZ] at Mn;have r1:=cT Vb (i*2) w.drew xs Eu;rw[<-Mn] at r1;have KQ:∀ w,(zeroValue 142).run p_ w=.ok jg w:=zeroValue142;have ko:jg.cells.size=2:=rfl;have hq:i+m=n-1:=by omega
 have Ee:∀ ty,(Builtin.clear_ #[32] ty #[.slice (some ⟨g,(i+m)*2,none⟩) 1 (cap-(i+m))]).run p_ W1=.ok (.tuple #[]) (W1.setCells g ((i+m)*2) (KZ jg.cells 1).toList):=
  fun ty=>qG W1 _ _ ty _ underlying32 KQ g ((i+m)*2) _ _ (by omega) (zF0 _) (fun j hj=>by rw[ko] at hj;exact(cS r1.1 ((i+m)*2+j) (by omega)).1) (fun j hj=>by rw[ko] at hj;exact(cS r1.1 ((i+m)*2+j) (by omega)).2)
 have r2:=cT (KZ jg.cells 1).toList ((i+m)*2) W1 _ r1.1;have r3:=rT r2.1 (m:=i+m) (by omega);rw[Ef,hK,hq,zIM xs i n Mf hi _] at r3;rw[<-hq] at r3;have R3:=aa r3;have R4:Hid (w.grownBy (W1.setCells g ((i+m)*2) (KZ jg.cells 1).toList) (some g)):=(show w.grownBy W1 (some g) from ⟨r1.2.os,r1.2.tape,r1.2.output,r1.2.size,r1.2.block⟩).trans r2.2;rw[<-hq];generalize vq:W1.setCells g ((i+m)*2) (KZ jg.cells 1).toList=W2 at Ee R3 R4;have HL:=aa hlen;have HW:Hid (W1=w.drew.setCells g (0+i*2) Vb):=Ln;have HK:=aa hK;have HM:=aa hm;have k0:(0:Int)<=(i:Int):=Int.natCast_nonneg _;have k1:(i:Int)<=(K:Int):=by omega
 have k2:(K:Int)<=(n:Int):=by omega
 have k3:¬(i:Int)=(K:Int):=by omega
 have k4:¬cap=i+m:=by omega
 have k5:(n:Int)<=(cap:Int):=by omega
 have k6:i<=cap:=by omega
 have k7:K<=cap:=by omega
 have k8:n-(i+m)=1:=by omega
 have k9:(i:Int)+(m:Int)<=(n:Int):=by omega
 have NQ:n-K=m:=by omega
 have OQ:(K:Int)<=(cap:Int):=by omega
 have PQ:(i:Int)<=(cap:Int):=by omega
 have k13:i+m<=cap:=by omega
 clear Ef hlen Eu Ln Mn r1 r2 r3 ho h1 Mf vq ko hK hm hq hi;go_enter func236,ntmps236;go_wp2_with fail
 go_region_law (refine step_append_room rfl (.tmp 22) (.tmp 25) 32 rfl 142 i0 2 underlying32 Qb Yc g 0 i cap (by simp[Act.eval,Act.put]) A m (cap-K) Vb (by simp[Act.eval,Act.put, *]) HL.out As.out s2.out (by omega) s3.out ?_;rw[<-HW.out])
 go_wp2;go_ret;exact⟨rfl,by rw[HK.out] at *;exact R3.out,R4.out⟩
def lN (w w':World) (e:Ending) (B:Nat) (v:Value) (n:Nat) (ys:List Value):Prop:=∃ v',e=.returned v'/\w'.ownsRow B 142 2 v' n ys/\w.grownBy w' v.ownBlock
theorem vP {k u:BA} (h0:w.cell? ⟨vb,0,none⟩=some (.string k)) (h1:w.cell? ⟨vb,1,none⟩=some (.string u)):∀ j x,[v_ k,v_ u][j]?=some x->w.cell? ((⟨vb,0,none⟩:Addr).add j)=some x:=fun j x hj=>by
 match j with
 | 0=>simp at hj;subst hj;exact h0
 | 1=>simp at hj;subst hj;exact h1
 | j+2=>simp at hj
theorem sB (k u:BA):∀ x∈[v_ k,v_ u],x.oneCell'=true:=by
 intro x hx;simp at hx;rcases hx with rfl|rfl<;>rfl
theorem yY (B:Nat) (v:Value) (n:Nat) (xs:List Value) (w:World) (ho:w.ownsRow B 142 2 v n xs) (hB:B<=w.heap.size) (vb vc:Nat) (k u:BA) (h0:w.cell? ⟨vb,0,none⟩=some (.string k)) (h1:w.cell? ⟨vb,1,none⟩=some (.string u)) (hn:n<=1000000):
  ∃ v' w',(∀ ty,(z_ #[32,32] ty #[v,.slice (some ⟨vb,0,none⟩) 1 vc]).run p_ w=.ok v' w')/\w'.ownsRow B 142 2 v' (n+1) (xs++[.string k,.string u])/\w.grownBy w' v.ownBlock:=by
 obtain⟨i0,Qb,Xb,Yc,te⟩:=info_parts oE;obtain⟨v',w',hr,Pj,hg,_⟩:=run_append_own (P:=p_) (w:=w) B 32 0 142 i0 _ 2 32 underlying32 Qb Xb Yc te rfl (by omega) v n xs ho ⟨vb,0,none⟩ 1 vc [.string k,.string u] rfl (vP h0 h1) (sB k u) (by unfold maxLen;omega) (by omega) hB;exact⟨v',w',fun ty=>hr,Pj,hg⟩
theorem zB0 (B:Nat) (v:Value) (n vb vc:Nat) (k u:BA) (xs:List Value) (w:World) (ho:w.ownsRow B 142 2 v n xs) (hB:B<=w.heap.size) (h0:w.cell? ⟨vb,0,none⟩=some (.string k)) (h1:w.cell? ⟨vb,1,none⟩=some (.string u)) (hn:n<=1000000):
  Calls p_ 269 #[v,.int .i64 n,.slice (some ⟨vb,0,none⟩) 1 vc] w fun e w'=>lN w w' e B v (n+1) (xs++[.string k,.string u]):=by
 obtain⟨v',w',hr,Pj,hg⟩:=yY B v n xs w ho hB vb vc k u h0 h1 hn;have HO:=aa Pj;have HG:=aa hg;rcases aX ho with⟨rfl,rfl⟩|⟨g,cap,rfl,_,_,hc,hm⟩
 ·clear ho Pj hg h0 h1;go_enter func269,ntmps269;go_wp2_with (at_builtin;refine U5 _ rfl _ _ _ _ rfl _ _ rfl rfl _ _ (hr _) ?_)
  go_ret;exact⟨v',rfl,HO.out,HG.out⟩
 ·clear ho Pj hg h0 h1;have JC:(n:Int)<=(cap:Int):=by omega
  unfold maxLen at hm;go_enter func269,ntmps269;go_wp2_with (at_builtin;refine U5 _ rfl _ _ _ _ rfl _ _ rfl rfl _ _ (hr _) ?_)
  all_goals
   go_ret;exact⟨v',rfl,HO.out,HG.out⟩
def cO (l:List ma) (i:Nat):Nat:=match l[i]? with
 | none=>0
 | some c=>if aD c≠0 then aD c else match i with
  | 0=>0
  | j+1=>match l[j]? with
   | some p=>if ng c.key p.key then 3 else 0
   | none=>0
def iT (l:List ma):Nat:=(((T0 l.length).map (cO l)).find? (· != 0)).getD 0
theorem yJ (hk:k<l.length) (h:∀ i,i<k->cO l i=0) (hf:cO l k≠0):iT l=cO l k:=by
 unfold iT;have:((T0 l.length).map (cO l)).find? (· != 0)=some (cO l k):=by
  rw[J8];refine⟨by simpa using hf,k,by simpa using hk,by simp,fun j hj=>?_⟩;have:=h j hj;simp[this]
 rw[this];rfl
theorem zBe (h:∀ i,i<l.length->cO l i=0):iT l=0:=by
 unfold iT;have:((T0 l.length).map (cO l)).find? (· != 0)=none:=by
  rw[O7];intro x hx;obtain⟨i,hi,rfl⟩:=Z2.1 hx;simp[h i (List.mem_range.1 hi)]
 rw[this];rfl
theorem zDz (hk:k<l.length) (h:aD l[k]≠0):cO l k=aD l[k]:=by
 unfold cO;rw[VY hk];simp[h]
theorem zHx (hk:0<l.length) (h:aD l[0]=0):cO l 0=0:=by
 unfold cO;rw[VY hk];simp[h]
theorem zJC {j:Nat} (hk:j+1<l.length) (h:aD l[j+1]=0):cO l (j+1)=if ng l[j+1].key l[j].key then 3 else 0:=by
 have h2:l[j]?=some l[j]:=VY (by omega);simp[cO,hk,h,h2]
theorem zEW (l:List ma) (b off cap:Nat) (w:World) (hl:dG w b off l) (hn:l.length<=1000) (hk:∀ c∈l,c.key.size<=1000000):
  Calls p_ 163 #[.slice (some ⟨b,off,none⟩) l.length cap] w fun e w'=>e=.returned (pa (iT l))/\Below w.heap.size w w':=by
 go_enter func163,ntmps163;go_wp2
 go_loopw [8] (fun i wr=>∃ k:Nat,k<=l.length/\i=.int .i64 k/\(∀ i,i<k->cO l i=0)/\Below w.heap.size w wr) (fun i _=>l.length-(intOf i).toNat)
 case atStart=>exact⟨0,OZ _,rfl,by simp,r_ _ _⟩
 case round=>
  obtain⟨k,Ui,rfl,hz,hB⟩:=hrel;have HZ:=aa hz;clear hz;by_cases Aa:k<l.length
  ·obtain⟨c0,c1,c2⟩:=gC hB hl k Aa;have Za:(k:Int)<(l.length:Int):=by omega
   have Wh:=hk _ (MZ Aa);obtain⟨x0,x1,x2,Ja,-⟩:=Nf wr (o_ #[.string l[k].key,v_ l[k].val,D5 l[k].gone] 99) rfl rfl;have Bi:=aB hB (n_ _) Ja;by_cases hf:aD l[k]=0
   ·have HC:=fun w'=>aa (gB l[k] w' (by unfold maxLen;omega));rw[hf] at HC;by_cases h0:k=0
    ·have HS:Hid (cO l k=0):=by
      subst h0;exact zHx Aa hf
     have hd:decide ((0:Int)<(k:Int))=false:=by simp;omega
     have Pv:decide (0<k)=false:=by simp;omega
     have H0:=aa h0;clear h0;go_wp2_with (go_at_call 145;refine((HC _).out).mono ?_;rintro e w1 ⟨rfl,hb⟩;replace Bi:=aB Bi (n_ _) hb;replace x0:=aA hb x0;simp only[pa])
     go_quiet (fail);go_wp2;go_roundw
     case rel=>exact⟨k+1,by omega,by go_num,fun i hi=>by
      rcases M3 i k with h|h
      ·exact HZ.out i h
      ·have e:i=k:=by omega
       rw[e];exact HS.out,Bi.trans ((below_draws _ _ _).mono Bi.size)⟩
     case measure=>simp[intOf];omega
    ·obtain⟨j,hj⟩:∃ j,k=j+1:=⟨k-1,by omega⟩;have ki:j<l.length:=by omega
     have HS:Hid (cO l k=if ng l[k].key l[j].key then 3 else 0):=by
      subst hj;exact zJC Aa hf
     obtain⟨p0w,_,_⟩:=hl j ki;have hd:(0:Int)<(k:Int):=by omega
     have k1:(k:Int)-1=(j:Int):=by omega
     have k2:(j:Int)<(l.length:Int):=by omega
     have k3:IntKind.i64.wrap ((k:Int)-1)=(j:Int):=by rw[k1,IntKind.wrap_i64];omega
     have k4:(0:Int)<=(j:Int):=Int.natCast_nonneg _;have Pv:decide (0<k)=true:=by simp;omega
     have hd3:decide ((0:Int)<(k:Int))=true:=by simp;omega
     have HJ:=aa hj;clear hj h0
     cases fe:ng l[k].key l[j].key with
     | true=>
      have HL:Hid (cO l k=3):=by unfold Hid;rw[HS.out,fe];rfl
      have WO:(J1 l[k].key.toList l[j].key.toList || l[k].key.toList==l[j].key.toList)=true:=fe;clear fe;go_wp2_with (go_at_call 145;refine((HC _).out).mono ?_;rintro e w1 ⟨rfl,hb⟩;replace Bi:=aB Bi (n_ _) hb;replace x0:=aA hb x0;have p0:=aA Bi p0w;simp only[pa])
      go_quiet (fail);go_wp2;go_ret;exact⟨by rw[yJ Aa HZ.out (by rw[HL.out];omega),HL.out];rfl,Bi.trans ((below_draws _ _ _).mono Bi.size)⟩
     | false=>
      have HL:Hid (cO l k=0):=by unfold Hid;rw[HS.out,fe];rfl
      have WO:(J1 l[k].key.toList l[j].key.toList || l[k].key.toList==l[j].key.toList)=false:=fe;clear fe;go_wp2_with (go_at_call 145;refine((HC _).out).mono ?_;rintro e w1 ⟨rfl,hb⟩;replace Bi:=aB Bi (n_ _) hb;replace x0:=aA hb x0;have p0:=aA Bi p0w;simp only[pa])
      go_quiet (fail);go_wp2;go_roundw
      case rel=>exact⟨k+1,by omega,by go_num,fun i hi=>by
       rcases M3 i k with h|h
       ·exact HZ.out i h
       ·have e:i=k:=by omega
        rw[e];exact HL.out,Bi.trans ((below_draws _ _ _).mono Bi.size)⟩
      case measure=>simp[intOf];omega
   ·have HC:=fun w'=>aa (gB l[k] w' (by unfold maxLen;omega));have HD:=aa (yJ Aa HZ.out (by rw[zDz Aa hf];exact hf));have HS:=aa (zDz Aa hf);generalize WH:aD l[k]=f at HC HS hf;have HF:=aa hf;clear WH hf;go_wp2_with (go_at_call 145;refine((HC _).out).mono ?_;rintro e w1 ⟨rfl,hb⟩;replace Bi:=aB Bi (n_ _) hb;rw[pa,if_neg HF.out])
    go_ret;exact⟨by rw[HD.out,HS.out,pa,if_neg HF.out];rfl,Bi⟩
  ·go_wp2;go_ret;exact⟨by rw[zBe fun i hi=>HZ.out i (by omega)];rfl,hB⟩
end
section
open Go.RowKit Go.Joins
theorem zNN (l:List (BA×BA)):∀ u∈l.flatMap aV,u.oneCell'=true:=by
 intro u hu;obtain⟨s,_,hu⟩:=K8.1 hu;simp only[aV,L2,X0,or_false] at hu;rcases hu with rfl|rfl<;>rfl
theorem zOF (B:Nat) (v:Value) (l:List (BA×BA)) (w:World) (ya:Sb w B v l) (hB:B<=w.heap.size) (ao:Option Addr) (cap:Nat) (m:List (BA×BA)) (h:bY w ao m) (Wi:ao=none->cap=0/\m=[]) (hs:l.length+m.length<=1000000) (ty:TypeId):
  ∃ v' w',(z_ #[32,32] ty #[v,.slice ao m.length cap]).run p_ w=.ok v' w'/\Sb w' B v' (l++m)/\w.grownBy w' v.ownBlock:=by
 obtain⟨i0,Qb,Xb,We,ze⟩:=info_parts FG
 cases ao with
 | none=>
  obtain⟨rfl,rfl⟩:=Wi rfl;exact⟨v,w,run_append_owned_none w B _ ty _ i0 2 underlying32 Qb v l.length (l.flatMap aV) ya,by simpa using ya,World.grownBy.refl w _⟩
 | some a=>
  have Ef:∀ j u,(m.flatMap aV)[j]?=some u->w.cell? (a.add j)=some u:=by
   intro j u hj;rcases h with rfl|⟨b,off,e,hm⟩
   ·simp at hj
   ·cases e;have ki:=(Z0.1 hj).1;rw[pN aV 2 gQ] at ki;have hq:j / 2<m.length:=by omega
    have ej:j=j / 2*2+j % 2:=by omega
    have hg:=nI aV 2 gQ m (j / 2) (j % 2) hq (by omega);rw[<-ej,hj] at hg;obtain⟨c0,c1⟩:=hm (j / 2) hq;rw[F6];rcases E9 j with e|e
    ·rw[e] at hg;simp[aV] at hg;have e2:off+j=off+j / 2*2:=by omega
     rw[e2,c0,hg]
    ·rw[e] at hg;simp[aV] at hg;have e2:off+j=off+j / 2*2+1:=by omega
     rw[e2,c1,hg]
  obtain⟨v',w',hr,ho,hg,_⟩:=run_append_own (P:=p_) (w:=w) B 32 ty 142 i0 _ 2 32 underlying32 Qb Xb We ze rfl (by omega) v l.length (l.flatMap aV) ya a m.length cap (m.flatMap aV) (pN aV 2 gQ m) Ef (zNN m) (by unfold maxLen;omega) (by omega) hB;refine⟨v',w',hr,?_,hg⟩;unfold Sb;rw[YY,O4];exact ho
theorem zCV (rows:List (ByteArray×ByteArray)) (ra:Option Addr) (rc:Nat) (l:List ma) (la:Option Addr) (lc:Nat) (w:World) (hr:bY w ra rows) (Wi:ra=none->rc=0/\rows=[]) (hl:bW w la l) (uz:rows.length<=100000) (hn:l.length<=1000):
  Calls p_ 93 #[.slice ra rows.length rc,.slice la l.length lc] w fun e w'=>∃ v,e=.returned v/\Sb w' w.heap.size v (iB rows l)/\Below w.heap.size w w':=by
 obtain⟨i0,Qb,Xb,We,ze⟩:=info_parts FG;obtain⟨va,wa,qi,FP,hga⟩:=zOF w.heap.size (.slice none 0 0) [] w (M1 _ _ _ _) (n_ _) ra rc rows hr Wi (by simp;omega) 32;have hBa:Below w.heap.size w wa:=(r_ _ _).grown hga (n_ _) (fun k hk=>by cases hk);rw[X3] at FP;have HL:=aa hl;clear hga hr Wi hl;go_enter func93,ntmps93;go_wp2_with (at_builtin;refine U5 w rfl _ _ _ _ rfl (.slice none 0 0) (.slice ra rows.length rc) rfl rfl va wa qi ?_)
 go_loopw [5,6] (fun v i wr=>∃ k:Nat,k<=l.length/\i=.int .i64 k/\Sb wr w.heap.size v (iB rows (l.take k))/\Below w.heap.size w wr) (fun _ i _=>l.length-(intOf i).toNat)
 case atStart=>exact⟨0,OZ _,rfl,FP,hBa⟩
 case round=>
  obtain⟨i,MO,rfl,Fj,Th⟩:=hrel;by_cases hi:i<l.length
  ·have Um:(i:Int)<(l.length:Int):=by omega
   rcases HL.out with e|⟨b,off,e,Bf⟩
   ·rw[e] at hi;simp at hi
   subst e;obtain⟨d0,d1,d2⟩:=gC Th Bf i hi;have Wk:=aa Bf;have Qt:=aa (zK1 rows l i hi);have hol:=vS (l.take i) rows;rw[XY] at hol;generalize iB rows (l.take i)=out at *;have a0L:out.length<=101000:=by omega
   clear hol;obtain⟨oa,oc,rfl,hoh⟩:=lV Fj;have HOH:=aa hoh;have zb:=aa Th;clear Bf hoh Fj MO Th FP hBa qi Wk HL;generalize Ao:l[i]=c at *;clear Ao
   rename World=>w1
   go_wp2
   go_loopw [7,8,9] (fun v y x wr=>∃ k:Nat,k<=out.length/\x=.int .i64 k/\y=.bool ((out.take k).foldl (oQ c) (c.gone,[])).1/\Sb wr w1.heap.size v ((out.take k).foldl (oQ c) (c.gone,[])).2/\Below w1.heap.size w1 wr) (fun _ _ x _=>out.length-(intOf x).toNat)
   case atStart=>exact⟨0,OZ _,rfl,rfl,M1 _ _ _ _,r_ _ _⟩
   case round=>
    obtain⟨k,hk,rfl,rfl,ya,hB⟩:=hrel;have HF:=aa (zNT c out (c.gone,[]) k);have hlen:=(zJW c (out.take k) (c.gone,[])).2.1;rw[XY] at hlen;have HE:Hid (((out.take k).foldl (oQ c) (c.gone,[]))=((out.take k).foldl (oQ c) (c.gone,[]))):=rfl;generalize Zb:((out.take k).foldl (oQ c) (c.gone,[]))=st at *;obtain⟨laid,nx⟩:=st;replace HE:=aa Zb;clear Zb;replace hlen:nx.length<=101001:=by
     refine BZ hlen ?_;simp only[F3];split<;>omega
    have e0:=aA hB d0;have e1:=aA hB d1;by_cases Aa:k<out.length
    ·have lk:(k:Int)<(out.length:Int):=by omega
     rcases HOH.out with e|⟨ob,oo,e,sz⟩
     ·rw[e] at Aa;simp at Aa
     subst e;obtain⟨c0,c1⟩:=gW hB sz k Aa;replace HF:=aa (HF.out Aa)
     cases hq:bc out[k].1 c.key with
     | true=>
      have q1:(out[k].1.toList==c.key.toList)=true:=hq;have q2:(out[k].1.toList != c.key.toList)=false:=by rw[bne,q1];rfl
      cases laid with
      | true=>
       replace HF:Hid (Q4 (oQ c) (c.gone,[]) (A5 (k+1) out)=(true,nx)):=by
        show _=_;rw[HF.out];simp[oQ,hq]
       clear hq;go_wp2;go_quiet (fail);go_wp2;go_quiet (fail);go_wp2;go_roundw
       case rel=>exact⟨k+1,by omega,by go_num,by rw[HF.out],by rw[HF.out];exact ya,by first|exact hB|exact hB.trans (below_draws _ _ _)⟩
       case measure=>simp[intOf];omega
      | false=>
       have fe:ng c.key out[k].1=true:=by rw[jM];exact .inr ((eV _ _).1 hq).symm
       have LF:(J1 c.key.toList out[k].1.toList || c.key.toList==out[k].1.toList)=true:=fe;replace HF:Hid (Q4 (oQ c) (c.gone,[]) (A5 (k+1) out)=(true,nx++[(c.key,c.val)])):=by
        show _=_;rw[HF.out];simp[oQ,hq,fe]
       clear hq fe;have nS:=ad.some wr;have n0:∀ m:ad wr,m.w.cell? ⟨ob,oo+k*2,none⟩=some (.string out[k].1):=fun m=>m.cell c0;have n1:∀ m:ad wr,m.w.cell? ⟨b,off+i*3,none⟩=some (.string c.key):=fun m=>m.cell e0;go_wp2;refine dE (by kernel_rfl) (by kernel_rfl) ?_
       repeat (go_big_quiet_step (fail))
       refine wpQuiet_nil ?_;intro w2 Lc;replace Lc:=jG Lc;replace hB:=aB hB (n_ _) Lc;replace ya:=aI ya fun k e=>Lc.block k (l_ ya k e).2;replace e0:=aA hB d0;replace e1:=aA hB d1;clear nS n0 n1 c0 c1 Lc;have bd:=aa ya;have Ub:=hB.size;go_wp2;have Od:Hid (∀ j u,[v_ c.key,v_ c.val][j]?=some u->(w2.alloc (MX c.key c.val)).drew.cell? ((⟨w2.heap.size,0,none⟩:Addr).add j)=some u):=
        V2 (cs:=#[.string c.key,.string c.val]) (t:=142) (fr:=(0,0)) (heap_alloc_new w2 _)
       go_region_law ((refine step_append_lies _ (by rfl) _ _ _ (by rfl) w1.heap.size 142 i0 _ 2 32 underlying32 Qb Xb We ze rfl (by omega) u7 _ _ (by rfl) ((bd.out.alloc _).drew) ⟨w2.heap.size,0,none⟩ 1 1 [.string c.key,.string c.val] (by rfl) (by rfl) Od.out (by simp[U1]) (by omega) (by unfold maxLen;omega) (by omega) (by simp;omega) (w2.heap.size+1) (by simp) ?_;intro gk ck w3 Ae Oa Gg mh))
       all_goals
        replace hB:Below w1.heap.size w1 w3:=(aB hB (n_ _) (a_ w2 (MX c.key c.val)).drew).grown Oa (by simp;omega) (fun k hk=>(l_ bd.out k hk).1);replace ya:Sb w3 w1.heap.size (.slice (some ⟨gk,0,none⟩) (nx.length+1) ck) (nx++[(c.key,c.val)]):=Cw Ae;clear Ae Oa Gg mh Od bd;replace e0:=aA hB d0;replace e1:=aA hB d1;obtain⟨c0,c1⟩:=gW hB sz k Aa;go_wp2;go_quiet (fail);go_wp2;go_roundw
        case rel=>exact⟨k+1,by omega,by go_num,by rw[HF.out],by rw[HF.out];exact ya,by first|exact hB|exact hB.trans (below_draws _ _ _)⟩
        case measure=>simp[intOf];omega
     | false=>
      have q1:(out[k].1.toList==c.key.toList)=false:=hq;have q2:(out[k].1.toList != c.key.toList)=true:=by rw[bne,q1];rfl
      cases laid with
      | true=>
       replace HF:Hid (Q4 (oQ c) (c.gone,[]) (A5 (k+1) out)=(true,nx++[out[k]])):=by
        show _=_;rw[HF.out];simp[oQ,hq]
       clear hq;go_wp2;go_quiet (fail);go_wp2;go_quiet (fail);go_wp2_with (at_builtin;refine oS rfl _ _ 32 rfl w1.heap.size 142 i0 _ 2 32 underlying32 Qb Xb We ze rfl (by omega) _ (aV out[k]) rfl (GG _) _ nx.length (nx.flatMap aV) ya rfl rfl (by omega) (by omega) hB.size ?_;intro v1 w2 mc za;replace hB:Below w1.heap.size w1 w2:=(by first|exact za w1 hB|exact za w1 (hB.trans (below_draws _ _ _)));replace ya:=Cw mc;clear mc za;replace e0:=aA hB d0;replace e1:=aA hB d1;obtain⟨c0,c1⟩:=gW hB sz k Aa)
       go_roundw
       case rel=>exact⟨k+1,by omega,by go_num,by rw[HF.out],by rw[HF.out];exact ya,by first|exact hB|exact hB.trans (below_draws _ _ _)⟩
       case measure=>simp[intOf];omega
      | false=>
       cases fe:ng c.key out[k].1 with
       | false=>
        have LF:(J1 c.key.toList out[k].1.toList || c.key.toList==out[k].1.toList)=false:=fe;replace HF:Hid (Q4 (oQ c) (c.gone,[]) (A5 (k+1) out)=(false,nx++[out[k]])):=by
         show _=_;rw[HF.out];simp[oQ,hq,fe]
        clear hq fe;go_wp2;go_quiet (fail);go_wp2;go_quiet (fail);go_wp2_with (at_builtin;refine oS rfl _ _ 32 rfl w1.heap.size 142 i0 _ 2 32 underlying32 Qb Xb We ze rfl (by omega) _ (aV out[k]) rfl (GG _) _ nx.length (nx.flatMap aV) ya rfl rfl (by omega) (by omega) hB.size ?_;intro v1 w2 mc za;replace hB:Below w1.heap.size w1 w2:=(by first|exact za w1 hB|exact za w1 (hB.trans (below_draws _ _ _)));replace ya:=Cw mc;clear mc za;replace e0:=aA hB d0;replace e1:=aA hB d1;obtain⟨c0,c1⟩:=gW hB sz k Aa)
        go_roundw
        case rel=>exact⟨k+1,by omega,by go_num,by rw[HF.out],by rw[HF.out];exact ya,by first|exact hB|exact hB.trans (below_draws _ _ _)⟩
        case measure=>simp[intOf];omega
       | true=>
        have LF:(J1 c.key.toList out[k].1.toList || c.key.toList==out[k].1.toList)=true:=fe;replace HF:Hid (Q4 (oQ c) (c.gone,[]) (A5 (k+1) out)=(true,nx++[(c.key,c.val)]++[out[k]])):=by
         show _=_;rw[HF.out];simp[oQ,hq,fe]
        clear hq fe;have ND:(nx++[(c.key,c.val)]).length<=101002:=by simp;omega
        have nS:=ad.some wr;have n0:∀ m:ad wr,m.w.cell? ⟨ob,oo+k*2,none⟩=some (.string out[k].1):=fun m=>m.cell c0;have n1:∀ m:ad wr,m.w.cell? ⟨b,off+i*3,none⟩=some (.string c.key):=fun m=>m.cell e0;go_wp2;refine dE (by kernel_rfl) (by kernel_rfl) ?_
        repeat (go_big_quiet_step (fail))
        refine wpQuiet_nil ?_;intro w2 Lc;replace Lc:=jG Lc;replace hB:=aB hB (n_ _) Lc;replace ya:=aI ya fun k e=>Lc.block k (l_ ya k e).2;replace e0:=aA hB d0;replace e1:=aA hB d1;clear nS n0 n1 c0 c1 Lc;have bd:=aa ya;have Ub:=hB.size;go_wp2;have Od:Hid (∀ j u,[v_ c.key,v_ c.val][j]?=some u->(w2.alloc (MX c.key c.val)).drew.cell? ((⟨w2.heap.size,0,none⟩:Addr).add j)=some u):=
         V2 (cs:=#[.string c.key,.string c.val]) (t:=142) (fr:=(0,0)) (heap_alloc_new w2 _)
        go_region_law ((refine step_append_lies _ (by rfl) _ _ _ (by rfl) w1.heap.size 142 i0 _ 2 32 underlying32 Qb Xb We ze rfl (by omega) u7 _ _ (by rfl) ((bd.out.alloc _).drew) ⟨w2.heap.size,0,none⟩ 1 1 [.string c.key,.string c.val] (by rfl) (by rfl) Od.out (by simp[U1]) (by omega) (by unfold maxLen;omega) (by omega) (by simp;omega) (w2.heap.size+1) (by simp) ?_;intro gk ck w3 Ae Oa Gg mh))
        all_goals
         replace hB:Below w1.heap.size w1 w3:=(aB hB (n_ _) (a_ w2 (MX c.key c.val)).drew).grown Oa (by simp;omega) (fun k hk=>(l_ bd.out k hk).1);replace ya:Sb w3 w1.heap.size (.slice (some ⟨gk,0,none⟩) (nx.length+1) ck) (nx++[(c.key,c.val)]):=Cw Ae;clear Ae Oa Gg mh Od bd;replace e0:=aA hB d0;replace e1:=aA hB d1;obtain⟨c0,c1⟩:=gW hB sz k Aa;go_wp2;go_quiet (fail);go_wp2_with (at_builtin;refine oS rfl _ _ 32 rfl w1.heap.size 142 i0 _ 2 32 underlying32 Qb Xb We ze rfl (by omega) _ (aV out[k]) rfl (GG _) _ (nx++[(c.key,c.val)]).length ((nx++[(c.key,c.val)]).flatMap aV) ya rfl rfl (by omega) (by omega) hB.size ?_;intro v1 w2 mc za;replace hB:Below w1.heap.size w1 w2:=(by first|exact za w1 hB|exact za w1 (hB.trans (below_draws _ _ _)));replace ya:=Cw mc;clear mc za;replace e0:=aA hB d0;replace e1:=aA hB d1;obtain⟨c0,c1⟩:=gW hB sz k Aa)
         go_roundw
         case rel=>exact⟨k+1,by omega,by go_num,by rw[HF.out],by rw[HF.out];exact ya,by first|exact hB|exact hB.trans (below_draws _ _ _)⟩
         case measure=>simp[intOf];omega
    ·have e:out.take k=out:=LZ (by omega);have Za:¬(k:Int)<(out.length:Int):=by omega
     rw[e] at HE
     cases laid with
     | true=>
      have HA:Hid (Nb out c=nx):=by show _=_;unfold Nb xk;rw[HE.out];rfl
      go_wp2;exact⟨⟨i+1,by omega,by go_num,by rw[Qt.out,HA.out];exact ownsRow_le ya zb.out.size,zb.out.trans (hB.mono zb.out.size)⟩,by simp[intOf];omega⟩
     | false=>
      have HA:Hid (Nb out c=nx++[(c.key,c.val)]):=by show _=_;unfold Nb xk;rw[HE.out];rfl
      have bd:=aa ya;have Ub:=hB.size;have Od:Hid (∀ j u,[v_ c.key,v_ c.val][j]?=some u->(wr.alloc (MX c.key c.val)).drew.cell? ((⟨wr.heap.size,0,none⟩:Addr).add j)=some u):=
       V2 (cs:=#[.string c.key,.string c.val]) (t:=142) (fr:=(0,0)) (heap_alloc_new wr _)
      go_wp2
      go_region_law ((refine step_append_lies _ (by rfl) _ _ _ (by rfl) w1.heap.size 142 i0 _ 2 32 underlying32 Qb Xb We ze rfl (by omega) u7 _ _ (by rfl) ((bd.out.alloc _).drew) ⟨wr.heap.size,0,none⟩ 1 1 [.string c.key,.string c.val] (by rfl) (by rfl) Od.out (by simp[U1]) (by omega) (by unfold maxLen;omega) (by omega) (by simp;omega) (wr.heap.size+1) (by simp) ?_;intro gk ck w3 Ae Oa Gg mh))
      all_goals
       replace hB:Below w1.heap.size w1 w3:=(aB hB (n_ _) (a_ wr (MX c.key c.val)).drew).grown Oa (by simp;omega) (fun k hk=>(l_ bd.out k hk).1);replace ya:Sb w3 w1.heap.size (.slice (some ⟨gk,0,none⟩) (nx.length+1) ck) (nx++[(c.key,c.val)]):=Cw Ae;clear Ae Oa Gg mh Od bd;go_wp2;exact⟨⟨i+1,by omega,by go_num,by rw[Qt.out,HA.out];exact ownsRow_le ya zb.out.size,zb.out.trans (hB.mono zb.out.size)⟩,by simp[intOf];omega⟩
  ·have ei:i=l.length:=by omega
   subst ei;have Um:¬(l.length:Int)<(l.length:Int):=by omega
   rw[O1] at Fj;go_wp2;go_ret;exact⟨_,rfl,Fj,Th⟩
theorem zDv (ao Nj:Option Addr) (cap pd:Nat) (w:World):
  Calls p_ 70 #[.slice ao 0 cap,.slice Nj 0 pd] w fun e w'=>e=.returned (.bool true)/\Below w.heap.size w w':=by
 go_enter func70,ntmps70;go_wp2;refine wp_loop_rounds 1 ?_;rw[rounds_succ];go_wp2;go_ret;exact⟨rfl,r_ _ _⟩
theorem zLN (l:List ma) (ao Nj:Option Addr) (cap pd:Nat) (w:World) (hl:bW w ao l) (Jh:bW w Nj l) (hn:l.length<=1000):
  Calls p_ 70 #[.slice ao l.length cap,.slice Nj l.length pd] w fun e w'=>e=.returned (.bool true)/\Below w.heap.size w w':=by
 rcases hl with rfl|⟨b,off,rfl,h⟩
 ·exact zDv _ _ _ _ _
 ·rcases Jh with rfl|⟨b2,th,rfl,h2⟩
  ·exact zDv _ _ _ _ _
  ·exact zO4 l b off cap b2 th pd w h h2 hn
end
section
open Go.RowKit Go.Joins Go.Shelf
theorem zJx (m:Option Nat) (w:World):Calls p_ 95 #[.map m] w fun e w'=>e=.returned (.func (.func 166) #[] #[.pointer (some ⟨w.heap.size,0,none⟩)])/\w'=w.alloc (.cells #[.map m] 176):=
 (callsIn_wide (n:=5)).1 (AnyZ.keys_in Tryz.keysV L7 5 trivial rfl m w)
theorem zDR (b nn:Nat) (D0:DataW Value) (w:World) (ya:w.ownsMap p_ 9 RV b nn D0) (Mb:Maps.size D0<=1000000):
  Calls p_ 94 #[.func (.func 166) #[] #[.pointer (some ⟨w.heap.size,0,none⟩)]] (w.alloc (.cells #[.map (some b)] 176)) fun e w'=>∃ (v:Value) (ss:List (List UInt8)),e=.returned v/\ss.Perm (strKeys D0)/\
   w'.ownsRow (w.alloc (.cells #[.map (some b)] 176)).heap.size 9 1 v ss.length (ss.map encStr)/\(v=.slice none 0 0↔ss=[])/\Below (w.alloc (.cells #[.map (some b)] 176)).heap.size (w.alloc (.cells #[.map (some b)] 176)) w':=by
 have zq:=ya.lt;have XP:SeqGives L7 3 p_ 166 #[.pointer (some ⟨w.heap.size,0,none⟩)] encStr (fun ss=>ss.Perm (strKeys D0)) (Maps.size D0) (w.alloc (.cells #[.map (some b)] 176)):=
  AnyZ.keys_gives (ρ:=Tryz.keysV_ren) { Tryz.keysV with } L7 _ trivial rfl (by omega) w.heap.size b nn D0 _ (by simp) (by simp) (by
   obtain⟨es,xo,hb,Ft,hs,hD⟩:=ya;exact⟨es,xo,(Below.heap_alloc _ _ b zq).trans hb,Ft,hs,hD⟩)
 exact(callsIn_wide (n:=5)).1 (AnyZ.collect_in Tryz.collectS L7 5 trivial trivial rfl (by omega) 166 #[.pointer (some ⟨w.heap.size,0,none⟩)] trivial (enters_of func166 (by kernel_rfl) rfl) _ _ (by unfold maxLen;omega) (by omega) _ XP)
def Qd (l:List UInt8):BA:=⟨l.toArray⟩
theorem zCY (k:BA):Qd k.data.toList=k:=rfl
theorem zMH {a b:List UInt8} (h:Qd a=Qd b):a=b:=by
 have:=congrArg (fun k:BA=>k.data.toList) h;simpa[Qd] using this
theorem VS.keys (h:VS w B vb mb now n D g R) {ss:List (List UInt8)} (hp:ss.Perm (strKeys D)):keysV R (ss.map Qd):=by
 obtain⟨es,hD,hpw,_⟩:=h.own.entries eX;obtain⟨es',hD',hko⟩:=h.own.keysOf;obtain rfl:es=es':=by rw[hD] at hD';simpa using hD'
 have Wh:∀ p∈es,∃ x,p.1=.string x/\x.length<=maxLen:=fun p hp=>by
  obtain⟨v,hv⟩:=hko p hp;obtain⟨x,_,hx,hl⟩:=Maps.keyOf_str underlying9 hv;exact⟨x,hx,hl⟩
 have Zb:strKeys D=es.map fun p=>strOf p.1:=by rw[hD];rfl
 have ly:(strKeys D).Nodup:=by
  rw[Zb];refine M8.2 (hpw.imp_of_mem fun {p q} Ym hq' La e=>La ?_);obtain⟨a,ha,_⟩:=Wh p Ym;obtain⟨b,hb,_⟩:=Wh q hq';rw[ha,hb] at e ⊢;exact congrArg _ e
 have hm:∀ x,x∈strKeys D↔Z8 D (.string x)=true/\x.length<=maxLen:=fun x=>by
  rw[Zb,hD,Maps.has_eq,List.any_eq_true,Z2];constructor
  ·rintro⟨p,Ym,rfl⟩;obtain⟨a,ha,hl⟩:=Wh p Ym;exact⟨⟨p,Ym,by rw[ha];simp[Lit.sameKey,strOf]⟩,by rw[ha];exact hl⟩
  ·rintro⟨⟨p,Ym,hs⟩,_⟩;obtain⟨a,ha,_⟩:=Wh p Ym;rw[ha] at hs;exact⟨p,Ym,by rw[ha];simpa[Lit.sameKey,strOf] using hs⟩
 refine⟨?_,fun k=>?_⟩
 ·exact M8.2 ((hp.nodup_iff.2 ly).imp fun La e=>La (zMH e))
 ·rw[Z2];constructor
  ·rintro⟨x,hx,rfl⟩;obtain⟨h1,h2⟩:=(hm x).1 (hp.mem_iff.1 hx);have Mb:(Qd x).size<=maxLen:=by show x.toArray.size<=maxLen;simpa using h2
   exact⟨Mb,(h.has _ Mb).1 (by unfold kL Qd;simpa using h1)⟩
  ·rintro⟨h1,h2⟩;refine⟨k.data.toList,hp.mem_iff.2 ((hm _).2 ⟨(h.has k h1).2 h2,?_⟩),zCY k⟩;rw[DZ];exact h1
theorem VS.less {n':Nat} {D':DataW Value} {g':BA->Value} {R':BA->List yb} (h:VS W B vb mb now n D g R) (hB:B<=W.heap.size)
  (Ah:W.grownBy w4 (some mb)) (hm:w4.ownsMap p_ 9 RV mb n' D') (hl:∀ k,k.size<=maxLen->D'.atKey (kL k) (.held (.slice none 0 0))=.held (g' k)) (hh:∀ k,k.size<=maxLen->(Z8 D' (kL k)=true↔R' k≠[]))
  (hc:∀ k,(g' k=g k/\R' k=R k)∨(g' k=.slice none 0 0/\R' k=[])):
  VS w4 B vb mb now n' D' g' R'/\Below B W w4/\(∀ j,j<W.heap.size->¬Gb vb mb g j->w4.heap[j]?=W.heap[j]?/\¬Gb vb mb g' j):=by
 have b4:∀ j,j<W.heap.size->j≠mb->w4.heap[j]?=W.heap[j]?:=fun j h1 h2=>Ah.block j h1 (fun e=>h2 (by cases e;rfl));have bv:w4.heap[vb]?=W.heap[vb]?:=b4 vb (h.lt (.inl rfl)) h.ne;have XD:∀ k j,(g' k).ownBlock=some j->(g k).ownBlock=some j:=fun k j e=>by
  rcases hc k with⟨e1,_⟩|⟨e1,_⟩
  ·rw[e1] at e;exact e
  ·rw[e1] at e;simp[VZ] at e
 refine⟨{ num:=(b_ (w:=W) bv).trans h.num,soft:=(CZ (w:=W) bv).trans h.soft,mp:=(b_ (w:=W) bv).trans h.mp,own:=hm,look:=hl,has:=hh,rows:=fun k=>?_,Cm:=h.Cm,Bm:=h.Bm,ne:=h.ne,Vg:=fun k e=>h.Vg k (XD k _ e),Lg:=fun k e=>h.Lg k (XD k _ e),apart:=fun a b gh j e e'=>h.apart a b gh j (XD a j e) (XD b j e') },(r_ B W).grown Ah hB (fun k e=>by cases e;exact h.Bm),fun j h1 h2=>⟨b4 j h1 (fun e=>h2 (.inr (.inl e))),?_⟩⟩
 ·rcases hc k with⟨e1,e2⟩|⟨e1,e2⟩
  ·rw[e1,e2];exact aI (h.rows k) fun j hj=>b4 j (l_ (h.rows k) j hj).2 (fun e=>h.Lg k (by rw[hj,e]))
  ·rw[e1,e2];exact M1 _ _ _ _
 ·rintro(e|e|⟨k,e⟩)
  ·exact h2 (.inl e)
  ·exact h2 (.inr (.inl e))
  ·exact h2 (.inr (.inr ⟨k,XD k j e⟩))
theorem VS.same (h:VS W B vb mb now n D g R) (hB:B<=W.heap.size) (La:R key≠[])
  (hm:w4.ownsMap p_ 9 RV mb (n+1) (D.put (kL key) (.held (g key)))) (Ah:W.grownBy w4 (some mb)):
  VS w4 B vb mb now (n+1) (D.put (kL key) (.held (g key))) g R/\Below B W w4/\(∀ j,j<W.heap.size->¬Gb vb mb g j->w4.heap[j]?=W.heap[j]?/\¬Gb vb mb g j):=by
 refine h.less hB Ah hm (fun k hk=>?_) (fun k hk=>?_) (fun k=>.inl ⟨rfl,rfl⟩)
 ·by_cases e:k=key
  ·subst e;rw[I7 h.own.isMap (nJ k)]
  ·rw[D7 (oU e)];exact h.look k hk
 ·by_cases e:k=key
  ·subst e;rw[X7 h.own.isMap (nJ k)];simp[La]
  ·rw[P7 (oU e)];exact h.has k hk
theorem VS.drop (h:VS W B vb mb now n D g R) (hB:B<=W.heap.size)
  (hm:w4.ownsMap p_ 9 RV mb n (D.del (kL key))) (Ah:W.grownBy w4 (some mb)):
  VS w4 B vb mb now n (D.del (kL key)) (Ec g key (.slice none 0 0)) (Ec R key [])/\Below B W w4/\(∀ j,j<W.heap.size->¬Gb vb mb g j->w4.heap[j]?=W.heap[j]?/\¬Gb vb mb (Ec g key (.slice none 0 0)) j):=by
 refine h.less hB Ah hm (fun k hk=>?_) (fun k hk=>?_) (fun k=>?_)
 ·by_cases e:k=key
  ·subst e;rw[bH,Maps.atKey_del_same]
  ·rw[aW _ _ e,Maps.atKey_del_other (oU e)];exact h.look k hk
 ·by_cases e:k=key
  ·subst e;rw[bH,Maps.has_del_same];simp
  ·rw[aW _ _ e,Maps.has_del_other (oU e)];exact h.has k hk
 ·by_cases e:k=key
  ·subst e;exact .inr ⟨bH _ _ _,bH _ _ _⟩
  ·exact .inl ⟨aW _ _ e,aW _ _ e⟩
theorem zJB:(XZ.info? 192).map (fun i=>(i.zero,i.size,i.bytes))=some (some (.agg #[.int .i64 0,.string ⟨#[]⟩,.bool false]),3,32):=by kernel_rfl
theorem zMC (b off n c:Nat) (Vb:List Value) (w:World) (hl:Vb.length=n*3) (hn:n<=1000000) (hc:∀ j u,Vb[j]?=some u->w.cell? ⟨b,off+j,none⟩=some u) (h1:∀ u∈Vb,u.oneCell'=true):
  Calls p_ 168 #[.slice (some ⟨b,off,none⟩) n c] w fun e w'=>∃ v',e=.returned v'/\w'.ownsRow w.heap.size 192 3 v' n Vb/\v'≠.slice none 0 0/\Below w.heap.size w w':=by
 obtain⟨i0,Qb,Xb,Yc,te⟩:=info_parts zJB;exact AnyE.slices_Clone Tryz.cloneV i0 _ 3 32 Qb Xb Yc te rfl (by omega) sizeOf192 b off n c Vb w hl (by unfold maxLen;omega) (by omega) hc h1
theorem sE {g:Nat} (h:uh w B (.slice (some ⟨g,0,none⟩) vs.length cap) vs) (q:Nat) (hq:q<=vs.length) (hlen:vs.length<=1000000) (c:Nat) (a:Nat) (ha:a=q*3∨q=vs.length) (m:Nat) (qz:m=vs.length-q):
  Calls p_ 168 #[.slice (some ⟨g,a,none⟩) m c] w fun e w'=>∃ v',e=.returned v'/\uh w' w.heap.size v' (vs.drop q)/\v'≠.slice none 0 0/\Below w.heap.size w w':=by
 subst qz;have hl:(vs.drop q).length=vs.length-q:=UZ;have Dq:((vs.drop q).flatMap nO).length=(vs.length-q)*3:=by rw[pN nO 3 kV,hl]
 refine(zMC g a (vs.length-q) c ((vs.drop q).flatMap nO) w Dq (by omega) (fun j u hj=>?_) (zH3 _)).mono ?_
 ·have hj3:j<(vs.length-q)*3:=by
   rcases M3 j ((vs.length-q)*3) with h'|h'
   ·exact h'
   ·rw[A3 (by omega)] at hj;cases hj
  have zh:a=q*3:=by
   rcases ha with e|e
   ·exact e
   ·subst e;simp at hj3
  subst zh;have hm:j / 3<vs.length-q:=Nat.div_lt_of_lt_mul (by omega);have hr:j % 3<3:=Nat.mod_lt _ (by omega);have ej:j=j / 3*3+j % 3:=by omega
  have e1:=nI nO 3 kV (vs.drop q) (j / 3) (j % 3) (by omega) hr;rw[<-ej,hj] at e1;have e2:=(dU kV h (q+j / 3) (j % 3) (by omega) hr).1;rw[List.getElem_drop] at e1;rw[show q*3+j=(q+j / 3)*3+j % 3 by omega,e2,<-e1]
 ·rintro e w' ⟨v',rfl,ho,La,hb⟩;refine⟨v',rfl,?_,La,hb⟩;unfold uh;rw[hl];exact ho
def zE5 (w w':World) (v:Value) (vs:List yb) (n:Int) (v':Value):Prop:=Below w.heap.size w w'/\((v'=v/\dN vs n=vs)∨uh w' w.heap.size v' (dN vs n))
theorem zA4 (ao:Option Addr) (cap:Nat) (vs:List yb) (n:Int) (w:World) (hlen:vs.length<=1000000) (h:uh w B (.slice ao vs.length cap) vs):
  Calls p_ 96 #[.slice ao vs.length cap,.int .i64 n] w fun e w'=>∃ v',e=.returned v'/\zE5 w w' (.slice ao vs.length cap) vs n v':=by
 have hI:jH w.heap.size w ao cap vs:=by
  obtain⟨nt,Pb,e',hI,_⟩:=nF h;cases e';exact hI
 have HI:=aa hI;clear hI;rcases rS vs n with⟨hl,_⟩|⟨p,hp,hl,h1,h2⟩
 ·have HS:=aa (sN hl);have HL:=aa hl;clear hl;go_enter func96,ntmps96;go_wp2_with (go_at_call 167;refine(kO ao cap vs n _ hlen HI.out).mono ?_;rintro e w1 ⟨rfl,hb⟩;rw[HL.out])
  go_ret;exact⟨_,rfl,hb,.inl ⟨rfl,HS.out⟩⟩
 ·have hs:=sW hp hl;have HL:=aa hl;clear hl h2;rcases aX h with⟨_,h0⟩|⟨g,Pb,hv,_,_,il,Aj⟩
  ·omega
  cases hv;have HO:=aa h;have i0:(0:Int)<=(p:Int):=by omega
  have i1:(p:Int)<(vs.length:Int):=by omega
  have i3:(vs.length:Int)<=(cap:Int):=by omega
  have i4:cap<=9223372036854775807:=by unfold maxLen at Aj;omega
  have c2:=(dU kV h p 2 hp (by omega)).1;simp only[nO,List.getElem?_cons_succ,List.getElem?_cons_zero] at c2;clear h Aj
  cases hg:vs[p].gone with
  | true=>
   rw[hg,if_pos rfl] at hs;rw[hg] at c2;have HS:=aa hs;clear hs hg h1;have i5:(p:Int)+1<=(vs.length:Int):=by omega
   have i6:(p:Int)+1<=(cap:Int):=by omega
   have i7:(0:Int)<=(p:Int)+1:=by omega
   have i8:¬((p:Int)+1<=0):=by omega
   by_cases Sm:cap=p+1
   ·subst Sm;go_enter func96,ntmps96;go_wp2_with (first
     | (go_at_call 167;refine(kO _ _ vs n _ hlen HI.out).mono ?_;rintro e w1 ⟨rfl,hb⟩;rw[HL.out];replace c2:=aA hb c2)
     | (go_at_call 168;refine(sE (bQ HO.out hb) (p+1) (by omega) hlen 0 0 (.inr (by omega)) 0 (by omega)).mono ?_;rintro e w2 ⟨v',rfl,ho,La,za⟩;have Kc:=aa ho;have Cb:=aa (aB hb (n_ _) za);clear ho La za))
    go_ret;exact⟨_,rfl,Cb.out,.inr (by rw[HS.out];exact ownsRow_base_a Kc.out hb.size)⟩
   ·go_enter func96,ntmps96;go_wp2_with (first
     | (go_at_call 167;refine(kO _ _ vs n _ hlen HI.out).mono ?_;rintro e w1 ⟨rfl,hb⟩;rw[HL.out];replace c2:=aA hb c2)
     | (go_at_call 168;refine(sE (bQ HO.out hb) (p+1) (by omega) hlen (cap-(p+1)) ((p+1)*3) (.inl rfl) (vs.length-(p+1)) rfl).mono ?_;rintro e w2 ⟨v',rfl,ho,La,za⟩;have Kc:=aa ho;have Cb:=aa (aB hb (n_ _) za);clear ho La za))
    go_ret;exact⟨_,rfl,Cb.out,.inr (by rw[HS.out];exact ownsRow_base_a Kc.out hb.size)⟩
  | false=>
   rw[hg,if_neg (by simp)] at hs;rw[hg] at c2;have HS:=aa hs;clear hs hg h1;by_cases h0:p=0
   ·subst h0;go_enter func96,ntmps96;go_wp2_with (first
     | (go_at_call 167;refine(kO _ cap vs n _ hlen HI.out).mono ?_;rintro e w1 ⟨rfl,hb⟩;rw[HL.out];replace c2:=aA hb c2))
    go_ret;exact⟨_,rfl,hb,.inl ⟨rfl,by rw[HS.out];rfl⟩⟩
   ·have i2:(p:Int)<=(vs.length:Int):=by omega
    have i6:(p:Int)<=(cap:Int):=by omega
    have i8:¬((p:Int)<=0):=by omega
    have i9:decide ((p:Int)<=0)=false:=by simpa using i8
    have Sm:¬cap=p:=by omega
    clear h0;go_enter func96,ntmps96;go_wp2_with (first
     | (go_at_call 167;refine(kO _ _ vs n _ hlen HI.out).mono ?_;rintro e w1 ⟨rfl,hb⟩;rw[HL.out];replace c2:=aA hb c2)
     | (go_at_call 168;refine(sE (bQ HO.out hb) p (by omega) hlen (cap-p) (p*3) (.inl rfl) (vs.length-p) rfl).mono ?_;rintro e w2 ⟨v',rfl,ho,La,za⟩;have Kc:=aa ho;have Cb:=aa (aB hb (n_ _) za);clear ho La za))
    go_ret;exact⟨_,rfl,Cb.out,.inr (by rw[HS.out];exact ownsRow_base_a Kc.out hb.size)⟩
end
section
open Go.RowKit Go.Joins
structure Vd where
 kind:BA
 a:Int
 b:Int
 c:Int
 k:Int
 s:BA
 t:BA
 ca:Option Addr
 cc:Nat
 ba:List ma
 sa:Option Addr
 sc:Nat
 Zh:List (BA×BA)
structure vI (w:World) (De off:Nat) (x:Vd):Prop where
 kind:w.cell? ⟨De,off,none⟩=some (.string x.kind)
 a:w.cell? ⟨De,off+1,none⟩=some (.int .i64 x.a)
 b:w.cell? ⟨De,off+2,none⟩=some (.int .i64 x.b)
 c:w.cell? ⟨De,off+3,none⟩=some (.int .i64 x.c)
 k:w.cell? ⟨De,off+4,none⟩=some (.int .u64 x.k)
 s:w.cell? ⟨De,off+5,none⟩=some (.string x.s)
 t:w.cell? ⟨De,off+6,none⟩=some (.string x.t)
 cl:w.cell? ⟨De,off+7,none⟩=some (.slice x.ca x.ba.length x.cc)
 sl:w.cell? ⟨De,off+8,none⟩=some (.slice x.sa x.Zh.length x.sc)
 hc:bW w x.ca x.ba
 hs:bY w x.sa x.Zh
 ns:x.Zh.length<=maxLen
 ai:-9223372036854775808<=x.a/\x.a<=9223372036854775807
theorem vI.on {x:Vd} (hb:Below w.heap.size w w') (h:vI w b off x):vI w' b off x:=
 ⟨aA hb h.kind,aA hb h.a,aA hb h.b,aA hb h.c,aA hb h.k,aA hb h.s,aA hb h.t,aA hb h.cl,aA hb h.sl,eA hb h.hc,lX hb h.hs,h.ns,h.ai⟩
def FJ (w:World) (b off:Nat) (l:List Vd):Prop:=∀ i (h:i<l.length),vI w b (off+i*9) l[i]
theorem zHM {l:List Vd} (hb:Below w.heap.size w w') (h:FJ w b off l):FJ w' b off l:=fun i hi=>(h i hi).on hb
def iM (w:World) (ao:Option Addr) (l:List Vd):Prop:=l=[]∨∃ b off,ao=some ⟨b,off,none⟩/\FJ w b off l
theorem zHR {l:List Vd} (hb:Below w.heap.size w w') (h:iM w ao l):iM w' ao l:=by
 rcases h with h|⟨b,off,h,k⟩
 ·exact .inl h
 ·exact .inr ⟨b,off,h,zHM hb k⟩
def fE (x:Vd):Bool:=decide (x.s.size<=120)&&decide (x.t.size<=100)&&iR x.ba 20&&iA x.Zh
def gT (l:List Vd) (n:Nat):Bool:=decide (l.length<=n)&&l.all fE
theorem zEn {l:List Vd} (hk:k<l.length) (h:(l.take k).all fE=true) (h2:fE l[k]=true):(l.take (k+1)).all fE=true:=by
 rw[ZY hk,List.all_append,h];simp[h2]
theorem oZ {l:List Vd} (hk:k<l.length) (h:fE l[k]=false):gT l n=false:=by
 unfold gT;have:l.all fE=false:=by
  rw[List.all_eq_false];exact⟨l[k],MZ hk,by simp[h]⟩
 rw[this,Bool.and_false]
theorem zAz (l:List Vd) (n b off cap:Nat) (w:World) (hl:FJ w b off l) (hm:n<=1000):
  Calls p_ 5 #[.slice (some ⟨b,off,none⟩) l.length cap,.int .i64 n] w fun e w'=>e=.returned (.bool (gT l n))/\w'=w:=by
 by_cases Iv:l.length<=n
 ·have hg:decide ((n:Int)<(l.length:Int))=false:=by simp;omega
  have Hg:decide (n<l.length)=false:=by simp;omega
  go_enter func5,ntmps5;go_wp2
  go_loopw [5] (fun i wr=>∃ k:Nat,k<=l.length/\i=.int .i64 k/\(l.take k).all fE=true/\wr=w) (fun i _=>l.length-(intOf i).toNat)
  case atStart=>exact⟨0,OZ _,rfl,by simp,rfl⟩
  case round=>
   obtain⟨k,hk,rfl,pg,rfl⟩:=hrel;have HA:=aa pg;clear pg;by_cases Aa:k<l.length
   ·have hx:=hl k Aa;have c5:=hx.s;have c6:=hx.t;have c7:=hx.cl;have c8:=hx.sl;have H7:=aa hx.hc;have H8:=aa hx.hs;have FI:=hx.ns;clear hx;by_cases h5:l[k].s.size<=120
    ·by_cases h6:l[k].t.size<=100
     ·have h5':¬(120:Int)<(l[k].s.size:Int):=by omega
      have h6':¬(100:Int)<(l[k].t.size:Int):=by omega
      cases h7:iR l[k].ba 20 with
      | false=>
       have H:=aa h7;clear h7;go_wp2_with (first
        | (go_at_call 29;refine(sV _ 20 _ _ _ H7.out (by omega)).mono ?_;rintro e w2 ⟨rfl,Lc⟩;have uf:=Lc.symm;subst uf;clear Lc;rw[H.out]))
       go_ret;exact⟨bB (oZ Aa (by simp[fE,H.out])).symm,rfl⟩
      | true=>
       have H:=aa h7;clear h7
       cases h8:iA l[k].Zh with
       | false=>
        have H':=aa h8;clear h8;go_wp2_with (first
         | (go_at_call 29;refine(sV _ 20 _ _ _ H7.out (by omega)).mono ?_;rintro e w2 ⟨rfl,Lc⟩;have uf:=Lc.symm;subst uf;clear Lc;rw[H.out])
         | (go_at_call 30;refine(vD _ _ _ _ H8.out FI).mono ?_;rintro e w2 ⟨rfl,Lc⟩;have uf:=Lc.symm;subst uf;clear Lc;rw[H'.out]))
        go_ret;exact⟨bB (oZ Aa (by simp[fE,H'.out])).symm,rfl⟩
       | true=>
        have H':=aa h8;clear h8;go_wp2_with (first
         | (go_at_call 29;refine(sV _ 20 _ _ _ H7.out (by omega)).mono ?_;rintro e w2 ⟨rfl,Lc⟩;have uf:=Lc.symm;subst uf;clear Lc;rw[H.out])
         | (go_at_call 30;refine(vD _ _ _ _ H8.out FI).mono ?_;rintro e w2 ⟨rfl,Lc⟩;have uf:=Lc.symm;subst uf;clear Lc;rw[H'.out]))
        go_roundw
        case rel=>exact⟨k+1,by omega,by go_num,zEn Aa HA.out (by simp[fE,H.out,H'.out,h5,h6]),by first|rfl|trivial⟩
        case measure=>simp[intOf];omega
     ·have h5':¬(120:Int)<(l[k].s.size:Int):=by omega
      have h6':(100:Int)<(l[k].t.size:Int):=by omega
      go_wp2;go_ret;exact⟨bB (oZ Aa (by simp[fE,h6])).symm,rfl⟩
    ·have h5':(120:Int)<(l[k].s.size:Int):=by omega
     go_wp2;go_ret;exact⟨bB (oZ Aa (by simp[fE,h5])).symm,rfl⟩
   ·go_wp2;go_ret;refine⟨bB ?_,rfl⟩;have e:l.take k=l:=LZ (by omega);have:=HA.out;rw[e] at this;simp[gT,this,Iv]
 ·have hg:decide ((n:Int)<(l.length:Int))=true:=by simp;omega
  go_enter func5,ntmps5;go_wp2;go_ret;exact⟨bB (by simp[gT,Iv]),rfl⟩
theorem zB4 (ao:Option Addr) (n cap:Nat) (w:World):
  Calls p_ 5 #[.slice ao 0 cap,.int .i64 n] w fun e w'=>e=.returned (.bool true)/\w'=w:=by
 have hg:decide ((n:Int)<0)=false:=by simp
 go_enter func5,ntmps5;go_wp2;refine wp_loop_rounds 1 ?_;rw[rounds_succ];go_wp2;go_ret;exact⟨rfl,rfl⟩
theorem zCZ (l:List Vd) (n cap:Nat) (ao:Option Addr) (w:World) (hl:iM w ao l) (hm:n<=1000):
  Calls p_ 5 #[.slice ao l.length cap,.int .i64 n] w fun e w'=>e=.returned (.bool (gT l n))/\w'=w:=by
 rcases hl with rfl|⟨b,off,rfl,h⟩
 ·exact zB4 _ _ _ _
 ·exact zAz l n b off cap w h hm
end
section
open Go.ChangeShapes Go.WideShapes Go.ChangeAt Go.RowKit Go.Joins Go.Deep
section
variable {H:Type} {enc:TypeId×Value->H} {w:World} {Eg:Nat} {held:Bool}
theorem dY {P:Program} {zw:Nat->Bool} {i:Nat} {t:TypeId} {fs:Array Field} {cs:List Value} {xs:List (DataW H×List MemPlace)} (Mf:xs.length=fs.size)
  (hf:∀ (i:Nat) (f:Field),fs[i]?=some f->T6 enc P w Eg zw held n f.type ((cs.drop f.offset).take (P.cellsOf f.type))=xs[i]?) {f:Field} (hi:fs[i]?=some f) (ho:f.offset=i) (hc:P.cellsOf f.type=1) (ht:f.type=t) (hl:i<cs.length):
  ∃ v y,cs[i]?=some v/\T6 enc P w Eg zw held n t [v]=some y:=by
 have h:=hf i f hi;have hx:i<xs.length:=by rw[Mf];exact(F1.1 hi).1
 rw[ho,hc,ht,VY hx] at h;have e:(cs.drop i).take 1=[cs[i]]:=by
  rw[Q2 hl];rfl
 rw[e] at h;exact⟨_,_,VY hl,h⟩
theorem zFG {a:Int} (h:(Lit.int .i64 a).wf=true):-9223372036854775808<=a/\a<=9223372036854775807:=by
 simpa[Lit.wf,IntKind.min,IntKind.signed,IntKind.bits] using h
theorem zH9 {x:DataW H×List MemPlace} (h:T6 enc p_ w Eg (fun _=>true) held zj 36 [v]=some x):∃ (ao:Option Addr) (cap:Nat) (l:List ma),v=.slice ao l.length cap/\bW w ao l:=by
 rcases open_slice underlying36 h with⟨Yf,_⟩|⟨a,len,cap,m,n,D,Pl,Yf,_,hl,hm,Lr,_,hx⟩
 ·simp at Yf;subst Yf;exact⟨_,_,[],rfl,.inl rfl⟩
 ·simp at Yf;subst Yf;simp only[if_true] at Lr;by_cases h0:len=0
  ·subst h0;exact⟨_,_,[],rfl,.inl rfl⟩
  ·obtain⟨b,off,Us⟩:=a;have Nv:XZ.cellsOf 99=3:=by kernel_rfl
   have ym:Us=none:=by
    obtain⟨cs,h1,_⟩:=hx 0 (by omega);rw[Nv] at h1;obtain⟨_,hlen,Bc⟩:=D4 h1;have e0:=(Bc 0 (by omega)).trans (VY (by omega));simpa[P6] using F8 e0
   subst ym;have lr:∀ i,i<len->∃ c:ma,w.cell? ⟨b,off+i*3,none⟩=some (.string c.key)/\w.cell? ⟨b,off+i*3+1,none⟩=some (.string c.val)/\w.cell? ⟨b,off+i*3+2,none⟩=some (.bool c.gone):=by
    intro i hi;obtain⟨cs,h1,h2⟩:=hx i (by omega);rw[Nv] at h1;obtain⟨_,hlen,Bc⟩:=D4 h1;obtain⟨xs,k,hk,hxy,_,Mf,hf⟩:=U7 underlying99 h2;obtain⟨v0,y0,e0,g0⟩:=dY (i:=0) (t:=9) Mf hf rfl rfl (by kernel_rfl) rfl (by omega);obtain⟨v1,y1,e1,g1⟩:=dY (i:=1) (t:=9) Mf hf rfl rfl (by kernel_rfl) rfl (by omega);obtain⟨v2,y2,e2,g2⟩:=dY (i:=2) (t:=4) Mf hf rfl rfl (by kernel_rfl) rfl (by omega);obtain⟨s0,q0,_,_⟩:=N3 underlying9 g0;obtain⟨s1,q1,_,_⟩:=N3 underlying9 g1;obtain⟨b2,q2,_⟩:=DataW.trod_bool underlying4 g2;simp at q0 q1 q2;subst q0 q1 q2;have c0:=(Bc 0 (by omega)).trans e0;have c1:=(Bc 1 (by omega)).trans e1;have c2:=(Bc 2 (by omega)).trans e2;rw[add_add,add_plain] at c0 c1 c2;exact⟨⟨s0,s1,b2⟩,by simpa using c0,by simpa[U6] using c1,by simpa[U6] using c2⟩
   haveI:Inhabited ma:=⟨⟨Q1,Q1,false⟩⟩
   obtain⟨q,hq⟩:=choose_lt lr;refine⟨_,cap,(T0 len).map q,by simp,.inr ⟨b,off,rfl,?_⟩⟩;intro i hi;have Um:i<len:=by simpa using hi
   simpa using hq i Um
theorem zGZ {x:DataW H×List MemPlace} (h:T6 enc p_ w Eg (fun _=>true) held zj 37 [v]=some x):
  ∃ (ao:Option Addr) (cap:Nat) (l:List (BA×BA)),v=.slice ao l.length cap/\bY w ao l/\l.length<=maxLen/\(ao=none->cap=0/\l=[]):=by
 rcases open_slice underlying37 h with⟨Yf,_⟩|⟨a,len,cap,m,n,D,Pl,Yf,_,hl,hm,Lr,_,hx⟩
 ·simp at Yf;subst Yf;exact⟨_,_,[],rfl,.inl rfl,OZ _,fun _=>⟨rfl,rfl⟩⟩
 ·simp at Yf;subst Yf;simp only[if_true] at Lr;by_cases h0:len=0
  ·subst h0;exact⟨_,_,[],rfl,.inl rfl,OZ _,fun h=>by cases h⟩
  ·obtain⟨b,off,Us⟩:=a;have Nv:XZ.cellsOf 128=2:=by kernel_rfl
   have ym:Us=none:=by
    obtain⟨cs,h1,_⟩:=hx 0 (by omega);rw[Nv] at h1;obtain⟨_,hlen,Bc⟩:=D4 h1;have e0:=(Bc 0 (by omega)).trans (VY (by omega));simpa[P6] using F8 e0
   subst ym;have lr:∀ i,i<len->∃ c:BA×BA,w.cell? ⟨b,off+i*2,none⟩=some (.string c.1)/\w.cell? ⟨b,off+i*2+1,none⟩=some (.string c.2):=by
    intro i hi;obtain⟨cs,h1,h2⟩:=hx i (by omega);rw[Nv] at h1;obtain⟨_,hlen,Bc⟩:=D4 h1;obtain⟨xs,k,hk,hxy,_,Mf,hf⟩:=U7 underlying128 h2;obtain⟨v0,y0,e0,g0⟩:=dY (i:=0) (t:=9) Mf hf rfl rfl (by kernel_rfl) rfl (by omega);obtain⟨v1,y1,e1,g1⟩:=dY (i:=1) (t:=9) Mf hf rfl rfl (by kernel_rfl) rfl (by omega);obtain⟨s0,q0,_,_⟩:=N3 underlying9 g0;obtain⟨s1,q1,_,_⟩:=N3 underlying9 g1;simp at q0 q1;subst q0 q1;have c0:=(Bc 0 (by omega)).trans e0;have c1:=(Bc 1 (by omega)).trans e1;rw[add_add,add_plain] at c0 c1;exact⟨(s0,s1),by simpa using c0,by simpa[U6] using c1⟩
   haveI:Inhabited (BA×BA):=⟨(Q1,Q1)⟩
   obtain⟨q,hq⟩:=choose_lt lr;refine⟨_,cap,(T0 len).map q,by simp,.inr ⟨b,off,rfl,?_⟩,by simp;omega,fun h=>by cases h⟩;intro i hi;have Um:i<len:=by simpa using hi
   simpa using hq i Um
theorem zH6 {x:DataW H×List MemPlace} (h:T6 enc p_ w Eg (fun _=>true) held zj 22 [v]=some x):
  ∃ (ao:Option Addr) (cap:Nat) (l:List Vd),v=.slice ao l.length cap/\iM w ao l:=by
 rcases open_slice underlying22 h with⟨Yf,_⟩|⟨a,len,cap,m,n,D,Pl,Yf,_,hl,hm,Lr,_,hx⟩
 ·simp at Yf;subst Yf;exact⟨_,_,[],rfl,.inl rfl⟩
 ·simp at Yf;subst Yf;simp only[if_true] at Lr;by_cases h0:len=0
  ·subst h0;exact⟨_,_,[],rfl,.inl rfl⟩
  ·obtain⟨b,off,Us⟩:=a;have hc9:XZ.cellsOf 39=9:=by kernel_rfl
   have ym:Us=none:=by
    obtain⟨cs,h1,_⟩:=hx 0 (by omega);rw[hc9] at h1;obtain⟨_,hlen,Bc⟩:=D4 h1;have e0:=(Bc 0 (by omega)).trans (VY (by omega));simpa[P6] using F8 e0
   subst ym;have lr:∀ i,i<len->∃ c:Vd,vI w b (off+i*9) c:=by
    intro i hi;obtain⟨cs,h1,h2⟩:=hx i (by omega);rw[hc9] at h1;obtain⟨_,hlen,Bc⟩:=D4 h1;obtain⟨xs,k,hk,hxy,_,Mf,hf⟩:=U7 underlying39 h2;obtain⟨v0,y0,e0,g0⟩:=dY (i:=0) (t:=9) Mf hf rfl rfl (by kernel_rfl) rfl (by omega);obtain⟨v1,y1,e1,g1⟩:=dY (i:=1) (t:=3) Mf hf rfl rfl (by kernel_rfl) rfl (by omega);obtain⟨v2,y2,e2,g2⟩:=dY (i:=2) (t:=3) Mf hf rfl rfl (by kernel_rfl) rfl (by omega);obtain⟨v3,y3,e3,g3⟩:=dY (i:=3) (t:=3) Mf hf rfl rfl (by kernel_rfl) rfl (by omega);obtain⟨v4,y4,e4,g4⟩:=dY (i:=4) (t:=35) Mf hf rfl rfl (by kernel_rfl) rfl (by omega);obtain⟨v5,y5,e5,g5⟩:=dY (i:=5) (t:=9) Mf hf rfl rfl (by kernel_rfl) rfl (by omega);obtain⟨v6,y6,e6,g6⟩:=dY (i:=6) (t:=9) Mf hf rfl rfl (by kernel_rfl) rfl (by omega);obtain⟨v7,y7,e7,g7⟩:=dY (i:=7) (t:=36) Mf hf rfl rfl (by kernel_rfl) rfl (by omega);obtain⟨v8,y8,e8,g8⟩:=dY (i:=8) (t:=37) Mf hf rfl rfl (by kernel_rfl) rfl (by omega);obtain⟨s0,q0,_,_⟩:=N3 underlying9 g0;obtain⟨s1,q1,_,w1⟩:=C7 underlying3 g1;obtain⟨s2,q2,_,_⟩:=C7 underlying3 g2;obtain⟨s3,q3,_,_⟩:=C7 underlying3 g3;obtain⟨s4,q4,_,_⟩:=C7 underlying35 g4;obtain⟨s5,q5,_,_⟩:=N3 underlying9 g5;obtain⟨s6,q6,_,_⟩:=N3 underlying9 g6;obtain⟨ca,cc,ba,q7,h7⟩:=zH9 g7;obtain⟨sa,sc,Zh,q8,h8,n8,_⟩:=zGZ g8;simp at q0 q1 q2 q3 q4 q5 q6;subst q0 q1 q2 q3 q4 q5 q6 q7 q8;have c0:=(Bc 0 (by omega)).trans e0;have c1:=(Bc 1 (by omega)).trans e1;have c2:=(Bc 2 (by omega)).trans e2;have c3:=(Bc 3 (by omega)).trans e3;have c4:=(Bc 4 (by omega)).trans e4;have c5:=(Bc 5 (by omega)).trans e5;have c6:=(Bc 6 (by omega)).trans e6;have c7:=(Bc 7 (by omega)).trans e7;have c8:=(Bc 8 (by omega)).trans e8;rw[add_add,add_plain,<-U6] at c0 c1 c2 c3 c4 c5 c6 c7 c8;exact⟨⟨s0,s1,s2,s3,s4,s5,s6,ca,cc,ba,sa,sc,Zh⟩,⟨c0,c1,c2,c3,c4,c5,c6,c7,c8,h7,h8,n8,zFG w1⟩⟩
   haveI:Inhabited Vd:=⟨⟨Q1,0,0,0,0,Q1,Q1,none,0,[],none,0,[]⟩⟩
   obtain⟨q,hq⟩:=choose_lt lr;refine⟨_,cap,(T0 len).map q,by simp,.inr ⟨b,off,rfl,?_⟩⟩;intro i hi;have Um:i<len:=by simpa using hi
   simpa using hq i Um
end
theorem zCl {H:Type} {enc:TypeId×Value->H} {Eg:Nat} {d:DataW H} {p:List MemPlace}
  (hv:Value.okWide p_ W .any Eg 22 v) (h:DataW.Trod enc p_ W 0 (fun _=>true) true 22 v d p):∃ (ao:Option Addr) (cap:Nat) (l:List Vd),v=.slice ao l.length cap/\iM W ao l/\l.length<=cap:=by
 obtain⟨a0,len,cap,rfl⟩:=okWide_slice underlying22 hv;obtain⟨zj,hf⟩:=h;have Cq:T6 enc p_ W 0 (fun _=>true) true zj 22 [.slice a0 len cap]=some (d,p):=by simpa[Value.cells] using hf
 have hc:len<=cap:=by
  rcases open_slice underlying22 Cq with⟨e,_⟩|⟨a,l,c,m,n,D,Pl,e,_,hl,_⟩
  ·simp at e;omega
  ·simp at e;omega
 obtain⟨ao,c,l,e,hl⟩:=zH6 Cq;have e':=e;simp at e';exact⟨ao,c,l,e,hl,by omega⟩
end
end Go.Proofs.YtcfjimdfegejaaaGreatDoor
