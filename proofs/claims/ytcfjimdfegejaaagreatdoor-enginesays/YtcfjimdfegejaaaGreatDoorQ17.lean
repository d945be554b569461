import Derived.Test.YtcfjimdfegejaaaGreatDoorQ14
import Derived.Test.YtcfjimdfegejaaaGreatDoorQ15
set_option maxHeartbeats 8000000
set_option maxRecDepth 100000
namespace Go.Proofs.YtcfjimdfegejaaaGreatDoor
open _root_.ByteArray renaming data_append→L1,data_extract→N7,size_append→I1
open Ending renaming returned→V1
open Fn renaming func→J0
open IntKind renaming i64→G0,wrap_i64→YZ
open Lib renaming toList_data→N6
open List renaming append_assoc→M5,drop_eq_getElem_cons→Q2,drop_eq_nil_of_le→M0,ext_getElem?→B5,filter_cons→WZ,filter_eq_nil_iff→C5,filter_eq_self→C6,filter_filter→B4,foldl_map→C9,getElem?_drop→C4,getElem?_eq_getElem→VY,getElem?_eq_some_iff→Z0,getElem?_set_ne→SZ,getElem?_set_self→B3,getElem?_take→I2,getElem_mem→MZ,length_append→YY,length_cons→PZ,length_drop→UZ,length_map→RZ,length_set→NZ,length_take→XY,map_append→X1,mem_cons→L2,mem_cons_of_mem→D1,mem_cons_self→Y0,mem_map→Z2,mem_singleton→GZ,nil_append→X3,not_mem_nil→X0,pairwise_cons→L3,replicate→WY,take_append_drop→J2,take_length→O1,take_succ_eq_append_getElem→ZY,zipIdx_cons→L8
open Nat renaming add_assoc→U6,add_zero→V8,le_trans→BZ,zero_le→OZ
open Value renaming agg→A0,func→JZ,oneCell'→U1,pointer→IZ,tuple→T5
open World renaming block_lt_of_cell?→AZ
open Go.Proofs.Tryz
open Obj renaming cells→o_
open World renaming cell?_of_block→b_,cell?_setCell_other→t_,cell?_setCell_same→u_,ownsRow.lt→l_
open Go.RowKit.Below renaming heap_setCell→h_,refl→r_
open Nat renaming le_refl→n_
open Go.Proofs.Tryz renaming prog→p_
open Go.Joins renaming below_alloc1→a_
variable {rb u k n i a:Nat} {st:Sl} {l rows:List ma} {K:List BA} {s:Bb} {P Q:Bb->Prop} {X:List BA->Prop}
section
open Go.RowKit Go.Joins
attribute [local go_sem ↓] Go.wp_at_zero Go.wp_at_succ
structure Ol (w:World) (lb db fr many first used:Nat):Prop where
 c0:w.cell? ⟨lb,0,none⟩=some (.pointer (some ⟨db,0,none⟩))
 c1:w.cell? ⟨lb,1,none⟩=some (.int .i64 (fr:Int))
 c2:w.cell? ⟨lb,2,none⟩=some (.int .i64 (many:Int))
 c3:w.cell? ⟨lb,3,none⟩=some (.int .i64 (first:Int))
 c4:w.cell? ⟨lb,4,none⟩=some (.int .i64 (used:Int))
 soft:∀ j,w.frozen? ⟨lb,j,none⟩=false
structure Cp (w wr:World) (B lb:Nat):Prop where
 Ia:Below B w wr
 Ma:∀ j,j<w.heap.size->j≠lb->wr.heap[j]?=w.heap[j]?
def eB (s:Bb) (fr many:Nat):List ByteArray:=(s.now.drop fr).take many
def zJi (w:World) (N:Nat) (v:Value) (l:List Dd):Prop:=w.ownsRow N 36 1 v l.length (l.map Ip)/\(∀ d∈l,ET w N d)/\(l=[]->v=.slice none 0 0)
section
variable {w wr w':World} {B lb db fr many first used:Nat} {S:Nat->Prop} {s:Bb}
theorem Ol.kept (h:Ol w lb db fr many first used) (e:w'.heap[lb]?=w.heap[lb]?):Ol w' lb db fr many first used:=
 have c:∀ j v,w.cell? ⟨lb,j,none⟩=some v->w'.cell? ⟨lb,j,none⟩=some v:=fun j _ hv=>(b_ (a:=⟨lb,j,none⟩) e).trans hv
 ⟨c _ _ h.c0,c _ _ h.c1,c _ _ h.c2,c _ _ h.c3,c _ _ h.c4,fun j=>(World.frozen?_of_block (a:=⟨lb,j,none⟩) e).trans (h.soft j)⟩
theorem Ol.lt (h:Ol w lb db fr many first used):lb<w.heap.size:=AZ _ _ h.c0
theorem Ol.use (h:Ol w lb db fr many first used) (n:Nat):Ol (w.setCell ⟨lb,4,none⟩ (.int .i64 (n:Int))) lb db fr many first n:=
 ⟨(t_ _ _ _ _ (by simp)).trans h.c0,(t_ _ _ _ _ (by simp)).trans h.c1,(t_ _ _ _ _ (by simp)).trans h.c2,(t_ _ _ _ _ (by simp)).trans h.c3,u_ _ _ _ h.c4,fun j=>by rw[World.frozen?_setCell];exact h.soft j⟩
theorem Cp.refl (w:World):Cp w w B lb:=⟨r_ _ _,fun _ _ _=>rfl⟩
theorem Cp.more (h:Cp w wr B lb) (hB:B<=w.heap.size) (hb:Below w.heap.size wr w'):Cp w w' B lb:=⟨h.Ia.trans (hb.mono hB),fun j hj hn=>(hb.block j hj).trans (h.Ma j hj hn)⟩
theorem Cp.set (h:Cp w wr B lb) (hl:B<=lb) (j:Nat) (v:Value):Cp w (wr.setCell ⟨lb,j,none⟩ v) B lb:=⟨h.Ia.setCell (p:=⟨lb,j,none⟩) hl v,fun k hk hn=>(h_ _ _ _ _ hn).trans (h.Ma k hk hn)⟩
theorem Cp.vx (h:Cp w wr B lb) (hk:DK w B db S s) (hn:¬S lb):DK wr B db S s:=hk.kept h.Ia.size fun k e=>h.Ma k (hk.lt e) fun e2=>hn (e2▸e)
theorem zKs (s:Bb) (fr many i:Nat) (h:i<many):(eB s fr many)[i]?=s.now[fr+i]?:=by
 unfold eB;rw[I2,if_pos h,C4]
structure Bp (w wr:World) (B lb db fr many first rb:Nat) (st:Sl) (u:Nat):Prop where
 rd:∃ dv av l,uj wr w.heap.size rb dv av l st.2/\l.map (·.ba)=st.1
 hd:Ol wr lb db fr many first u
 ww:Cp w wr B lb
def zFn (w w':World) (B lb db fr many first:Nat) (dv:Value) (ds:List (List ma)) (u:Nat):Prop:=∃ l,zJi w' w.heap.size dv l/\l.map (·.ba)=ds/\Ol w' lb db fr many first u/\Cp w w' B lb
theorem Bp.take {st':Sl} (h:Bp w wr B lb db fr many first rb st u) (hB:B<=w.heap.size) (hl:lb<w.heap.size) (ht:tL wr w' w.heap.size rb st'.1 st'.2):Bp w w' B lb db fr many first rb st' u:=by
 obtain⟨Ai,av',l',h1,h2,h3⟩:=ht;exact⟨⟨Ai,av',l',h1,h2⟩,h.hd.kept (h3.block lb hl),h.ww.more hB h3⟩
theorem Bp.on (h:Bp w wr B lb db fr many first rb st u) (hB:B<=w.heap.size) (hb:Below wr.heap.size wr w'):Bp w w' B lb db fr many first rb st u:=by
 obtain⟨dv,av,l,h1,h2⟩:=h.rd;exact⟨⟨dv,av,l,h1.on hb,h2⟩,h.hd.kept (hb.block lb h.hd.lt),h.ww.more hB (hb.mono h.ww.Ia.size)⟩
theorem Bp.use (h:Bp w wr B lb db fr many first rb st u) (hl:B<=lb) (ZO:lb<w.heap.size) (lg:w.heap.size<=rb) (n:Nat):Bp w (wr.setCell ⟨lb,4,none⟩ (.int .i64 (n:Int))) B lb db fr many first rb st n:=by
 obtain⟨dv,av,l,h1,h2⟩:=h.rd;refine⟨⟨dv,av,l,h1.kept fun k hk=>h_ _ _ _ _ ?_,h2⟩,h.hd.use n,h.ww.set hl 4 _⟩;have:w.heap.size<=k:=by
  rcases hk with rfl|e|e|⟨d,hd,e⟩
  ·exact lg
  ·exact(l_ h1.od k e).1
  ·exact(l_ h1.oa k e).1
  ·exact(l_ (h1.hd d hd) k e).1
 show k≠lb;omega
theorem Bp.fin {dv av:Value} {l:List Dd} {pn:List (List ma)×Nat} (h:Bp w wr B lb db fr many first rb st u) (h1:uj wr w.heap.size rb dv av l st.2) (h2:l.map (·.ba)=st.1) (e:(st.1,u)=pn):zFn w wr B lb db fr many first dv pn.1 pn.2:=by
 subst e;exact⟨l,⟨h1.od,h1.hd,h1.dz⟩,h2,h.hd,h.ww⟩
theorem zJe (w:World) (hk:DK w B db S s) (hh:Ol w lb db fr many first 0) (hn:¬S lb) (hl:B<=lb) (hd:s.down=false) (hf:first<=1500000) (hm:fr+many<=s.now.length):
  Calls p_ 222 #[.pointer (some ⟨lb,0,none⟩)] w fun e w'=>∃ dv,e=.returned (.tuple #[dv,.nilIface])/\zFn w w' B lb db fr many first dv (mX (eB s fr many) first) (mH (eB s fr many) first):=by
 have c2:=hh.c2;have Bt:=hh.lt;have Pg:=hk.many;have HK:=aa hk;have hlen:(eB s fr many).length=many:=by unfold eB;rw[XY,UZ];omega
 have H96:Hid (∀ i (h:i<(eB s fr many).length),(eB s fr many)[i].size=96):=fun i h=>hk.whole.1 _ (List.mem_of_mem_drop (List.mem_of_mem_take (MZ h)));have di:Hid (∀ i (h:i<(eB s fr many).length),lI s ((fr:Int)+(i:Int))=0/\nX s ((fr:Int)+(i:Int))=(eB s fr many)[i]):=fun i h=>by
  rw[hlen] at h;have e:lI s ((fr:Int)+(i:Int))=0:=by unfold lI;rw[hd,if_neg (by decide),if_neg (by omega)]
  refine⟨e,?_⟩;unfold nX;rw[if_pos e,show((fr:Int)+(i:Int)).toNat=fr+i by omega,<-zKs s fr many i h,VY];rfl
 have QG:=aa hh;generalize bo:eB s fr many=qa at *;unfold mX mH;generalize Fk:dB first 0 qa ([],[]) 0=pn;have Wq:=aa Fk;have Sq:=aa hlen;clear bo hk hh hd Fk hlen;go_enter func222,ntmps222;go_wp2;have Py:Hid (Bp w (w.alloc (.cells #[.slice none 0 0,.slice none 0 0] 331)) B lb db fr many first w.heap.size ([],[]) 0):=by
  have hb:=a_ w (.cells #[.slice none 0 0,.slice none 0 0] 331);exact⟨⟨.slice none 0 0,.slice none 0 0,[],⟨aC _ _ _ 0,aC _ _ _ 1,fun j=>aQ _ _ _ j,⟨rfl,.inl ⟨rfl,rfl⟩⟩,⟨rfl,.inl ⟨rfl,rfl⟩⟩,nofun,⟨nofun,nofun⟩,nofun,n_ _,fun _=>rfl⟩,rfl⟩,QG.out.kept (hb.block lb Bt),(Cp.refl w).more HK.out.lo hb⟩
 have Zy:=HK.out.lo;generalize lg:w.heap.size=rb at Py;have Sy:=aa lg;clear lg
 go_loopw [15] (fun iv wr=>∃ (i:Nat) (st:Sl) (u:Nat),i<=many/\iv=.int .i64 (i:Int)/\Bp w wr B lb db fr many first rb st u/\st.1.length<=i/\st.2.length<=i/\dB first i (qa.drop i) st u=pn) (fun iv _=>many-(intOf iv).toNat)
 case atStart=>exact⟨0,_,0,OZ _,rfl,Py.out,n_ _,n_ _,Wq.out⟩
 case round=>
  obtain⟨i,st,u,hi,rfl,hI,Na,Ub,Fi⟩:=hrel;clear Py;by_cases Aa:i<many
  ·have Za:(i:Int)<(many:Int):=by omega
   have Qb:(0:Int)<=(i:Int):=by omega
   have Qo:i<qa.length:=by rw[Sq.out];exact Aa
   have HI:=aa hI;have c0:=hI.hd.c0;have c1:=hI.hd.c1;have c3:=hI.hd.c3;have Pf:=aa Fi;rw[Q2 Qo] at Pf;have Xf:=aa (tV ((fr:Int)+(i:Int)) _ ((hI.ww.vx HK.out hn).on (r_ _ wr).drew));obtain⟨q1,q2⟩:=di.out i Qo;rw[q1,q2,aR] at Xf;have ru:=H96.out i Qo;have k1:G0.wrap ((fr:Int)+(i:Int))=(fr:Int)+(i:Int):=by rw[YZ];omega
   have k2:G0.wrap ((first:Int)+(i:Int))=(first:Int)+(i:Int):=by rw[YZ];omega
   clear hI Fi q1 q2;generalize qa[i]=t at *;go_wp2
   go_region_held3 (fun w'=>w'.cell? ⟨lb,0,none⟩=some (.pointer (some ⟨db,0,none⟩))/\w'.cell? ⟨lb,1,none⟩=some (.int .i64 (fr:Int))) (first|exact⟨c0,c1⟩|go_keep)
    ((go_at_call 170;refine Xf.out.mono ?_;rintro e w7 ⟨rfl,rfl⟩))
   replace HI:=aa (HI.out.on HK.out.lo (r_ _ wr).drew);have yx:(first:Int)+(i:Int)=((first+i:Nat):Int):=by omega
   cases Ie:ae t (first+i) with
   | none=>
    have uv:=aa (wQ t (first+i) (by omega) ru Ie wr.drew);rw[<-yx] at uv;rw[oI Ie] at Pf;clear yx Ie c0 c1;go_wp2_with (first|(go_at_call 209;refine uv.out.mono ?_;rintro e w8 ⟨rfl,Jd⟩;replace HI:=aa (HI.out.on HK.out.lo Jd);clear Jd;obtain⟨YA,GH,lE,Xn,Un⟩:=HI.out.rd;have cE:=Xn.c0;have ik:=aa (HI.out.fin Xn Un Pf.out);clear Xn Un)|fail)
    go_ret2;exact⟨YA,rfl,ik.out⟩
   | some kd=>
    obtain⟨k,d⟩:=kd;have uv:=aa (wL t (first+i) k d (by omega) ru Ie wr.drew);rw[<-yx] at uv;have jl:=zIW Ie;rcases zBA Ie with rfl|rfl
    ·by_cases hp:gI d=0
     ·have Zm:fZ st 111 d=some (st.1,st.2++[gY d]):=by unfold fZ;rw[if_pos rfl,if_pos hp]
      rw[kB Ie Zm,if_neg (by decide)] at Pf;have Dv:=aa (zAX Zm);have HP:=aa hp;clear yx Ie Zm hp c0 c1;go_wp2_with (first
       | (go_at_call 209;refine uv.out.mono ?_;rintro e w8 ⟨rfl,Jd⟩;replace HI:=aa (HI.out.on HK.out.lo Jd);clear Jd;obtain⟨YA,GH,lE,Xn,Un⟩:=HI.out.rd;have Xk:=aa (zEB d (by omega) HP.out _ Xn (HI.out.ww.Ia.size) (by omega));rw[Un] at Xk;clear Xn Un)
       | (go_at_call 257;refine Xk.out.mono ?_;rintro e w9 ⟨rfl,Ds⟩;replace HI:=aa (HI.out.take (st':=(st.1,st.2++[gY d])) HK.out.lo Bt Ds);clear Ds)
       | fail)
      exact⟨⟨i+1,_,u,by omega,by go_num,HI.out,by have:=Dv.out.1;simp at this ⊢;omega,by have:=Dv.out.2;simp at this ⊢;omega,Pf.out⟩,by simp[intOf];omega⟩
     ·have Zm:fZ st 111 d=none:=by unfold fZ;rw[if_pos rfl,if_neg hp]
      rw[tY Ie Zm] at Pf;have HP:=aa hp;clear yx Ie Zm hp c0 c1;go_wp2_with (first
       | (go_at_call 209;refine uv.out.mono ?_;rintro e w8 ⟨rfl,Jd⟩;replace HI:=aa (HI.out.on HK.out.lo Jd);clear Jd;obtain⟨YA,GH,lE,Xn,Un⟩:=HI.out.rd;have Xk:=aa (zLd d (by omega) HP.out _ Xn (HI.out.ww.Ia.size));rw[Un] at Xk;clear Xn Un)
       | (go_at_call 257;refine Xk.out.mono ?_;rintro e w9 ⟨rfl,Ds⟩;replace HI:=aa (HI.out.take (st':=st) HK.out.lo Bt Ds);clear Ds;obtain⟨ZA,MW,lF,Vr,Jr⟩:=HI.out.rd;have cF:=Vr.c0;have ik:=aa (HI.out.fin Vr Jr Pf.out);clear Vr Jr)
       | fail)
      go_ret2;exact⟨ZA,rfl,ik.out⟩
    ·cases hp:(d.toList==(dM st.2.length).toList) with
     | true=>
      have Zm:fZ st 99 d=some (st.1++[st.2],[]):=by unfold fZ;rw[if_neg (by decide),if_pos hp]
      rw[kB Ie Zm,if_pos rfl] at Pf;have Dv:=aa (zAX Zm);have HP:=aa hp;clear yx Ie Zm hp c0 c1;go_wp2_with (first
       | (go_at_call 209;refine uv.out.mono ?_;rintro e w8 ⟨rfl,Jd⟩;replace HI:=aa (HI.out.on HK.out.lo Jd);clear Jd;obtain⟨YA,GH,lE,Xn,Un⟩:=HI.out.rd;have Xk:=aa (zGj d HP.out _ Xn (HI.out.ww.Ia.size) (by omega) (by have e:=congrArg List.length Un;rw[RZ] at e;omega));rw[Un] at Xk;clear Xn Un)
       | (go_at_call 257;refine Xk.out.mono ?_;rintro e w9 ⟨rfl,Ds⟩;replace HI:=aa (HI.out.take (st':=(st.1++[st.2],[])) HK.out.lo Bt Ds);have c49:=HI.out.hd.c4;have f49:=HI.out.hd.soft 4;replace HI:=aa (HI.out.use hl Bt (Nat.le_of_eq Sy.out) (i+1));clear Ds)
       | fail)
      exact⟨⟨i+1,_,i+1,by omega,by go_num,HI.out,by have:=Dv.out.1;simp at this ⊢;omega,by simp,Pf.out⟩,by simp[intOf];omega⟩
     | false=>
      have Zm:fZ st 99 d=none:=by unfold fZ;rw[if_neg (by decide),hp];rfl
      rw[tY Ie Zm] at Pf;have HP:=aa hp;clear yx Ie Zm hp c0 c1;go_wp2_with (first
       | (go_at_call 209;refine uv.out.mono ?_;rintro e w8 ⟨rfl,Jd⟩;replace HI:=aa (HI.out.on HK.out.lo Jd);clear Jd;obtain⟨YA,GH,lE,Xn,Un⟩:=HI.out.rd;have Xk:=aa (zGh d HP.out _ Xn (HI.out.ww.Ia.size) (by omega));rw[Un] at Xk;clear Xn Un)
       | (go_at_call 257;refine Xk.out.mono ?_;rintro e w9 ⟨rfl,Ds⟩;replace HI:=aa (HI.out.take (st':=st) HK.out.lo Bt Ds);clear Ds;obtain⟨ZA,MW,lF,Vr,Jr⟩:=HI.out.rd;have cF:=Vr.c0;have ik:=aa (HI.out.fin Vr Jr Pf.out);clear Vr Jr)
       | fail)
      go_ret2;exact⟨ZA,rfl,ik.out⟩
  ·have ei:i=many:=by omega
   subst ei;have Za:¬(i:Int)<(i:Int):=by omega
   rw[M0 (by rw[Sq.out];exact n_ _)] at Fi;have PE:(st.1,u)=pn:=Fi;obtain⟨ZA,MW,lF,Vr,Jr⟩:=hI.rd;have cF:=Vr.c0;have ik:=aa (hI.fin Vr Jr PE);clear Vr Jr Fi PE hI;go_wp2;go_ret2;exact⟨ZA,rfl,ik.out⟩
end
def eJ:Nat->List ma->List ByteArray
 | _,[]=>[]
 | n,c::l=>oe 111 n (dI c)::eJ (n+1) l
def cB (n:Nat) (l:List ma):List ByteArray:=eJ n l++[oe 99 (n+l.length) (dM l.length)]
def bS:List ma->Nat
 | []=>0
 | c::l=>if aD c=0 then bS l else aD c
theorem zCa (l:List ma) (c:ma):∀ n,eJ n (l++[c])=eJ n l++[oe 111 (n+l.length) (dI c)]:=by
 induction l with
 | nil=>intro n;rfl
 | cons d l ih=>
  intro n;show oe 111 n (dI d)::eJ (n+1) (l++[c])=_;rw[ih,show n+1+l.length=n+(d::l).length by rw[PZ];omega];rfl
theorem tO (l:List ma):∀ n,(eJ n l).length=l.length:=by
 induction l with
 | nil=>intro n;rfl
 | cons d l ih=>intro n;show(eJ (n+1) l).length+1=_;rw[ih];rfl
theorem nB (n:Nat) (l:List ma):(cB n l).length=l.length+1:=by unfold cB;rw[YY,tO];rfl
theorem vG (a b:List ma):bS (a++b)=if bS a=0 then bS b else bS a:=by
 induction a with
 | nil=>rfl
 | cons c a ih=>
  show(if aD c=0 then bS (a++b) else aD c)=if (if aD c=0 then bS a else aD c)=0 then bS b else (if aD c=0 then bS a else aD c);by_cases h:aD c=0
  ·simp only[if_pos h];exact ih
  ·simp only[if_neg h]
theorem zC (hk:k<l.length) (h:bS (l.take k)=0):bS (l.take (k+1))=aD l[k]/\(aD l[k]≠0->bS l=aD l[k]):=by
 have e1:bS [l[k]]=aD l[k]:=by show(if _ then 0 else _)=_;split<;>simp_all
 constructor
 ·rw[ZY hk,vG,if_pos h,e1]
 ·intro hn;have e:l=l.take k++(l[k]::l.drop (k+1)):=by rw[<-Q2 hk,J2]
  have e2:=congrArg bS e;rw[vG,if_pos h] at e2;exact e2.trans (if_neg hn)
section
variable {w:World} {lb db fr many first used:Nat}
theorem zFj {w w':World} {B:Nat} {v:Value} {xs:List Value} (h:w.ownsRow B 9 1 v n xs) (hb:Below w.heap.size w w'):w'.ownsRow B 9 1 v n xs:=by
 refine⟨h.1,?_⟩;rcases h.2 with e|⟨g,cap,cur,rfl,hB,hg,h3⟩
 ·exact .inl e
 ·exact .inr ⟨g,cap,cur,rfl,hB,(hb.block g (Array.getElem?_eq_some_iff.1 hg).1).trans hg,h3⟩
def zMQ (w w':World) (v:Value) (l:List ByteArray):Prop:=w'.ownsRow w.heap.size 9 1 v l.length (l.map Vu)/\Below w.heap.size w w'
def lR (w w':World) (v:Value) (l:List ma) (n:Nat):Prop:=if bS l=0 then zMQ w w' v (cB n l) else Below w.heap.size w w'
theorem zCu (l:List ma) (ao:Option Addr) (cap:Nat) (w:World) (hd:bW w ao l) (hl:l.length<=12) (Mb:∀ c∈l,c.key.size<=1000/\c.val.size<=1000) (hh:Ol w lb db fr many first used) (hfu:first+used<=1800000):
  Calls p_ 217 #[.pointer (some ⟨lb,0,none⟩),.slice ao l.length cap] w fun e w'=>∃ v,e=.returned (.tuple #[v,pa (bS l)])/\lR w w' v l (first+used):=by
 have c3:=hh.c3;have c4:=hh.c4;have HD:=aa hd;have HZ:=aa Mb;clear hd Mb hh;have HE:Hid ((first:Int)+(used:Int)=((first+used:Nat):Int)):=aa (by omega);have k1:(first:Int)+(used:Int)<=1800000:=by omega
 obtain⟨i0,z0,Qb,Xb,Vm,Tp,hzc⟩:=zG5;go_enter func217,ntmps217;go_wp2;go_quiet (fail);rw[HE.out];generalize hn:first+used=n at *;have HN:=aa hn;clear HE k1 hn;go_wp2;have ie:=aa (below_drewN (r_ w.heap.size w) nq);clear c3 c4;generalize GQ:w.drewN nq=wq at *;clear GQ
 go_loopw [7,23] (fun v iv wr=>∃ k:Nat,k<=l.length/\iv=.int .i64 (k:Int)/\wr.ownsRow w.heap.size 9 1 v k ((eJ n (l.take k)).map Vu)/\bS (l.take k)=0/\Below w.heap.size w wr) (fun _ iv _=>l.length-(intOf iv).toNat)
 case atStart=>exact⟨0,OZ _,rfl,⟨rfl,.inl ⟨rfl,rfl⟩⟩,rfl,ie.out⟩
 case round=>
  obtain⟨k,hk,rfl,ho,Df,hb⟩:=hrel;clear ie;by_cases Aa:k<l.length
  ·have Za:(k:Int)<(l.length:Int):=by omega
   have Ih:(0:Int)<=(k:Int):=by omega
   rcases HD.out with e|⟨b,off,e,Bf⟩
   ·rw[e] at Aa;simp at Aa
   subst e;obtain⟨x0,x1,x2⟩:=Bf k Aa;have bj:eJ n (l.take (k+1))=eJ n (l.take k)++[oe 111 (n+k) (dI l[k])]:=by
    rw[ZY Aa,zCa,XY,Nat.min_eq_left hk]
   have kh:=zC Aa Df;obtain⟨z1,z2⟩:=HZ.out _ (MZ Aa);clear Bf;generalize l[k]=x at *;replace ⟨x0,x1,x2⟩:=Fe hb x0 x1 x2;have HO:=aa ho;have Md:=aa hb;have tj:=aa bj;have sv:=fun w'=>aa (zH1 x w' z1 z2 _ rfl);have Zg:=a_ wr (FX x.key x.val x.gone);clear ho hb bj;by_cases hf:aD x=0
   ·have HF:=aa hf;have Km:=aa (kh.1.trans hf);obtain⟨q1,q2⟩:=iS hf;have hts:=nZ x;have jq:=fun w'=>aa (zM 111 (n+k) (dI x) (by decide) (by omega) (by omega) w');have WK:Hid ((n:Int)+(k:Int)=((n+k:Nat):Int)):=aa (by omega);simp only[hf,if_true] at sv;rw[<-WK.out] at jq;have HTX:Hid (rZ x++x.key++x.val=dI x):=rfl;rw[HTX.out] at sv;clear hf kh q1 q2 hts z1 z2;generalize dI x=tx at *;generalize oe 111 (n+k) tx=en at *;have He:=aa Zg;clear Zg;go_wp2_with (first
     | (go_at_call 249;refine((sv _).out).mono ?_;rintro e w7 ⟨rfl,Af⟩;replace He:=aa (aB He.out (n_ _) Af);clear Af)
     | (go_at_call 250;refine((jq _).out).mono ?_;rintro e w8 ⟨rfl,Jd⟩;replace He:=aa (aB He.out (n_ _) Jd);clear Jd)
     | (at_builtin;(refine oS rfl _ _ 97 rfl w.heap.size 9 i0 _ 1 16 underlying97 Qb Xb Vm Tp hzc (by omega) w8 [.string en] rfl (by simp[U1]) _ k _ (zFj HO.out He.out) rfl rfl (by omega) (by omega) (aB Md.out (n_ _) He.out).size ?_;intro v9 w9 Ei xq;have Kj:=aa Ei;have Rt:=aa (xq w (aB Md.out (n_ _) He.out));clear Ei xq)))
    refine⟨⟨k+1,by omega,by go_num,?_,Km.out,Rt.out⟩,by simp[intOf];omega⟩;rw[tj.out,X1];exact Kj.out
   ·have HF:=aa hf;have Km:=aa (kh.2 hf);simp only[hf,if_false] at sv;have Wd:Hid (pa (aD x)=.iface 77 (.int .i64 (aD x))):=aP hf;rw[Wd.out] at sv;clear hf kh;have He:=aa Zg;clear Zg;go_wp2_with (first
     | (go_at_call 249;refine((sv _).out).mono ?_;rintro e w7 ⟨rfl,Af⟩;replace He:=aa (aB He.out (n_ _) Af);clear Af)
     | fail)
    go_ret2;refine⟨.slice none 0 0,?_,?_⟩
    ·show V1 (T5 #[.slice none 0 0,.iface 77 (.int .i64 (aD x))])=V1 (T5 #[.slice none 0 0,pa (bS l)]);rw[Km.out,Wd.out]
    ·unfold lR;rw[Km.out,if_neg HF.out];exact aB Md.out (n_ _) He.out
  ·have ek:k=l.length:=by omega
   subst ek;have Za:¬(l.length:Int)<(l.length:Int):=by omega
   rw[O1] at ho Df;have JG:=aa Df;have HO:=aa ho;have Md:=aa hb;clear ho hb Df;have WK:Hid ((n:Int)+(l.length:Int)=((n+l.length:Nat):Int)):=aa (by omega);have Kf:=fun w'=>aa (nK l.length (by omega) w');have jq:=fun w'=>aa (zM 99 (n+l.length) (dM l.length) (by decide) (by omega) (by show 4<=90;decide) w');rw[<-WK.out] at jq;have HDS:Hid (cB n l=eJ n l++[oe 99 (n+l.length) (dM l.length)]):=rfl;have Jh:(l.length:Int)<=12:=by omega
   generalize oe 99 (n+l.length) (dM l.length)=en at *;generalize dM l.length=fo at *;have He:=aa (r_ wr.heap.size wr);go_wp2_with (first
    | (go_at_call 245;refine((Kf _).out).mono ?_;rintro e w7 ⟨rfl,Af⟩;replace He:=aa (aB He.out (n_ _) Af);clear Af)
    | (go_at_call 250;refine((jq _).out).mono ?_;rintro e w8 ⟨rfl,Jd⟩;replace He:=aa (aB He.out (n_ _) Jd);clear Jd)
    | (at_builtin;(refine oS rfl _ _ 97 rfl w.heap.size 9 i0 _ 1 16 underlying97 Qb Xb Vm Tp hzc (by omega) w8 [.string en] rfl (by simp[U1]) _ l.length _ (zFj HO.out He.out) rfl rfl (by omega) (by omega) (aB Md.out (n_ _) He.out).size ?_;intro v9 w9 Ei xq;have Kj:=aa Ei;have Rt:=aa (xq w (aB Md.out (n_ _) He.out));clear Ei xq)))
   go_ret2;refine⟨v9,?_,?_⟩
   ·show V1 (T5 #[v9,.nilIface])=V1 (T5 #[v9,pa (bS l)]);rw[JG.out,aR]
   ·unfold lR;rw[JG.out,if_pos rfl];refine⟨?_,Rt.out⟩;rw[HN.out,HDS.out,X1,YY,tO];exact Kj.out
end
end
def xf (K:List BA) (fr many:Nat):List BA:=(K.drop fr).take many
def Ye (K:List BA) (fr many first:Nat) (ds:List (List ma)) (u:Nat):Prop:=dB first 0 (xf K fr many) ([],[]) 0=(ds,u)
theorem sU (first:Nat):∀ (l:List BA) (i:Nat) (st:Sl) (u0:Nat) (ds:List (List ma)) (u:Nat),dB first i l st u0=(ds,u)->(u=u0/\ds=st.1)∨(i<u/\u<=i+l.length/\∀ r,dB first i (l.take (u-i)++r) st u0=dB first u r (ds,[]) u)
 | [],i,st,u0,ds,u,h=>by
  simp only[dB,Prod.mk.injEq] at h;exact .inl ⟨h.2.symm,h.1.symm⟩
 | t::l,i,st,u0,ds,u,h=>by
  cases hd:ae t (first+i) with
  | none=>
   rw[oI hd] at h;simp only[Prod.mk.injEq] at h;exact .inl ⟨h.2.symm,h.1.symm⟩
  | some kd=>
   obtain⟨k,d⟩:=kd
   cases ht:fZ st k d with
   | none=>
    rw[tY hd ht] at h;simp only[Prod.mk.injEq] at h;exact .inl ⟨h.2.symm,h.1.symm⟩
   | some st'=>
    rw[kB hd ht] at h;have hk:=zBA hd;have hs:(k=99->st'.2=[])/\(k=111->st'.1=st.1):=by
     unfold fZ at ht;rcases hk with rfl|rfl
     ·rw[if_pos rfl] at ht;split at ht
      ·simp only[Option.some.injEq] at ht;rw[<-ht];exact⟨fun e=>absurd e (by decide),fun _=>rfl⟩
      ·cases ht
     ·rw[if_neg (by decide)] at ht;split at ht
      ·simp only[Option.some.injEq] at ht;rw[<-ht];exact⟨fun _=>rfl,fun e=>absurd e (by decide)⟩
      ·cases ht
    rcases sU first l (i+1) st' _ ds u h with⟨e1,e2⟩|⟨h1,h2,h3⟩
    ·rcases hk with rfl|rfl
     ·rw[if_neg (by decide)] at e1;exact .inl ⟨e1,by rw[e2,hs.2 rfl]⟩
     ·rw[if_pos rfl] at e1;refine .inr ⟨by omega,by rw[e1,PZ];omega,fun r=>?_⟩;rw[e1,show i+1-i=1 by omega];show dB first i (t::r) st u0=_;rw[kB hd ht,if_pos rfl,e2];have:st'=(st'.1,[]):=by rw[<-hs.1 rfl]
      rw[<-this]
    ·refine .inr ⟨by omega,by rw[PZ];omega,fun r=>?_⟩;rw[show u-i=(u-(i+1))+1 by omega];show dB first i (t::(l.take (u-(i+1))++r)) st u0=_;rw[kB hd ht,h3]
theorem kD (K:List BA) (fr many j:Nat):(xf K fr many)[j]?=if j<many then K[fr+j]? else none:=by
 unfold xf;rw[I2,C4]
theorem xO {fr many:Nat} (h:fr+many<=K.length):(xf K fr many).length=many:=by
 unfold xf;rw[XY,UZ];omega
section
variable {K K':List BA} {fr many first u:Nat} {ds:List (List ma)}
theorem Ye.used (h:Ye K fr many first ds u) (hf:fr+many<=K.length):u<=many:=by
 rcases sU first _ 0 _ 0 ds u h with⟨e,_⟩|⟨_,h2,_⟩
 ·omega
 ·rw[xO hf] at h2;omega
theorem Ye.go (h:Ye K fr many first ds u) (r:List BA):dB first 0 ((xf K fr many).take u++r) ([],[]) 0=dB first u r (ds,[]) u:=by
 rcases sU first _ 0 _ 0 ds u h with⟨e,e2⟩|⟨_,_,h3⟩
 ·rw[e,e2];rfl
 ·exact h3 r
theorem Ye.same (h:Ye K fr many first ds u) (hf:fr+many<=K.length) (ha:∀ j,j<u->K'[fr+j]?=K[fr+j]?):dB first 0 (xf K' fr many) ([],[]) 0=dB first u ((xf K' fr many).drop u) (ds,[]) u:=by
 have hu:=h.used hf;have e:(xf K' fr many).take u=(xf K fr many).take u:=by
  apply B5;intro j;rw[I2,I2];by_cases hj:j<u
  ·rw[if_pos hj,if_pos hj,kD,kD,if_pos (by omega),if_pos (by omega)];exact ha j hj
  ·rw[if_neg hj,if_neg hj]
 have:=h.go ((xf K' fr many).drop u);rw[<-e,J2] at this;exact this
theorem zD5 (i:Nat):bU (bD 96) i=0:=by
 unfold bU;split
 case isFalse=>rfl
 case isTrue h=>
  have:(bD 96)[i]=0:=by
   have hl:i<(WY 96 (0:UInt8)).length:=h;have:(WY 96 (0:UInt8))[i]'hl=0:=List.getElem_replicate hl;exact this
  rw[this];rfl
theorem zCt (n:Nat):ae (bD 96) n=none:=by
 unfold ae;rw[if_neg];rw[zD5];rintro⟨h,_⟩;rcases h with h|h<;>cases h
theorem Ye.Ls (h:Ye K fr many first ds u) (hf:fr+many<=K.length) (ha:∀ j,j<u->K'[fr+j]?=K[fr+j]?) (hz:K'[fr+u]?=some (bD 96)) (hu:u<many):Ye K' fr many first ds u:=by
 unfold Ye;rw[h.same hf ha];have hg:(xf K' fr many)[u]?=some (bD 96):=by rw[kD,if_pos hu];exact hz
 obtain⟨hl,he⟩:=Z0.1 hg;rw[Q2 hl,he,oI (zCt _)]
end
theorem zQ {t:BA} {x:UInt8} (h:t.data.toList[i]?=some x):bU t i=x.toNat:=by
 obtain⟨hl,he⟩:=Z0.1 h;have oz:i<t.size:=by rw[Array.length_toList] at hl;exact hl
 unfold bU;rw[dif_pos oz];congr 1
theorem zFr (k n:Nat) (d:BA) (hk:k=111∨k=99) (hd:d.size<=90):ae (aH (oe k n d)) n=some (k,d):=by
 have lf:k<256:=by rcases hk with rfl|rfl<;>decide
 have Jo:(aH (oe k n d)).data.toList=UInt8.ofNat k::(rW n++(UInt8.ofNat d.size::(d.data.toList++WY (96-(oe k n d).size) 0))):=by
  unfold aH oe dM;simp[L1]
 have b0:bU (aH (oe k n d)) 0=k:=by
  rw[zQ (x:=UInt8.ofNat k) (by rw[Jo];rfl),UInt8.toNat_ofNat'];exact Nat.mod_eq_of_lt lf
 have b5:bU (aH (oe k n d)) 5=d.size:=by
  rw[zQ (x:=UInt8.ofNat d.size) (by rw[Jo];rfl),UInt8.toNat_ofNat'];exact Nat.mod_eq_of_lt (by omega)
 have ex:∀ i j,((aH (oe k n d)).extract i j).toList=((aH (oe k n d)).data.toList.take j).drop i:=fun i j=>by
  rw[N6,N7,Array.toList_extract,List.extract_eq_take_drop,List.take_drop];by_cases h:i<=j
  ·rw[show i+(j-i)=j by omega]
  ·rw[M0 (by rw[XY];omega),M0 (by rw[XY];omega)]
 have e1:((aH (oe k n d)).extract 1 5).toList=(dM n).toList:=by
  rw[ex,Jo,N6];rfl
 have zg:d.data.toList.length=d.size:=by rw[Array.length_toList];rfl
 have e2:(aH (oe k n d)).extract 6 (6+d.size)=d:=by
  apply gV;rw[ex,Jo,N6];show((UInt8.ofNat k::UInt8.ofNat n::UInt8.ofNat (n / 256)::UInt8.ofNat (n / 65536)::UInt8.ofNat (n / 16777216)::UInt8.ofNat d.size::(d.data.toList++WY (96-(oe k n d).size) 0)).take (6+d.size)).drop 6=_;rw[show 6+d.size=d.size+6 by omega];simp only[List.take_succ_cons,List.drop_succ_cons,List.drop_zero];rw[List.take_append_of_le_length (by omega),List.take_of_length_le (by omega)]
 unfold ae;rw[b0,b5,e1,e2,if_pos ⟨hk,by simp,hd⟩]
theorem zIH (st:Sl):fZ st 99 (dM st.2.length)=some (st.1++[st.2],[]):=by
 unfold fZ;rw[if_neg (by decide),if_pos (by simp)]
theorem zIv (st:Sl) (c:ma) (hf:aD c=0):fZ st 111 (dI c)=some (st.1,st.2++[c]):=by
 unfold fZ;obtain⟨h1,h2⟩:=zIk c hf;rw[if_pos rfl,if_pos h1,h2]
theorem zAc {c:ma} (h:bS (c::l)=0):aD c=0/\bS l=0:=by
 have h':(if aD c=0 then bS l else aD c)=0:=h;by_cases e:aD c=0
 ·rw[if_pos e] at h';exact⟨e,h'⟩
 ·rw[if_neg e] at h';exact absurd h' e
theorem uS (first:Nat):∀ (l:List ma) (i:Nat) (st:Sl) (u:Nat) (r:List BA),bS l=0->dB first i ((eJ (first+i) l).map aH++r) st u=dB first (i+l.length) r (st.1,st.2++l) u
 | [],i,st,u,r,_=>by simp[eJ]
 | c::l,i,st,u,r,h=>by
  obtain⟨h1,h2⟩:=zAc h;obtain⟨q1,q2⟩:=iS h1;have hd:=zFr 111 (first+i) (dI c) (.inl rfl) (by rw[nZ];omega);show dB first i (aH (oe 111 (first+i) (dI c))::((eJ (first+(i+1)) l).map aH++r)) st u=_;rw[kB hd (zIv st c h1),if_neg (by decide),uS first l (i+1) _ u r h2];rw[show i+1+l.length=i+(c::l).length by rw[PZ];omega,M5];rfl
theorem zIR (first:Nat) (l:List ma) (i:Nat) (ds:List (List ma)) (u:Nat) (r:List BA) (h:bS l=0):dB first i ((cB (first+i) l).map aH++r) (ds,[]) u=dB first (i+l.length+1) r (ds++[l],[]) (i+l.length+1):=by
 unfold cB;rw[X1,M5,uS first l i _ u _ h,X3];have hd:=zFr 99 (first+i+l.length) (dM l.length) (.inr rfl) (by show 4<=90;decide);show dB first (i+l.length) (aH (oe 99 (first+i+l.length) (dM l.length))::r) (ds,l) u=_;rw[U6 first i] at hd ⊢;rw[kB hd (zIH (ds,l)),if_pos rfl]
section
variable {K K':List BA} {fr many first u:Nat} {ds:List (List ma)}
theorem Ye.ed (h:Ye K fr many first ds u) (hf:fr+many<=K.length) (hK:K'.length=K.length) (ha:∀ j,j<u->K'[fr+j]?=K[fr+j]?) (l:List ma) (hl:bS l=0) (Rf:u+l.length+1<=many)
  (hs:∀ j (hj:j<(cB (first+u) l).length),K'[fr+u+j]?=some (aH (cB (first+u) l)[j])) (hz:u+l.length+1<many->K'[fr+u+l.length+1]?=some (bD 96)):Ye K' fr many first (ds++[l]) (u+l.length+1):=by
 unfold Ye;rw[h.same hf ha];have zg:=nB (first+u) l;have Yn:(xf K' fr many).length=many:=xO (by omega);have e:(xf K' fr many).drop u=(cB (first+u) l).map aH++(xf K' fr many).drop (u+l.length+1):=by
  apply B5;intro j;rw[C4];by_cases hj:j<(cB (first+u) l).length
  ·rw[List.getElem?_append_left (by rw[RZ];exact hj),List.getElem?_map,VY hj,kD,if_pos (by omega),<-U6,hs j hj];rfl
  ·rw[List.getElem?_append_right (by rw[RZ];omega),RZ,zg,C4];congr 1;omega
 rw[e,zIR first l u ds u _ hl];by_cases hm:u+l.length+1<many
 ·have hg:(xf K' fr many)[u+l.length+1]?=some (bD 96):=by rw[kD,if_pos hm,show fr+(u+l.length+1)=fr+u+l.length+1 by omega];exact hz hm
  obtain⟨Up,he⟩:=Z0.1 hg;rw[Q2 Up,he,oI (zCt _)]
 ·rw[M0 (by omega)];rfl
end
def fX (s:Bb) (K:List BA):Prop:=∃ k:Int,K=fJ k 0 s.wait s.kept
theorem zHc (s:Bb):fX (bR s)=fX s:=by
 have h:=eH s;unfold fX;rw[h.2.1,h.2.2]
theorem mW (hw:s.wait=[]) (h:fX s K):K=s.kept:=by
 obtain⟨k,rfl⟩:=h;rw[hw];rfl
theorem zGu {d:BA} (h:fX (sG s a d) K):∃ K0,fX s K0/\(K=K0∨K=K0.set a d):=by
 obtain⟨k,rfl⟩:=h;refine⟨fJ k 0 s.wait s.kept,⟨k,rfl⟩,?_⟩;have e:fJ k 0 (sG s a d).wait (sG s a d).kept=if pA k ((0+s.wait.length) % 64) then (fJ k 0 s.wait s.kept).set a d else fJ k 0 s.wait s.kept:=zH k s.wait (a,d) 0 s.kept;rw[e];by_cases h:pA k ((0+s.wait.length) % 64)=true
 ·rw[if_pos h];exact .inr rfl
 ·rw[if_neg h];exact .inl rfl
structure Pt (s s':Bb) (f:Nat):Prop where
 f10:f=10
 down:s'.down=true
 aft:fX s'=fX s
 now:s'.now=s.now
theorem zAb (s:Bb) (hd:s.down=false):(cD s=0/\(bR s).down=false)∨Pt s (bR s) (cD s):=by
 unfold cD bR;rw[hd];by_cases h:s.left=0
 ·exact .inr ⟨by simp[h],by simp[h],by simp[h];rfl,by simp[h]⟩
 ·refine .inl ⟨by simp[h],?_⟩;simp[h]
theorem zEQ (s:Bb) (hd:s.down=false) (a:Nat) (d:BA) (ha:a<s.now.length) (hs:d.size<=96):(Bg (some (a,d)) s=0/\(ye (some (a,d)) s).down=false/\(ye (some (a,d)) s).now=s.now.set a (aH d)/\(ye (some (a,d)) s).kept=s.kept/\∀ K,fX (ye (some (a,d)) s) K->∃ K0,fX s K0/\(K=K0∨K=K0.set a (aH d)))∨Pt s (ye (some (a,d)) s) (Bg (some (a,d)) s):=by
 have hb:¬((a:Int)<0∨(s.now.length:Int)<=(a:Int)∨96<d.size):=by omega
 have eF:Bg (some (a,d)) s=cD s:=by show dO s a d=_;unfold dO;rw[if_neg hb]
 have h3:=eH s;rcases zAb s hd with⟨h1,h2⟩|h
 ·have eD:ye (some (a,d)) s=sG (bR s) a (aH d):=by show cV s a d=_;unfold cV;rw[if_neg hb,if_pos h1,Int.toNat_natCast]
  rw[eF,eD];refine .inl ⟨h1,h2,?_,?_,fun K hK=>?_⟩
  ·show(bR s).now.set _ _=_;rw[h3.1]
  ·show(bR s).kept=_;rw[h3.2.1]
  ·obtain⟨K0,q1,q2⟩:=zGu hK;rw[zHc] at q1;exact⟨K0,q1,q2⟩
 ·have eD:ye (some (a,d)) s=bR s:=by show cV s a d=_;unfold cV;rw[if_neg hb,if_neg (by rw[h.f10];decide)]
  rw[eF,eD];exact .inr h
theorem zEc (s:Bb) (hd:s.down=false):(Bg none s=0/\(ye none s).down=false/\(ye none s).now=s.now/\(ye none s).kept=s.now/\(ye none s).wait=[])∨Pt s (ye none s) (Bg none s):=by
 rcases zAb s hd with⟨h1,h2⟩|h
 ·have eD:ye none s={ bR s with kept:=s.now,wait:=[] }:=by show bZ s=_;unfold bZ;rw[if_pos h1]
  rw[eD];exact .inl ⟨h1,h2,(eH s).1,rfl,rfl⟩
 ·have eD:ye none s=bR s:=by show bZ s=_;unfold bZ;rw[if_neg (by rw[h.f10];decide)]
  rw[eD];exact .inr h
structure Lf (r:Nat×Bb) (P:Bb->Prop) (X:List BA->Prop):Prop where
 Ak:r.1=0->P r.2
 bad:r.1≠0->r.1=10/\r.2.down=true/\∀ K,fX r.2 K->X K
theorem Lf.Xo {s':Bb} {f:Nat} (h:Pt s s' f) (hX:∀ K,fX s K->X K):Lf (f,s') P X:=
 ⟨fun e=>absurd (h.f10.symm.trans e) (by decide),fun _=>⟨h.f10,h.down,fun K hK=>hX K (by rw[<-h.aft];exact hK)⟩⟩
theorem Lf.bind {a b:List Uj} (h:Lf (Ea a s) P X) (h2:∀ s',P s'->Lf (Ea b s') Q X):Lf (Ea (a++b) s) Q X:=by
 rw[gE];by_cases e:(Ea a s).1=0
 ·rw[if_pos e];exact h2 _ (h.Ak e)
 ·rw[if_neg e];exact⟨fun e2=>absurd e2 e,h.bad⟩
theorem Lf.mono {r:Nat×Bb} {Y:List BA->Prop} (h:Lf r P X) (h1:∀ s,P s->Q s) (h2:∀ K,X K->Y K):Lf r Q Y:=
 ⟨fun e=>h1 _ (h.Ak e),fun e=>⟨(h.bad e).1,(h.bad e).2.1,fun K hK=>h2 K ((h.bad e).2.2 K hK)⟩⟩
theorem Lf.writes (X:List BA->Prop) (n:Nat):∀ (l:List (Nat×BA)) (s:Bb),s.down=false->s.now.length=n->(∀ K,fX s K->X K)->(∀ x∈l,x.1<n/\x.2.size<=96/\∀ K,X K->X (K.set x.1 (aH x.2)))->
  Lf (Ea (l.map fun x=>some (x.1,x.2)) s) (fun s'=>s'.down=false/\s'.now=l.foldl (fun N x=>N.set x.1 (aH x.2)) s.now/\∀ K,fX s' K->X K) X
 | [],s,hd,_,hX,_=>⟨fun _=>⟨hd,rfl,hX⟩,fun e=>absurd rfl e⟩
 | x::l,s,hd,hn,hX,hl=>by
  obtain⟨h1,h2,h3⟩:=hl x (Y0 ..);show Lf (if Bg (some (x.1,x.2)) s=0 then Ea (l.map fun x=>some (x.1,x.2)) (ye (some (x.1,x.2)) s) else (Bg (some (x.1,x.2)) s,ye (some (x.1,x.2)) s)) _ _;rcases zEQ s hd x.1 x.2 (by omega) h2 with⟨q1,q2,q3,_,q5⟩|h
  ·rw[if_pos q1];have:=Lf.writes X n l (ye (some (x.1,x.2)) s) q2 (by rw[q3,NZ];exact hn) (fun K hK=>by
    obtain⟨K0,a,b⟩:=q5 K hK;rcases b with rfl|rfl
    ·exact hX _ a
    ·exact h3 _ (hX _ a)) (fun y hy=>hl y (D1 _ hy))
   rw[q3] at this;exact this
  ·rw[if_neg (by rw[h.f10];decide)];exact .Xo h hX
theorem Lf.flush (X:List BA->Prop) (s:Bb) (hd:s.down=false) (hX:∀ K,fX s K->X K):Lf (Ea [none] s) (fun s'=>s'.down=false/\s'.now=s.now/\s'.kept=s.now/\s'.wait=[]) X:=by
 rw[jC];rcases zEc s hd with⟨q1,q2⟩|h
 ·exact⟨fun _=>q2,fun e=>absurd q1 e⟩
 ·exact .Xo h hX
theorem yB:∀ (l:List BA) (a:Nat),aL a l=(l.zipIdx a).map fun x=>some (x.2,x.1)
 | [],_=>rfl
 | t::l,a=>by
  show some (a,t)::aL (a+1) l=_;rw[yB l (a+1),L8];rfl
theorem zDt (l:List (Nat×BA)) (j:Nat):∀ (N:List BA),(∀ x∈l,x.1≠j)->(l.foldl (fun N x=>N.set x.1 (aH x.2)) N)[j]?=N[j]?:=by
 induction l with
 | nil=>intro N _;rfl
 | cons x l ih=>
  intro N h;show(l.foldl _ (N.set x.1 (aH x.2)))[j]?=_;rw[ih _ fun y hy=>h y (D1 _ hy),SZ (h x (Y0 ..))]
theorem uC (l:List (Nat×BA)):∀ (N:List BA),(l.foldl (fun N x=>N.set x.1 (aH x.2)) N).length=N.length:=by
 induction l with
 | nil=>intro N;rfl
 | cons x l ih=>intro N;show(l.foldl _ (N.set x.1 (aH x.2))).length=_;rw[ih,NZ]
theorem xX:∀ (l:List BA) (a:Nat) (N:List BA) (j:Nat) (h:j<l.length),a+l.length<=N.length->((l.zipIdx a).foldl (fun N x=>N.set x.2 (aH x.1)) N)[a+j]?=some (aH l[j])
 | t::l,a,N,j,h,hN=>by
  rw[PZ] at hN;rw[L8,List.foldl_cons]
  cases j with
  | zero=>
   have e:∀ (m:List BA) (b:Nat) (M:List BA),a<b->((m.zipIdx b).foldl (fun N x=>N.set x.2 (aH x.1)) M)[a]?=M[a]?:=fun m=>by
    induction m with
    | nil=>intro b M _;rfl
    | cons y m ih=>
     intro b M hb;rw[L8,List.foldl_cons,ih _ _ (by omega),SZ (by omega)]
   show(List.foldl _ (N.set a (aH t)) _)[a]?=_;rw[e l (a+1) _ (by omega),B3 (by omega)];rfl
  | succ j=>
   have:=xX l (a+1) (N.set a (aH t)) j (by simpa using h) (by rw[NZ];omega);rw[show a+1+j=a+(j+1) by omega] at this;exact this
structure nM (N K:List BA) (fr many first a:Nat) (ds:List (List ma)) (u:Nat):Prop where
 len:K.length=N.length
 out:∀ j,j<a∨fr+many<=j->K[j]?=N[j]?
 has:Ye K fr many first ds u
theorem zCW (k n:Nat) (d:BA):(oe k n d).size=6+d.size:=by
 unfold oe;rw[I1,I1,I1];show 1+4+1+d.size=_;omega
theorem zBM (h:bS l=0):∀ t∈cB n l,t.size<=96:=by
 intro t ht;unfold cB at ht;rcases List.mem_append.1 ht with ht|ht
 ·have:∀ (l:List ma) (n:Nat),bS l=0->∀ t∈eJ n l,t.size<=96:=fun l=>by
   induction l with
   | nil=>intro n _ t ht;exact absurd ht X0
   | cons c l ih=>
    intro n h t ht;obtain⟨h1,h2⟩:=zAc h;obtain⟨q1,q2⟩:=iS h1;rcases L2.1 ht with rfl|ht
    ·rw[zCW,nZ];omega
    ·exact ih _ h2 t ht
  exact this l n h t ht
 ·rw[GZ] at ht;rw[ht,zCW];show 6+4<=96;decide
section
variable {s:Bb} {fr many first u:Nat} {ds:List (List ma)} {l:List ma}
theorem zMJ (hd:s.down=false) (hw:s.wait=[]) (hk:s.kept=s.now) (Rf:fr+many<=s.now.length) (h:Ye s.now fr many first ds u) (hl:bS l=0) (Oc:u+l.length+1<=many):
  Lf (Ea (iP (fr+u) (cB (first+u) l) (many-u)) s) (fun s'=>s'.down=false/\s'.wait=[]/\s'.kept=s'.now/\nM s.now s'.now fr many first (fr+u) (ds++[l]) (u+l.length+1))
   (fun K=>nM s.now K fr many first (fr+u) ds u∨nM s.now K fr many first (fr+u) (ds++[l]) (u+l.length+1)):=by
 have Mb:=zBM (n:=first+u) hl;have zg:=nB (first+u) l;generalize hS:cB (first+u) l=qa at *;generalize hN:s.now=N at *;obtain⟨t0,tl,bo⟩:∃ t0 tl,qa=t0::tl:=by
  cases qa with
  | nil=>simp at zg
  | cons t0 tl=>exact⟨t0,tl,rfl⟩
 have htl:tl.length=l.length:=by rw[bo] at zg;simpa using zg
 have JP:iP (fr+u) qa (many-u)=[some (fr+u,bF)]++([none]++(aL (fr+u+1) tl++((if qa.length=many-u then [] else [some (fr+u+qa.length,bF)])++([none]++([some (fr+u,t0)]++([none]++[])))))):=by
  rw[bo];rfl
 rw[JP];have YB:fr+u<N.length:=by omega
 have g0:∀ K,(K=N∨K=N.set (fr+u) (bD 96))->nM N K fr many first (fr+u) ds u:=fun K hK=>by
  rcases hK with rfl|rfl
  ·exact⟨rfl,fun _ _=>rfl,h⟩
  ·exact⟨NZ ..,fun j hj=>SZ (by omega),h.Ls Rf (fun j hj=>SZ (by omega)) (B3 YB) (by omega)⟩
 have r1:=Lf.writes (fun K=>K=N∨K=N.set (fr+u) (bD 96)) N.length [(fr+u,bF)] s hd (by rw[hN]) (fun K hK=>.inl (by rw[mW hw hK,hk])) (fun x hx=>by
  rw[GZ] at hx;subst hx;refine⟨YB,by show bF.size<=96;decide,fun K hK=>?_⟩;rcases hK with rfl|rfl
  ·exact .inr rfl
  ·refine .inr ?_;show(N.set (fr+u) (bD 96)).set (fr+u) (bD 96)=_;rw[List.set_set])
 refine Lf.bind (r1.mono (fun _ h=>h) (fun K hK=>.inl (g0 K hK))) fun s1 ⟨d1,n1,x1⟩=>?_;have n1':s1.now=N.set (fr+u) (bD 96):=by rw[n1,hN];rfl
 refine Lf.bind ((Lf.flush _ s1 d1 x1).mono (fun _ h=>h) (fun K hK=>.inl (g0 K hK))) fun s2 ⟨d2,n2,k2,w2⟩=>?_;rw[n1'] at n2 k2;have wu:∀ K:List BA,(K.length=N.length/\(∀ j,j<fr+u∨fr+many<=j->K[j]?=N[j]?)/\K[fr+u]?=some (bD 96))->nM N K fr many first (fr+u) ds u:=fun K ⟨q1,q2,q3⟩=>⟨q1,q2,h.Ls Rf (fun j hj=>q2 _ (by omega)) q3 (by omega)⟩;have tg:∀ (a:Nat) (d:BA) (K:List BA),fr+u<a->a<fr+many->(K.length=N.length/\(∀ j,j<fr+u∨fr+many<=j->K[j]?=N[j]?)/\K[fr+u]?=some (bD 96))->((K.set a (aH d)).length=N.length/\(∀ j,j<fr+u∨fr+many<=j->(K.set a (aH d))[j]?=N[j]?)/\(K.set a (aH d))[fr+u]?=some (bD 96)):=fun a d K h1 h2 ⟨q1,q2,q3⟩=>
  ⟨by rw[NZ];exact q1,fun j hj=>by rw[SZ (by omega)];exact q2 j hj,by rw[SZ (by omega)];exact q3⟩
 have Qe:(N.set (fr+u) (bD 96)).length=N.length/\(∀ j,j<fr+u∨fr+many<=j->(N.set (fr+u) (bD 96))[j]?=N[j]?)/\(N.set (fr+u) (bD 96))[fr+u]?=some (bD 96):=
  ⟨NZ ..,fun j hj=>SZ (by omega),B3 YB⟩
 have rr:aL (fr+u+1) tl=((tl.zipIdx (fr+u+1)).map fun x=>(x.2,x.1)).map fun x=>some (x.1,x.2):=by rw[yB,List.map_map];rfl
 rw[rr];have r3:=Lf.writes (fun K=>K.length=N.length/\(∀ j,j<fr+u∨fr+many<=j->K[j]?=N[j]?)/\K[fr+u]?=some (bD 96)) N.length ((tl.zipIdx (fr+u+1)).map fun x=>(x.2,x.1)) s2 d2 (by rw[n2,NZ]) (fun K hK=>by rw[mW w2 hK,k2];exact Qe) (fun x hx=>by
  obtain⟨y,hy,rfl⟩:=Z2.1 hx;have It:=List.mem_zipIdx hy;refine⟨by show y.2<_;omega,Mb _ ?_,fun K hK=>tg _ _ K (by show _<y.2;omega) (by show y.2<_;omega) hK⟩;rw[bo];have:=It.2.2;show y.1∈t0::tl;rw[this];exact D1 _ (MZ _))
 refine Lf.bind (r3.mono (fun _ h=>h) (fun K hK=>.inl (wu K hK))) fun s3 ⟨d3,n3,x3⟩=>?_;rw[n2,C9] at n3;have sw:s3.now.length=N.length:=by
  rw[n3];have:=uC ((tl.zipIdx (fr+u+1)).map fun x=>(x.2,x.1)) (N.set (fr+u) (bD 96));rw[C9,NZ] at this;exact this
 have tw:∀ j,j<=fr+u∨fr+u+1+tl.length<=j->s3.now[j]?=(N.set (fr+u) (bD 96))[j]?:=fun j hj=>by
  rw[n3];have:=zDt ((tl.zipIdx (fr+u+1)).map fun x=>(x.2,x.1)) j (N.set (fr+u) (bD 96)) (fun x hx=>by
   obtain⟨y,hy,rfl⟩:=Z2.1 hx;have It:=List.mem_zipIdx hy;show y.2≠j;omega)
  rw[C9] at this;exact this
 have NF:∀ j (hj:j<tl.length),s3.now[fr+u+1+j]?=some (aH tl[j]):=fun j hj=>by
  rw[n3];exact xX tl (fr+u+1) _ j hj (by rw[NZ];omega)
 have r4:Lf (Ea (if qa.length=many-u then [] else [some (fr+u+qa.length,bF)]) s3) (fun s'=>s'.down=false/\s'.now=(if qa.length=many-u then s3.now else s3.now.set (fr+u+qa.length) (bD 96))/\∀ K,fX s' K->(K.length=N.length/\(∀ j,j<fr+u∨fr+many<=j->K[j]?=N[j]?)/\K[fr+u]?=some (bD 96))) (fun K=>K.length=N.length/\(∀ j,j<fr+u∨fr+many<=j->K[j]?=N[j]?)/\K[fr+u]?=some (bD 96)):=by
  by_cases hc:qa.length=many-u
  ·rw[if_pos hc,if_pos hc];exact⟨fun _=>⟨d3,rfl,x3⟩,fun e=>absurd rfl e⟩
  ·rw[if_neg hc,if_neg hc];refine(Lf.writes _ N.length [(fr+u+qa.length,bF)] s3 d3 sw x3 (fun x hx=>?_)).mono (fun s' h=>h) (fun K hK=>hK);rw[GZ] at hx;subst hx;exact⟨by show fr+u+qa.length<_;omega,by show bF.size<=96;decide,fun K hK=>tg _ _ K (by omega) (by omega) hK⟩
 refine Lf.bind (r4.mono (fun _ h=>h) (fun K hK=>.inl (wu K hK))) fun s4 ⟨d4,n4,x4⟩=>?_;refine Lf.bind ((Lf.flush _ s4 d4 x4).mono (fun _ h=>h) (fun K hK=>.inl (wu K hK))) fun s5 ⟨d5,n5,k5,w5⟩=>?_;have Wo:s4.now.length=N.length:=by rw[n4];split<;>simp[sw]
 have Js:∀ j,j<fr+u∨fr+many<=j->s4.now[j]?=N[j]?:=fun j hj=>by
  rw[n4];have e:s3.now[j]?=N[j]?:=by rw[tw j (by omega),SZ (by omega)]
  split
  ·exact e
  ·rw[SZ (by omega)];exact e
 have n4z:s4.now[fr+u]?=some (bD 96):=by
  rw[n4];have e:s3.now[fr+u]?=some (bD 96):=by rw[tw _ (by omega),B3 YB]
  split
  ·exact e
  ·rw[SZ (by omega)];exact e
 have YQ:∀ j (hj:j<tl.length),s4.now[fr+u+1+j]?=some (aH tl[j]):=fun j hj=>by
  rw[n4];split
  ·exact NF j hj
  ·rw[SZ (by omega)];exact NF j hj
 have n4e:qa.length<many-u->s4.now[fr+u+qa.length]?=some (bD 96):=fun hc=>by
  rw[n4,if_neg (by omega),B3 (by omega)]
 have WC:nM N (s4.now.set (fr+u) (aH t0)) fr many first (fr+u) (ds++[l]) (u+l.length+1):=by
  refine⟨by rw[NZ,Wo],fun j hj=>by rw[SZ (by omega)];exact Js j hj,h.ed Rf (by rw[NZ,Wo]) (fun j hj=>by rw[SZ (by omega)];exact Js _ (by omega)) l hl Oc ?_ (fun hm=>?_)⟩
  ·rw[hS];intro j hj;subst bo
   cases j with
   | zero=>rw[V8,B3 (by omega)];rfl
   | succ j=>
    have Td:j<tl.length:=by simpa using hj
    rw[SZ (by omega),show fr+u+(j+1)=fr+u+1+j by omega,YQ j Td];rfl
  ·rw[SZ (by omega),show fr+u+l.length+1=fr+u+qa.length by omega];exact n4e (by omega)
 have g5:∀ K,(K=s4.now∨K=s4.now.set (fr+u) (aH t0))->(nM N K fr many first (fr+u) ds u∨nM N K fr many first (fr+u) (ds++[l]) (u+l.length+1)):=fun K hK=>by
  rcases hK with rfl|rfl
  ·exact .inl (wu _ ⟨Wo,Js,n4z⟩)
  ·exact .inr WC
 have r6:=Lf.writes (fun K=>K=s4.now∨K=s4.now.set (fr+u) (aH t0)) N.length [(fr+u,t0)] s5 d5 (by rw[n5,Wo]) (fun K hK=>.inl (by rw[mW w5 hK,k5])) (fun x hx=>by
  rw[GZ] at hx;subst hx;refine⟨YB,Mb _ (by rw[bo];exact Y0 ..),fun K hK=>?_⟩;rcases hK with rfl|rfl
  ·exact .inr rfl
  ·refine .inr ?_;show(s4.now.set (fr+u) (aH t0)).set (fr+u) (aH t0)=_;rw[List.set_set])
 refine Lf.bind (r6.mono (fun _ h=>h) g5) fun s6 ⟨d6,n6,x6⟩=>?_;have n6':s6.now=s4.now.set (fr+u) (aH t0):=by rw[n6,n5];rfl
 refine Lf.bind ((Lf.flush _ s6 d6 x6).mono (fun _ h=>h) g5) fun s7 ⟨d7,n7,k7,w7⟩=>?_;refine⟨fun _=>⟨d7,w7,by show s7.kept=s7.now;rw[k7,n7],?_⟩,fun e=>absurd rfl e⟩;show nM N s7.now _ _ _ _ _ _;rw[n7,n6'];exact WC
end
section
open Go.RowKit Go.Joins
attribute [local go_sem ↓] Go.wp_at_zero Go.wp_at_succ
structure Ke (w:World) (B lb db:Nat) (S:Nat->Prop) (fr many first used sb cap:Nat) (qa:List ByteArray) (s:Bb):Prop where
 dk:DK w B db S s
 hd:Ol w lb db fr many first used
 nl:¬S lb
 ce:∀ i (h:i<qa.length),w.cell? ⟨sb,i,none⟩=some (.string qa[i])
 ns:¬S sb
 pos:0<qa.length
 fit:used+qa.length<=many/\fr+many<=s.now.length
section
variable {w w':World} {B lb db:Nat} {S:Nat->Prop} {fr many first used sb cap:Nat} {qa:List ByteArray} {s s':Bb}
theorem Ke.lt (h:Ke w B lb db S fr many first used sb cap qa s):sb<w.heap.size:=AZ _ _ (h.ce 0 h.pos)
theorem Ke.on (h:Ke w B lb db S fr many first used sb cap qa s) (hb:Below w.heap.size w w'):Ke w' B lb db S fr many first used sb cap qa s:=
 ⟨h.dk.on hb,h.hd.kept (hb.block lb h.hd.lt),h.nl,fun i hi=>aA hb (h.ce i hi),h.ns,h.pos,h.fit⟩
theorem Ke.step {S':Nat->Prop} (h:Ke w B lb db S fr many first used sb cap qa s) (hk:DK w' B db S' s') (hs:aG w w' B S S') (hl:s'.now.length=s.now.length):Ke w' B lb db S' fr many first used sb cap qa s':=
 have f1:=hs.Ma lb h.hd.lt h.nl;have f2:=hs.Ma sb h.lt h.ns
 ⟨hk,h.hd.kept f1.1,f1.2,fun i hi=>(b_ (a:=⟨sb,i,none⟩) f2.1).trans (h.ce i hi),f2.2,h.pos,by rw[hl];exact h.fit⟩
theorem pD (i:Nat) (d:ByteArray) (w:World) (h:Ke w B lb db S fr many first used sb cap qa s) (hi:i<=many):
  Calls p_ 280 #[.agg #[.pointer (some ⟨lb,0,none⟩),.slice (some ⟨sb,0,none⟩) qa.length cap],.int .i64 (i:Int),.string d] w fun e w'=>e=.returned (pa (Bg (some (fr+used+i,d)) s))/\Xa w w' B db S (ye (some (fr+used+i,d)) s):=by
 have Pg:=h.dk.many;have Rf:=h.fit;have HB:=aa (a_ w (QX (some ⟨lb,0,none⟩) (some ⟨sb,0,none⟩) qa.length cap));have H2:=aa (h.on HB.out);have c0:=H2.out.hd.c0;have c1:=H2.out.hd.c1;have c4:=H2.out.hd.c4;have a0:(w.alloc (QX (some ⟨lb,0,none⟩) (some ⟨sb,0,none⟩) qa.length cap)).cell? ⟨w.heap.size,0,none⟩=some (.pointer (some ⟨lb,0,none⟩)):=aC _ _ _ 0;have Od:Hid (¬S w.heap.size):=fun e=>by have:=h.dk.lt e;omega
 have Ce:Hid (aG w (w.alloc (QX (some ⟨lb,0,none⟩) (some ⟨sb,0,none⟩) qa.length cap)) B S S):=.on h.dk.lo HB.out;clear h;generalize hW:w.alloc (QX (some ⟨lb,0,none⟩) (some ⟨sb,0,none⟩) qa.length cap)=W at *;have Uy:=aa (sH ((fr:Int)+(used:Int)+(i:Int)) d W.drew (H2.out.dk.on (r_ _ W).drew));have e:(fr:Int)+(used:Int)+(i:Int)=((fr+used+i:Nat):Int):=by omega
 have HE:Hid (Bg (some (fr+used+i,d)) s=dO s ((fr:Int)+(used:Int)+(i:Int)) d/\ye (some (fr+used+i,d)) s=cV s ((fr:Int)+(used:Int)+(i:Int)) d):=by rw[e];exact⟨rfl,rfl⟩
 rw[HE.out.1,HE.out.2];generalize dO s ((fr:Int)+(used:Int)+(i:Int)) d=ff at *;generalize cV s ((fr:Int)+(used:Int)+(i:Int)) d=s2 at *;have k1:G0.wrap ((fr:Int)+(used:Int))=(fr:Int)+(used:Int):=by rw[YZ];omega
 have k2:G0.wrap ((fr:Int)+(used:Int)+(i:Int))=(fr:Int)+(used:Int)+(i:Int):=by rw[YZ];omega
 clear HE e HB;go_enter func280,ntmps280;go_wp2
 go_region_held3 (fun w'=>w'.cell? ⟨w.heap.size,0,none⟩=some (.pointer (some ⟨lb,0,none⟩))/\w'.cell? ⟨lb,0,none⟩=some (.pointer (some ⟨db,0,none⟩))/\w'.cell? ⟨lb,1,none⟩=some (.int .i64 (fr:Int))/\w'.cell? ⟨lb,4,none⟩=some (.int .i64 (used:Int))) (first|exact⟨a0,c0,c1,c4⟩|exact Sh.out)
  ((go_at_call 151;refine Uy.out.mono ?_;rintro e w7 ⟨rfl,Cd⟩;obtain⟨S7,Ck,Ag⟩:=Cd;have f1:=(Ag.Ma lb H2.out.hd.lt H2.out.nl).1;have f2:=(Ag.Ma w.heap.size (AZ _ _ a0) Od.out).1;have Sh:Hid (w7.cell? ⟨w.heap.size,0,none⟩=some (.pointer (some ⟨lb,0,none⟩))/\w7.cell? ⟨lb,0,none⟩=some (.pointer (some ⟨db,0,none⟩))/\w7.cell? ⟨lb,1,none⟩=some (.int .i64 (fr:Int))/\w7.cell? ⟨lb,4,none⟩=some (.int .i64 (used:Int))):=⟨(b_ (a:=⟨w.heap.size,0,none⟩) f2).trans a0,(b_ (a:=⟨lb,0,none⟩) f1).trans c0,(b_ (a:=⟨lb,1,none⟩) f1).trans c1,(b_ (a:=⟨lb,4,none⟩) f1).trans c4⟩;have Of:Hid (Xa W.drew w7 B db S s2):=⟨S7,Ck,Ag⟩;clear Ck Ag f1 f2))
 go_wp2;go_ret;exact⟨rfl,Xa.after Ce.out (Xa.after (.on H2.out.dk.lo (r_ _ W).drew) Of.out)⟩
end
section
variable {w w':World} {B lb db:Nat} {S:Nat->Prop} {fr many first used sb cap:Nat} {qa:List ByteArray} {s s':Bb}
theorem Ke.box (h:Ke w B lb db S fr many first used sb cap qa s):Ke (w.alloc (QX (some ⟨lb,0,none⟩) (some ⟨sb,0,none⟩) qa.length cap)) B lb db S fr many first used sb cap qa s/\aG w (w.alloc (QX (some ⟨lb,0,none⟩) (some ⟨sb,0,none⟩) qa.length cap)) B S S/\¬S w.heap.size:=
 ⟨h.on (a_ _ _),.on h.dk.lo (a_ _ _),fun e=>by have:=h.dk.lt e;omega⟩
theorem zKH (w:World) (h:Ke w B lb db S fr many first used sb cap qa s):
  Calls p_ 251 #[.agg #[.pointer (some ⟨lb,0,none⟩),.slice (some ⟨sb,0,none⟩) qa.length cap]] w fun e w'=>e=.returned (pa (Ea [some (fr+used,bF)] s).1)/\Xa w w' B db S (Ea [some (fr+used,bF)] s).2:=by
 obtain⟨h2,Zb,_⟩:=h.box;have HW:=aa (pD 0 bF _ h2 (OZ _));have Ce:=aa Zb;obtain⟨a0,a1,-⟩:=Fl w (QX (some ⟨lb,0,none⟩) (some ⟨sb,0,none⟩) qa.length cap) rfl rfl;rw[jC];rw[V8] at HW;unfold bF at *;generalize Bg (some (fr+used,⟨#[]⟩)) s=ff at *;generalize ye (some (fr+used,⟨#[]⟩)) s=s2 at *;clear h h2 Zb;go_enter func251,ntmps251;go_wp2_with (go_at_call 280;refine HW.out.mono ?_;rintro e w7 ⟨rfl,Cd⟩;have Of:=aa Cd;clear Cd)
 go_ret;exact⟨rfl,Xa.after Ce.out Of.out⟩
theorem zHd (w:World) (h:Ke w B lb db S fr many first used sb cap qa s):
  Calls p_ 254 #[.agg #[.pointer (some ⟨lb,0,none⟩),.slice (some ⟨sb,0,none⟩) qa.length cap]] w fun e w'=>e=.returned (pa (Ea [some (fr+used,qa.headD bF)] s).1)/\Xa w w' B db S (Ea [some (fr+used,qa.headD bF)] s).2:=by
 obtain⟨h2,Zb,qm⟩:=h.box;have oi:=h.pos;have a0f:(0:Int)<(qa.length:Int):=by omega
 obtain⟨t,hq⟩:∃ t,qa.headD bF=t/\qa[0]=t:=by
  cases qa with
  | nil=>simp at oi
  | cons t l=>exact⟨t,rfl,rfl⟩
 obtain⟨a0,a1,-⟩:=Fl w (QX (some ⟨lb,0,none⟩) (some ⟨sb,0,none⟩) qa.length cap) rfl rfl;have c0:=h2.ce 0 oi;rw[hq.2] at c0;rw[hq.1];have Ce:=aa Zb;have Od:=aa qm;have H2:=aa h2;clear h h2 Zb hq qm;generalize hW:w.alloc (QX (some ⟨lb,0,none⟩) (some ⟨sb,0,none⟩) qa.length cap)=W at *;have HW:=aa (pD 0 t _ (H2.out.on (r_ _ W).drew) (OZ _));rw[jC];rw[V8] at HW;generalize Bg (some (fr+used,t)) s=ff at *;generalize ye (some (fr+used,t)) s=s2 at *;go_enter func254,ntmps254;go_wp2
 go_region_held3 (fun w'=>w'.cell? ⟨w.heap.size,0,none⟩=some (.pointer (some ⟨lb,0,none⟩))/\w'.cell? ⟨w.heap.size,1,none⟩=some (.slice (some ⟨sb,0,none⟩) qa.length cap)/\w'.cell? ⟨sb,0,none⟩=some (.string t)) (first|exact⟨a0,a1,c0⟩|exact Sh.out)
 ((go_at_call 280;refine HW.out.mono ?_;rintro e w7 ⟨rfl,Cd⟩;obtain⟨S7,Ck,Ag⟩:=Cd;have f1:=(Ag.Ma sb H2.out.lt H2.out.ns).1;have f2:=(Ag.Ma w.heap.size (AZ _ _ a0) Od.out).1;have Sh:Hid (w7.cell? ⟨w.heap.size,0,none⟩=some (.pointer (some ⟨lb,0,none⟩))/\w7.cell? ⟨w.heap.size,1,none⟩=some (.slice (some ⟨sb,0,none⟩) qa.length cap)/\w7.cell? ⟨sb,0,none⟩=some (.string t)):=⟨(b_ (a:=⟨w.heap.size,0,none⟩) f2).trans a0,(b_ (a:=⟨w.heap.size,1,none⟩) f2).trans a1,(b_ (a:=⟨sb,0,none⟩) f1).trans c0⟩;have Of:Hid (Xa W.drew w7 B db S s2):=⟨S7,Ck,Ag⟩;clear Ck Ag f1 f2))
 go_wp2;go_ret;exact⟨rfl,Xa.after Ce.out (Xa.after (.on H2.out.dk.lo (r_ _ W).drew) Of.out)⟩
theorem vB (w:World) (h:Ol w lb db fr many first used) (hu:used<=many) (hm:many<=1000):Calls p_ 216 #[.pointer (some ⟨lb,0,none⟩)] w fun e w'=>e=.returned (.int .i64 ((many-used:Nat):Int))/\∃ n,w'=w.drewN n:=by
 have c2:=h.c2;have c4:=h.c4;have e:((many-used:Nat):Int)=(many:Int)-(used:Int):=by omega
 have k0:(0:Int)<=(used:Int):=by omega
 have k1:(many:Int)<=1000:=by omega
 have k2:(used:Int)<=(many:Int):=by omega
 rw[e];clear h e;go_enter func216,ntmps216;go_wp2;go_quiet (fail);go_wp2;go_ret;exact⟨rfl,_,rfl⟩
theorem zKr (w:World) (h:Ke w B lb db S fr many first used sb cap qa s):
  Calls p_ 253 #[.agg #[.pointer (some ⟨lb,0,none⟩),.slice (some ⟨sb,0,none⟩) qa.length cap]] w fun e w'=>e=.returned (pa (Ea (if qa.length=many-used then [] else [some (fr+used+qa.length,bF)]) s).1)/\Xa w w' B db S (Ea (if qa.length=many-used then [] else [some (fr+used+qa.length,bF)]) s).2:=by
 obtain⟨h2,Zb,qm⟩:=h.box;have Pg:=h.dk.many;have Rf:=h.fit;obtain⟨a0,a1,-⟩:=Fl w (QX (some ⟨lb,0,none⟩) (some ⟨sb,0,none⟩) qa.length cap) rfl rfl;have Ce:=aa Zb;have H2:=aa h2;clear h h2 Zb qm;generalize hW:w.alloc (QX (some ⟨lb,0,none⟩) (some ⟨sb,0,none⟩) qa.length cap)=W at *;have Qm:=aa (fun n=>(vB (W.drewN n) (H2.out.hd.kept rfl) (by omega) (by omega)));by_cases hr:qa.length=many-used
 ·rw[if_pos hr];have hr':((qa.length:Int)==((many-used:Nat):Int))=true:=by rw[hr];simp
  have HR:=aa hr;clear hr Pg Rf;generalize many-used=xh at *;go_enter func253,ntmps253;go_wp2;go_quiet ((go_at_call 216;exact Calls.quiet_of (Qm.out _)))
  go_wp2;go_ret;exact⟨rfl,Xa.after Ce.out (H2.out.dk.stay (below_drewN (r_ _ _) _))⟩
 ·rw[if_neg hr,jC];have hr':((qa.length:Int)==((many-used:Nat):Int))=false:=by simp;omega
  have HW:=aa (fun n=>pD qa.length bF _ (H2.out.on (below_drewN (r_ _ W) n)) (by omega));unfold bF at *;generalize Bg (some (fr+used+qa.length,⟨#[]⟩)) s=ff at *;generalize ye (some (fr+used+qa.length,⟨#[]⟩)) s=s2 at *;clear hr Pg Rf;generalize many-used=xh at *;go_enter func253,ntmps253;go_wp2;go_quiet ((go_at_call 216;exact Calls.quiet_of (Qm.out _)))
  go_wp2_with (go_at_call 280;refine(HW.out _).mono ?_;rintro e w7 ⟨rfl,Cd⟩;have Of:=aa Cd;clear Cd)
  go_ret;exact⟨rfl,Xa.after Ce.out (Xa.after (.on H2.out.dk.lo (below_drewN (r_ _ W) _)) Of.out)⟩
theorem zH0 {qa:List ByteArray} (hi:i<qa.length):aL (a+i) (qa.drop i)=some (a+i,qa[i])::aL (a+(i+1)) (qa.drop (i+1)):=by
 rw[Q2 hi];rfl
theorem zIi (a:Nat) (qa:List ByteArray):aL (a+1) qa.tail=aL (a+1) (qa.drop 1):=by rw[List.drop_one]
theorem zHW (w:World) (h:Ke w B lb db S fr many first used sb cap qa s):
  Calls p_ 252 #[.agg #[.pointer (some ⟨lb,0,none⟩),.slice (some ⟨sb,0,none⟩) qa.length cap]] w fun e w'=>e=.returned (pa (Ea (aL (fr+used+1) qa.tail) s).1)/\Xa w w' B db S (Ea (aL (fr+used+1) qa.tail) s).2:=by
 obtain⟨h2,Zb,qm⟩:=h.box;have Pg:=h.dk.many;have Rf:=h.fit;have oi:=h.pos;obtain⟨a0,a1,-⟩:=Fl w (QX (some ⟨lb,0,none⟩) (some ⟨sb,0,none⟩) qa.length cap) rfl rfl;have HA0:=aa a0;have HA1:=aa a1;have HXL:Hid (w.heap.size<(w.alloc (QX (some ⟨lb,0,none⟩) (some ⟨sb,0,none⟩) qa.length cap)).heap.size):=aa (by simp);have Ce:=aa Zb;have Od:=aa qm;have H2:=aa h2;clear h h2 Zb qm a0 a1;generalize hW:w.alloc (QX (some ⟨lb,0,none⟩) (some ⟨sb,0,none⟩) qa.length cap)=W at *;rw[zIi];generalize Fk:Ea (aL (fr+used+1) (qa.drop 1)) s=pn;have Wq:=aa Fk;clear Fk;go_enter func252,ntmps252;go_wp2
 go_loopw [3] (fun iv wr=>∃ (i:Nat) (S':Nat->Prop) (s':Bb),1<=i/\i<=qa.length/\iv=.int .i64 (i:Int)/\Ke wr B lb db S' fr many first used sb cap qa s'/\aG W wr B S S'/\Ea (aL (fr+used+i) (qa.drop i)) s'=pn) (fun iv _=>qa.length-(intOf iv).toNat)
 case atStart=>exact⟨1,S,s,n_ _,oi,rfl,H2.out,.refl H2.out.dk.lo,Wq.out⟩
 case round=>
  obtain⟨i,S',s',hi1,hi,rfl,hA,hV,hr⟩:=hrel;have fW:=hV.Ma w.heap.size HXL.out Od.out;have a0:=(b_ (a:=⟨w.heap.size,0,none⟩) fW.1).trans HA0.out;have a1:=(b_ (a:=⟨w.heap.size,1,none⟩) fW.1).trans HA1.out;have BA:=aa fW.2;clear fW;by_cases Aa:i<qa.length
  ·have Za:(i:Int)<(qa.length:Int):=by omega
   have Qb:(0:Int)<=(i:Int):=by omega
   rw[zH0 Aa] at hr;have c0:=hA.ce i Aa;generalize qa[i]=t at *;have HW:=aa (pD i t _ (hA.on (r_ _ wr).drew) (by omega));have H3:=aa hA;have HV:=aa hV;have HR:=aa hr;have kj:=aa (UR (some (fr+used+i,t)) s');clear hA hV hr;by_cases hf:Bg (some (fr+used+i,t)) s'=0
   ·rw[hf,aR] at HW;have Ll:Hid (Ea (aL (fr+used+(i+1)) (qa.drop (i+1))) (ye (some (fr+used+i,t)) s')=pn):=by
     have:=HR.out;unfold Ea at this;rw[if_pos hf] at this;exact this
    clear hf HR;generalize ye (some (fr+used+i,t)) s'=s2 at *;go_wp2
    go_region_held3 (fun w'=>w'.cell? ⟨w.heap.size,0,none⟩=some (.pointer (some ⟨lb,0,none⟩))/\w'.cell? ⟨w.heap.size,1,none⟩=some (.slice (some ⟨sb,0,none⟩) qa.length cap)/\w'.cell? ⟨sb,i,none⟩=some (.string t)) (first|exact⟨a0,a1,c0⟩|exact Sh.out)
     ((go_at_call 280;refine HW.out.mono ?_;rintro e w7 ⟨rfl,Cd⟩;obtain⟨S7,Ck,Ag⟩:=Cd;have f1:=(Ag.Ma sb H3.out.lt H3.out.ns).1;have f2:=(Ag.Ma w.heap.size (AZ _ _ a0) BA.out).1;have Sh:Hid (w7.cell? ⟨w.heap.size,0,none⟩=some (.pointer (some ⟨lb,0,none⟩))/\w7.cell? ⟨w.heap.size,1,none⟩=some (.slice (some ⟨sb,0,none⟩) qa.length cap)/\w7.cell? ⟨sb,i,none⟩=some (.string t)):=⟨(b_ (a:=⟨w.heap.size,0,none⟩) f2).trans a0,(b_ (a:=⟨w.heap.size,1,none⟩) f2).trans a1,(b_ (a:=⟨sb,i,none⟩) f1).trans c0⟩;have Of:Hid (Xa wr.drew w7 B db S' s2):=⟨S7,Ck,Ag⟩;clear Ck Ag f1 f2))
    go_wp2;obtain⟨S8,Qn,qj⟩:=Of.out;have oh:aG wr w7 B S' S8:=(aG.on H3.out.dk.lo (r_ _ wr).drew).trans qj;exact⟨⟨i+1,S8,s2,by omega,by omega,by go_num,H3.out.step Qn oh kj.out,HV.out.trans oh,Ll.out⟩,by simp[intOf];omega⟩
   ·rw[aP hf] at HW;have Ll:Hid ((Bg (some (fr+used+i,t)) s',ye (some (fr+used+i,t)) s')=pn):=by
     have:=HR.out;unfold Ea at this;rw[if_neg hf] at this;exact this
    have HF:=aa hf;clear hf HR;generalize ye (some (fr+used+i,t)) s'=s2 at *;generalize Bg (some (fr+used+i,t)) s'=ff at *;go_wp2
    go_region_held3 (fun w'=>w'.cell? ⟨w.heap.size,0,none⟩=some (.pointer (some ⟨lb,0,none⟩))/\w'.cell? ⟨w.heap.size,1,none⟩=some (.slice (some ⟨sb,0,none⟩) qa.length cap)/\w'.cell? ⟨sb,i,none⟩=some (.string t)) (first|exact⟨a0,a1,c0⟩|exact Sh.out)
     ((go_at_call 280;refine HW.out.mono ?_;rintro e w7 ⟨rfl,Cd⟩;obtain⟨S7,Ck,Ag⟩:=Cd;have f1:=(Ag.Ma sb H3.out.lt H3.out.ns).1;have f2:=(Ag.Ma w.heap.size (AZ _ _ a0) BA.out).1;have Sh:Hid (w7.cell? ⟨w.heap.size,0,none⟩=some (.pointer (some ⟨lb,0,none⟩))/\w7.cell? ⟨w.heap.size,1,none⟩=some (.slice (some ⟨sb,0,none⟩) qa.length cap)/\w7.cell? ⟨sb,i,none⟩=some (.string t)):=⟨(b_ (a:=⟨w.heap.size,0,none⟩) f2).trans a0,(b_ (a:=⟨w.heap.size,1,none⟩) f2).trans a1,(b_ (a:=⟨sb,i,none⟩) f1).trans c0⟩;have Of:Hid (Xa wr.drew w7 B db S' s2):=⟨S7,Ck,Ag⟩;clear Ck Ag f1 f2))
    go_wp2;go_ret;rw[<-Ll.out];exact⟨by show _=V1 (pa ff);rw[aP HF.out];rfl,Xa.after (Ce.out.trans HV.out) (Xa.after (.on H3.out.dk.lo (r_ _ wr).drew) Of.out)⟩
  ·have ei:i=qa.length:=by omega
   subst ei;have Za:¬(qa.length:Int)<(qa.length:Int):=by omega
   rw[M0 (n_ _)] at hr;have HR:Hid ((0,s')=pn):=hr;have HV:=aa hV;have H3:=aa hA;clear hV hA hr;go_wp2;go_ret;rw[<-HR.out];exact⟨rfl,S',H3.out.dk,Ce.out.trans HV.out⟩
end
section
variable {w w':World} {B lb db:Nat} {S:Nat->Prop} {fr many first used sb cap:Nat} {qa:List ByteArray} {s s':Bb}
theorem rU (w:World) (h:Ke w B lb db S fr many first used sb cap qa s):Calls p_ 149 #[.pointer (some ⟨db,0,none⟩)] w fun e w'=>e=.returned (pa (Ea [none] s).1)/\Xa w w' B db S (Ea [none] s).2:=by
 rw[jC];exact tC w h.dk
theorem zLu (w:World) (h:Ke w B lb db S fr many first used sb cap qa s):
  Calls p_ 218 #[.agg #[.pointer (some ⟨lb,0,none⟩),.slice (some ⟨sb,0,none⟩) qa.length cap]] w fun e w'=>e=.returned (pa (Ea (iP (fr+used) qa (many-used)) s).1)/\Xa w w' B db S (Ea (iP (fr+used) qa (many-used)) s).2:=by
 obtain⟨h2,Zb,qm⟩:=h.box;have Pg:=h.dk.many;have Rf:=h.fit;have oi:=h.pos;obtain⟨a0,a1,-⟩:=Fl w (QX (some ⟨lb,0,none⟩) (some ⟨sb,0,none⟩) qa.length cap) rfl rfl;have c0:=h2.hd.c0;have Ce:=aa Zb;have Od:=aa qm;have H2:=aa h2;clear h h2 Zb qm;generalize hW:w.alloc (QX (some ⟨lb,0,none⟩) (some ⟨sb,0,none⟩) qa.length cap)=W at *;have HF:Hid (∀ i (hi:i<7),(W.alloc (o_ #[JZ (J0 251) #[A0 #[.pointer (some ⟨lb,0,none⟩),.slice (some ⟨sb,0,none⟩) qa.length cap]] #[],JZ (J0 149) #[IZ (some ⟨db,0,none⟩)] #[],JZ (J0 252) #[A0 #[.pointer (some ⟨lb,0,none⟩),.slice (some ⟨sb,0,none⟩) qa.length cap]] #[],JZ (J0 253) #[A0 #[.pointer (some ⟨lb,0,none⟩),.slice (some ⟨sb,0,none⟩) qa.length cap]] #[],JZ (J0 149) #[IZ (some ⟨db,0,none⟩)] #[],JZ (J0 254) #[A0 #[.pointer (some ⟨lb,0,none⟩),.slice (some ⟨sb,0,none⟩) qa.length cap]] #[],JZ (J0 149) #[IZ (some ⟨db,0,none⟩)] #[]] 56)).cell? ⟨W.heap.size,i,none⟩=some ((#[JZ (J0 251) #[A0 #[.pointer (some ⟨lb,0,none⟩),.slice (some ⟨sb,0,none⟩) qa.length cap]] #[],JZ (J0 149) #[IZ (some ⟨db,0,none⟩)] #[],JZ (J0 252) #[A0 #[.pointer (some ⟨lb,0,none⟩),.slice (some ⟨sb,0,none⟩) qa.length cap]] #[],JZ (J0 253) #[A0 #[.pointer (some ⟨lb,0,none⟩),.slice (some ⟨sb,0,none⟩) qa.length cap]] #[],JZ (J0 149) #[IZ (some ⟨db,0,none⟩)] #[],JZ (J0 254) #[A0 #[.pointer (some ⟨lb,0,none⟩),.slice (some ⟨sb,0,none⟩) qa.length cap]] #[],JZ (J0 149) #[IZ (some ⟨db,0,none⟩)] #[]]:Array Value)[i]'hi)):=fun i hi=>by
  rw[aC];exact Array.getElem?_eq_getElem hi
 have FW:=aa (a_ W (o_ #[JZ (J0 251) #[A0 #[.pointer (some ⟨lb,0,none⟩),.slice (some ⟨sb,0,none⟩) qa.length cap]] #[],JZ (J0 149) #[IZ (some ⟨db,0,none⟩)] #[],JZ (J0 252) #[A0 #[.pointer (some ⟨lb,0,none⟩),.slice (some ⟨sb,0,none⟩) qa.length cap]] #[],JZ (J0 253) #[A0 #[.pointer (some ⟨lb,0,none⟩),.slice (some ⟨sb,0,none⟩) qa.length cap]] #[],JZ (J0 149) #[IZ (some ⟨db,0,none⟩)] #[],JZ (J0 254) #[A0 #[.pointer (some ⟨lb,0,none⟩),.slice (some ⟨sb,0,none⟩) qa.length cap]] #[],JZ (J0 149) #[IZ (some ⟨db,0,none⟩)] #[]] 56));have rj:Hid (¬S W.heap.size):=fun e=>by have:=H2.out.dk.lt e;omega
 have YK:Hid (W.heap.size<(W.alloc (o_ #[JZ (J0 251) #[A0 #[.pointer (some ⟨lb,0,none⟩),.slice (some ⟨sb,0,none⟩) qa.length cap]] #[],JZ (J0 149) #[IZ (some ⟨db,0,none⟩)] #[],JZ (J0 252) #[A0 #[.pointer (some ⟨lb,0,none⟩),.slice (some ⟨sb,0,none⟩) qa.length cap]] #[],JZ (J0 253) #[A0 #[.pointer (some ⟨lb,0,none⟩),.slice (some ⟨sb,0,none⟩) qa.length cap]] #[],JZ (J0 149) #[IZ (some ⟨db,0,none⟩)] #[],JZ (J0 254) #[A0 #[.pointer (some ⟨lb,0,none⟩),.slice (some ⟨sb,0,none⟩) qa.length cap]] #[],JZ (J0 149) #[IZ (some ⟨db,0,none⟩)] #[]] 56)).heap.size):=aa (by simp);have Bv:Hid (∃ pn,Ea (iP (fr+used) qa (many-used)) s=pn):=⟨_,rfl⟩;obtain⟨pn,Fk⟩:=Bv.out;rw[Fk];have Wq:=aa Fk;clear Fk Bv;have Cv:Hid (aG w (W.alloc (o_ #[JZ (J0 251) #[A0 #[.pointer (some ⟨lb,0,none⟩),.slice (some ⟨sb,0,none⟩) qa.length cap]] #[],JZ (J0 149) #[IZ (some ⟨db,0,none⟩)] #[],JZ (J0 252) #[A0 #[.pointer (some ⟨lb,0,none⟩),.slice (some ⟨sb,0,none⟩) qa.length cap]] #[],JZ (J0 253) #[A0 #[.pointer (some ⟨lb,0,none⟩),.slice (some ⟨sb,0,none⟩) qa.length cap]] #[],JZ (J0 149) #[IZ (some ⟨db,0,none⟩)] #[],JZ (J0 254) #[A0 #[.pointer (some ⟨lb,0,none⟩),.slice (some ⟨sb,0,none⟩) qa.length cap]] #[],JZ (J0 149) #[IZ (some ⟨db,0,none⟩)] #[]] 56)) B S S):=Ce.out.trans (.on H2.out.dk.lo FW.out);have H3:=aa (H2.out.on FW.out);generalize hfb:W.heap.size=fb at *;have HFB:=aa hfb;go_enter func218,ntmps218;go_wp2;generalize (W.alloc (o_ #[JZ (J0 251) #[A0 #[.pointer (some ⟨lb,0,none⟩),.slice (some ⟨sb,0,none⟩) qa.length cap]] #[],JZ (J0 149) #[IZ (some ⟨db,0,none⟩)] #[],JZ (J0 252) #[A0 #[.pointer (some ⟨lb,0,none⟩),.slice (some ⟨sb,0,none⟩) qa.length cap]] #[],JZ (J0 253) #[A0 #[.pointer (some ⟨lb,0,none⟩),.slice (some ⟨sb,0,none⟩) qa.length cap]] #[],JZ (J0 149) #[IZ (some ⟨db,0,none⟩)] #[],JZ (J0 254) #[A0 #[.pointer (some ⟨lb,0,none⟩),.slice (some ⟨sb,0,none⟩) qa.length cap]] #[],JZ (J0 149) #[IZ (some ⟨db,0,none⟩)] #[]] 56))=W2 at *;clear hfb
 go_loopw [26] (fun iv wr=>∃ (i:Nat) (S':Nat->Prop) (s':Bb),i<=7/\iv=.int .i64 (i:Int)/\Ke wr B lb db S' fr many first used sb cap qa s'/\aG W2 wr B S S'/\Ea ((dR (fr+used) qa (many-used)).drop i).flatten s'=pn) (fun iv _=>7-(intOf iv).toNat)
 case atStart=>exact⟨0,S,s,OZ _,rfl,H3.out,.refl H3.out.dk.lo,Wq.out⟩
 case round=>
  obtain⟨i,S',s',hi,rfl,hA,hV,hr⟩:=hrel;have fW:=hV.Ma fb YK.out rj.out;have HA:=aa hA;have HV:=aa hV;have HR:=aa hr;clear hA hV hr;by_cases Aa:i<7
  ·have ca:=(b_ (a:=⟨fb,i,none⟩) fW.1).trans (HF.out i Aa);clear fW;rcases(show i=0∨i=1∨i=2∨i=3∨i=4∨i=5∨i=6 by omega) with rfl|rfl|rfl|rfl|rfl|rfl|rfl
   ·have Ue:=HR.out;have eS:((dR (fr+used) qa (many-used)).drop 0).flatten=[some (fr+used,bF)]++((dR (fr+used) qa (many-used)).drop 1).flatten:=rfl;rw[eS] at Ue;have HC:Hid (Calls p_ 251 #[.agg #[.pointer (some ⟨lb,0,none⟩),.slice (some ⟨sb,0,none⟩) qa.length cap]] wr fun e w'=>e=.returned (pa (Ea ([some (fr+used,bF)]) s').1)/\Xa wr w' B db S' (Ea ([some (fr+used,bF)]) s').2):=(by have h:=HA.out;exact zKH _ h);have kj:=aa (fS ([some (fr+used,bF)]) s');have Hp:wr.cell? ⟨fb,0,none⟩=some (JZ (J0 251) #[A0 #[.pointer (some ⟨lb,0,none⟩),.slice (some ⟨sb,0,none⟩) qa.length cap]] #[]):=ca;clear ca eS;by_cases hf:(Ea ([some (fr+used,bF)]) s').1=0
    ·have wg:=aa (Ue.symm.trans (kF hf)).symm;rw[hf,aR] at HC;clear hf Ue HR;generalize (Ea ([some (fr+used,bF)]) s').2=s2 at *;go_wp2_with (go_at_call 251;refine HC.out.mono ?_;rintro e w7 ⟨rfl,Cd⟩;have Of:=aa Cd;clear Cd)
     obtain⟨S8,Qn,qj⟩:=Of.out;exact⟨⟨1,S8,s2,by omega,rfl,HA.out.step Qn qj kj.out,HV.out.trans qj,wg.out⟩,by simp[intOf]⟩
    ·have wg:=aa (Ue.symm.trans (kC hf)).symm;rw[aP hf] at HC;have Vj:=aa hf;clear hf Ue HR;generalize Ea ([some (fr+used,bF)]) s'=r2 at *;go_wp2_with (go_at_call 251;refine HC.out.mono ?_;rintro e w7 ⟨rfl,Cd⟩;have Of:=aa Cd;clear Cd)
     go_ret;rw[<-wg.out];exact⟨by show _=V1 (pa r2.1);rw[aP Vj.out];rfl,Xa.after Cv.out (Xa.after HV.out Of.out)⟩
   ·have Ue:=HR.out;have eS:((dR (fr+used) qa (many-used)).drop 1).flatten=[none]++((dR (fr+used) qa (many-used)).drop 2).flatten:=rfl;rw[eS] at Ue;have HC:Hid (Calls p_ 149 #[.pointer (some ⟨db,0,none⟩)] wr fun e w'=>e=.returned (pa (Ea ([none]) s').1)/\Xa wr w' B db S' (Ea ([none]) s').2):=(by have h:=HA.out;exact rU _ h);have kj:=aa (fS ([none]) s');have Hp:wr.cell? ⟨fb,1,none⟩=some (JZ (J0 149) #[IZ (some ⟨db,0,none⟩)] #[]):=ca;clear ca eS;by_cases hf:(Ea ([none]) s').1=0
    ·have wg:=aa (Ue.symm.trans (kF hf)).symm;rw[hf,aR] at HC;clear hf Ue HR;generalize (Ea ([none]) s').2=s2 at *;go_wp2_with (go_at_call 149;refine HC.out.mono ?_;rintro e w7 ⟨rfl,Cd⟩;have Of:=aa Cd;clear Cd)
     obtain⟨S8,Qn,qj⟩:=Of.out;exact⟨⟨2,S8,s2,by omega,rfl,HA.out.step Qn qj kj.out,HV.out.trans qj,wg.out⟩,by simp[intOf]⟩
    ·have wg:=aa (Ue.symm.trans (kC hf)).symm;rw[aP hf] at HC;have Vj:=aa hf;clear hf Ue HR;generalize Ea ([none]) s'=r2 at *;go_wp2_with (go_at_call 149;refine HC.out.mono ?_;rintro e w7 ⟨rfl,Cd⟩;have Of:=aa Cd;clear Cd)
     go_ret;rw[<-wg.out];exact⟨by show _=V1 (pa r2.1);rw[aP Vj.out];rfl,Xa.after Cv.out (Xa.after HV.out Of.out)⟩
   ·have Ue:=HR.out;have eS:((dR (fr+used) qa (many-used)).drop 2).flatten=aL (fr+used+1) qa.tail++((dR (fr+used) qa (many-used)).drop 3).flatten:=rfl;rw[eS] at Ue;have HC:Hid (Calls p_ 252 #[.agg #[.pointer (some ⟨lb,0,none⟩),.slice (some ⟨sb,0,none⟩) qa.length cap]] wr fun e w'=>e=.returned (pa (Ea (aL (fr+used+1) qa.tail) s').1)/\Xa wr w' B db S' (Ea (aL (fr+used+1) qa.tail) s').2):=(by have h:=HA.out;exact zHW _ h);have kj:=aa (fS (aL (fr+used+1) qa.tail) s');have Hp:wr.cell? ⟨fb,2,none⟩=some (JZ (J0 252) #[A0 #[.pointer (some ⟨lb,0,none⟩),.slice (some ⟨sb,0,none⟩) qa.length cap]] #[]):=ca;clear ca eS;by_cases hf:(Ea (aL (fr+used+1) qa.tail) s').1=0
    ·have wg:=aa (Ue.symm.trans (kF hf)).symm;rw[hf,aR] at HC;clear hf Ue HR;generalize (Ea (aL (fr+used+1) qa.tail) s').2=s2 at *;go_wp2_with (go_at_call 252;refine HC.out.mono ?_;rintro e w7 ⟨rfl,Cd⟩;have Of:=aa Cd;clear Cd)
     obtain⟨S8,Qn,qj⟩:=Of.out;exact⟨⟨3,S8,s2,by omega,rfl,HA.out.step Qn qj kj.out,HV.out.trans qj,wg.out⟩,by simp[intOf]⟩
    ·have wg:=aa (Ue.symm.trans (kC hf)).symm;rw[aP hf] at HC;have Vj:=aa hf;clear hf Ue HR;generalize Ea (aL (fr+used+1) qa.tail) s'=r2 at *;go_wp2_with (go_at_call 252;refine HC.out.mono ?_;rintro e w7 ⟨rfl,Cd⟩;have Of:=aa Cd;clear Cd)
     go_ret;rw[<-wg.out];exact⟨by show _=V1 (pa r2.1);rw[aP Vj.out];rfl,Xa.after Cv.out (Xa.after HV.out Of.out)⟩
   ·have Ue:=HR.out;have eS:((dR (fr+used) qa (many-used)).drop 3).flatten=(if qa.length=many-used then [] else [some (fr+used+qa.length,bF)])++((dR (fr+used) qa (many-used)).drop 4).flatten:=rfl;rw[eS] at Ue;have HC:Hid (Calls p_ 253 #[.agg #[.pointer (some ⟨lb,0,none⟩),.slice (some ⟨sb,0,none⟩) qa.length cap]] wr fun e w'=>e=.returned (pa (Ea ((if qa.length=many-used then [] else [some (fr+used+qa.length,bF)])) s').1)/\Xa wr w' B db S' (Ea ((if qa.length=many-used then [] else [some (fr+used+qa.length,bF)])) s').2):=(by have h:=HA.out;exact zKr _ h);have kj:=aa (fS ((if qa.length=many-used then [] else [some (fr+used+qa.length,bF)])) s');have Hp:wr.cell? ⟨fb,3,none⟩=some (JZ (J0 253) #[A0 #[.pointer (some ⟨lb,0,none⟩),.slice (some ⟨sb,0,none⟩) qa.length cap]] #[]):=ca;clear ca eS;by_cases hf:(Ea ((if qa.length=many-used then [] else [some (fr+used+qa.length,bF)])) s').1=0
    ·have wg:=aa (Ue.symm.trans (kF hf)).symm;rw[hf,aR] at HC;clear hf Ue HR;generalize (Ea ((if qa.length=many-used then [] else [some (fr+used+qa.length,bF)])) s').2=s2 at *;go_wp2_with (go_at_call 253;refine HC.out.mono ?_;rintro e w7 ⟨rfl,Cd⟩;have Of:=aa Cd;clear Cd)
     obtain⟨S8,Qn,qj⟩:=Of.out;exact⟨⟨4,S8,s2,by omega,rfl,HA.out.step Qn qj kj.out,HV.out.trans qj,wg.out⟩,by simp[intOf]⟩
    ·have wg:=aa (Ue.symm.trans (kC hf)).symm;rw[aP hf] at HC;have Vj:=aa hf;clear hf Ue HR;generalize Ea ((if qa.length=many-used then [] else [some (fr+used+qa.length,bF)])) s'=r2 at *;go_wp2_with (go_at_call 253;refine HC.out.mono ?_;rintro e w7 ⟨rfl,Cd⟩;have Of:=aa Cd;clear Cd)
     go_ret;rw[<-wg.out];exact⟨by show _=V1 (pa r2.1);rw[aP Vj.out];rfl,Xa.after Cv.out (Xa.after HV.out Of.out)⟩
   ·have Ue:=HR.out;have eS:((dR (fr+used) qa (many-used)).drop 4).flatten=[none]++((dR (fr+used) qa (many-used)).drop 5).flatten:=rfl;rw[eS] at Ue;have HC:Hid (Calls p_ 149 #[.pointer (some ⟨db,0,none⟩)] wr fun e w'=>e=.returned (pa (Ea ([none]) s').1)/\Xa wr w' B db S' (Ea ([none]) s').2):=(by have h:=HA.out;exact rU _ h);have kj:=aa (fS ([none]) s');have Hp:wr.cell? ⟨fb,4,none⟩=some (JZ (J0 149) #[IZ (some ⟨db,0,none⟩)] #[]):=ca;clear ca eS;by_cases hf:(Ea ([none]) s').1=0
    ·have wg:=aa (Ue.symm.trans (kF hf)).symm;rw[hf,aR] at HC;clear hf Ue HR;generalize (Ea ([none]) s').2=s2 at *;go_wp2_with (go_at_call 149;refine HC.out.mono ?_;rintro e w7 ⟨rfl,Cd⟩;have Of:=aa Cd;clear Cd)
     obtain⟨S8,Qn,qj⟩:=Of.out;exact⟨⟨5,S8,s2,by omega,rfl,HA.out.step Qn qj kj.out,HV.out.trans qj,wg.out⟩,by simp[intOf]⟩
    ·have wg:=aa (Ue.symm.trans (kC hf)).symm;rw[aP hf] at HC;have Vj:=aa hf;clear hf Ue HR;generalize Ea ([none]) s'=r2 at *;go_wp2_with (go_at_call 149;refine HC.out.mono ?_;rintro e w7 ⟨rfl,Cd⟩;have Of:=aa Cd;clear Cd)
     go_ret;rw[<-wg.out];exact⟨by show _=V1 (pa r2.1);rw[aP Vj.out];rfl,Xa.after Cv.out (Xa.after HV.out Of.out)⟩
   ·have Ue:=HR.out;have eS:((dR (fr+used) qa (many-used)).drop 5).flatten=[some (fr+used,qa.headD bF)]++((dR (fr+used) qa (many-used)).drop 6).flatten:=rfl;rw[eS] at Ue;have HC:Hid (Calls p_ 254 #[.agg #[.pointer (some ⟨lb,0,none⟩),.slice (some ⟨sb,0,none⟩) qa.length cap]] wr fun e w'=>e=.returned (pa (Ea ([some (fr+used,qa.headD bF)]) s').1)/\Xa wr w' B db S' (Ea ([some (fr+used,qa.headD bF)]) s').2):=(by have h:=HA.out;exact zHd _ h);have kj:=aa (fS ([some (fr+used,qa.headD bF)]) s');have Hp:wr.cell? ⟨fb,5,none⟩=some (JZ (J0 254) #[A0 #[.pointer (some ⟨lb,0,none⟩),.slice (some ⟨sb,0,none⟩) qa.length cap]] #[]):=ca;clear ca eS;by_cases hf:(Ea ([some (fr+used,qa.headD bF)]) s').1=0
    ·have wg:=aa (Ue.symm.trans (kF hf)).symm;rw[hf,aR] at HC;clear hf Ue HR;generalize (Ea ([some (fr+used,qa.headD bF)]) s').2=s2 at *;go_wp2_with (go_at_call 254;refine HC.out.mono ?_;rintro e w7 ⟨rfl,Cd⟩;have Of:=aa Cd;clear Cd)
     obtain⟨S8,Qn,qj⟩:=Of.out;exact⟨⟨6,S8,s2,by omega,rfl,HA.out.step Qn qj kj.out,HV.out.trans qj,wg.out⟩,by simp[intOf]⟩
    ·have wg:=aa (Ue.symm.trans (kC hf)).symm;rw[aP hf] at HC;have Vj:=aa hf;clear hf Ue HR;generalize Ea ([some (fr+used,qa.headD bF)]) s'=r2 at *;go_wp2_with (go_at_call 254;refine HC.out.mono ?_;rintro e w7 ⟨rfl,Cd⟩;have Of:=aa Cd;clear Cd)
     go_ret;rw[<-wg.out];exact⟨by show _=V1 (pa r2.1);rw[aP Vj.out];rfl,Xa.after Cv.out (Xa.after HV.out Of.out)⟩
   ·have Ue:=HR.out;have eS:((dR (fr+used) qa (many-used)).drop 6).flatten=[none]++((dR (fr+used) qa (many-used)).drop 7).flatten:=rfl;rw[eS] at Ue;have HC:Hid (Calls p_ 149 #[.pointer (some ⟨db,0,none⟩)] wr fun e w'=>e=.returned (pa (Ea ([none]) s').1)/\Xa wr w' B db S' (Ea ([none]) s').2):=(by have h:=HA.out;exact rU _ h);have kj:=aa (fS ([none]) s');have Hp:wr.cell? ⟨fb,6,none⟩=some (JZ (J0 149) #[IZ (some ⟨db,0,none⟩)] #[]):=ca;clear ca eS;by_cases hf:(Ea ([none]) s').1=0
    ·have wg:=aa (Ue.symm.trans (kF hf)).symm;rw[hf,aR] at HC;clear hf Ue HR;generalize (Ea ([none]) s').2=s2 at *;go_wp2_with (go_at_call 149;refine HC.out.mono ?_;rintro e w7 ⟨rfl,Cd⟩;have Of:=aa Cd;clear Cd)
     obtain⟨S8,Qn,qj⟩:=Of.out;exact⟨⟨7,S8,s2,by omega,rfl,HA.out.step Qn qj kj.out,HV.out.trans qj,wg.out⟩,by simp[intOf]⟩
    ·have wg:=aa (Ue.symm.trans (kC hf)).symm;rw[aP hf] at HC;have Vj:=aa hf;clear hf Ue HR;generalize Ea ([none]) s'=r2 at *;go_wp2_with (go_at_call 149;refine HC.out.mono ?_;rintro e w7 ⟨rfl,Cd⟩;have Of:=aa Cd;clear Cd)
     go_ret;rw[<-wg.out];exact⟨by show _=V1 (pa r2.1);rw[aP Vj.out];rfl,Xa.after Cv.out (Xa.after HV.out Of.out)⟩
  ·have ei:i=7:=by omega
   subst ei;have Ue:(0,s')=pn:=HR.out;have Ll:=aa Ue;clear Ue HR fW;go_wp2;go_ret;rw[<-Ll.out];exact⟨rfl,S',HA.out.dk,Cv.out.trans HV.out⟩
end
section
variable {w:World} {B db:Nat} {S:Nat->Prop} {s:Bb}
structure mC (w w':World) (lb db fr many first:Nat) (dv:Value) (ds:List (List ma)) (u:Nat):Prop where
 de:∃ l,zJi w' w.heap.size dv l/\l.map (·.ba)=ds/\∀ d∈l,(Ip d).ownBlock≠some lb
 dn:dv.ownBlock≠some lb
 hd:Ol w' lb db fr many first u
 new:w.heap.size<=lb
 Ia:Below w.heap.size w w'
theorem zHf (fr many first:Nat) (w:World) (hk:DK w B db S s) (hd:s.down=false) (h1:1<=many) (h2:1<=first) (hf:first<=1500000) (hm:fr+many<=s.now.length):
  Calls p_ 169 #[.pointer (some ⟨db,0,none⟩),.int .i64 (fr:Int),.int .i64 (many:Int),.int .i64 (first:Int)] w fun e w'=>∃ lb dv,e=.returned (.tuple #[.pointer (some ⟨lb,0,none⟩),dv,.nilIface])/\mC w w' lb db fr many first dv (mX (eB s fr many) first) (mH (eB s fr many) first):=by
 have HS:=aa (mU w hk);have Pg:=hk.many;have g1:¬(fr:Int)<0:=by omega
 have g2:¬(many:Int)<1:=by omega
 have g3:¬(first:Int)<1:=by omega
 have g4:¬(s.now.length:Int)-(fr:Int)<(many:Int):=by omega
 have g5:(s.now.length:Int)<=200:=by omega
 have hb:=a_ w (XX (some ⟨db,0,none⟩) (fr:Int) (many:Int) (first:Int));have HH:Hid (Ol (w.alloc (XX (some ⟨db,0,none⟩) (fr:Int) (many:Int) (first:Int))) w.heap.size db fr many first 0):=⟨aC _ _ _ 0,aC _ _ _ 1,aC _ _ _ 2,aC _ _ _ 3,aC _ _ _ 4,fun j=>aQ _ _ _ j⟩;have HR:=aa (zJe _ (hk.on hb) HH.out (fun e=>by have:=hk.lt e;omega) hk.lo hd hf hm);have HB:=aa hb;clear hk hd hb;generalize mX (eB s fr many) first=ds at *;generalize mH (eB s fr many) first=u at *;generalize s.now.length=n at *;go_enter func169,ntmps169;go_wp2_with (first
  | (go_at_call 79;refine HS.out.mono ?_;rintro e w1 ⟨rfl,rfl⟩)
  | (go_at_call 222;refine HR.out.mono ?_;rintro e w2 ⟨dv,rfl,qi⟩;have ik:=aa qi;clear qi)
  | fail)
 go_ret3;refine⟨_,dv,rfl,?_⟩;obtain⟨l,h3,h4,h5,h6⟩:=ik.out;have hz:(w1.alloc (XX (some ⟨db,0,none⟩) (fr:Int) (many:Int) (first:Int))).heap.size=w1.heap.size+1:=by simp
 have Ku:∀ v:Value,∀ e z n xs,w2.ownsRow (w1.alloc (XX (some ⟨db,0,none⟩) (fr:Int) (many:Int) (first:Int))).heap.size e z v n xs->v.ownBlock≠some w1.heap.size:=fun v e z n xs ho he=>by
  have:=(l_ ho _ he).1;rw[hz] at this;omega
 refine⟨⟨l,⟨ownsRow_le h3.1 (by rw[hz];omega),fun d hd=>dJ (h3.2.1 d hd) (by rw[hz];omega),h3.2.2⟩,h4,fun d hd=>Ku _ _ _ _ _ (h3.2.1 d hd)⟩,Ku _ _ _ _ _ h3.1,h5,n_ _,?_⟩;exact⟨h6.Ia.os.trans HB.out.os,h6.Ia.tape.trans HB.out.tape,h6.Ia.output.trans HB.out.output,BZ HB.out.size h6.Ia.size,fun k hk=>(h6.Ma k (by rw[hz];omega) (by omega)).trans (HB.out.block k hk)⟩
end
def jW (l:List ma):Nat:=if 12<l.length then 2 else bS l
theorem zFX (l:List ma) (ao:Option Addr) (cap:Nat) (w:World) (hd:bW w ao l) (hl:l.length<=1000) (Mb:∀ c∈l,c.key.size<=maxLen):
  Calls p_ 159 #[.slice ao l.length cap] w fun e w'=>e=.returned (pa (jW l))/\Below w.heap.size w w':=by
 by_cases hm:12<l.length
 ·have e:jW l=2:=if_pos hm;have hm':(12:Int)<(l.length:Int):=by omega
  rw[e,aP (by decide)];go_enter func159,ntmps159;go_wp2;go_ret;exact⟨rfl,r_ _ _⟩
 ·have hm':¬(12:Int)<(l.length:Int):=by omega
  have e:jW l=bS l:=if_neg hm;rw[e];have HD:=aa hd;have HZ:=aa Mb;clear hd Mb e hm;go_enter func159,ntmps159;go_wp2
  go_loopw [12] (fun iv wr=>∃ k:Nat,k<=l.length/\iv=.int .i64 (k:Int)/\bS (l.take k)=0/\Below w.heap.size w wr) (fun iv _=>l.length-(intOf iv).toNat)
  case atStart=>exact⟨0,OZ _,rfl,rfl,r_ _ _⟩
  case round=>
   obtain⟨k,hk,rfl,Df,hb⟩:=hrel;by_cases Aa:k<l.length
   ·have Za:(k:Int)<(l.length:Int):=by omega
    have Ih:(0:Int)<=(k:Int):=by omega
    rcases HD.out with e|⟨b,off,e,Bf⟩
    ·rw[e] at Aa;simp at Aa
    subst e;obtain⟨x0,x1,x2⟩:=Bf k Aa;have kh:=zC Aa Df;have hz:=HZ.out _ (MZ Aa);clear Bf;generalize l[k]=x at *;replace ⟨x0,x1,x2⟩:=Fe hb x0 x1 x2;have Md:=aa hb;have Mm:=fun w'=>aa (gB x w' hz);have He:=aa (a_ wr (FX x.key x.val x.gone));clear hb;by_cases hf:aD x=0
    ·have Km:=aa (kh.1.trans hf);rw[hf,aR] at Mm;clear hf kh;go_wp2_with (first
      | (go_at_call 145;refine((Mm _).out).mono ?_;rintro e w7 ⟨rfl,Af⟩;replace He:=aa (aB He.out (n_ _) Af);clear Af))
     exact⟨⟨k+1,by omega,by go_num,Km.out,aB Md.out (n_ _) He.out⟩,by simp[intOf];omega⟩
    ·have Km:=aa (kh.2 hf);have Wd:Hid (pa (aD x)=.iface 77 (.int .i64 (aD x))):=aP hf;rw[Wd.out] at Mm;clear hf kh;go_wp2_with (first
      | (go_at_call 145;refine((Mm _).out).mono ?_;rintro e w7 ⟨rfl,Af⟩;replace He:=aa (aB He.out (n_ _) Af);clear Af))
     go_ret;refine⟨?_,aB Md.out (n_ _) He.out⟩;rw[Km.out,Wd.out];rfl
   ·have ek:k=l.length:=by omega
    subst ek;have Za:¬(l.length:Int)<(l.length:Int):=by omega
    rw[O1] at Df;have JG:=aa Df;have Md:=aa hb;clear Df hb;go_wp2;go_ret;rw[JG.out];exact⟨rfl,Md.out⟩
end
section
open Go.RowKit Go.Joins
def kvC (c:ma):BA×BA:=(c.key,c.val)
def fQ (c:ma):Bool:=!c.gone
def aK (rows l:List ma):List ma:=(l.foldl Db rows).filter fQ
def aS (l:List ma):List (BA×BA):=l.map kvC
theorem zHD (c:ma) (h:Pc l):Db l c=(l.filter fun x=>jb x.key c.key)++c::l.filter fun x=>jb c.key x.key:=by
 induction l with
 | nil=>rfl
 | cons x l ih=>
  obtain⟨h1,h2⟩:=L3.1 h;unfold Db;rcases zD x.key c.key with⟨a1,a2,a3,a4⟩|a1|⟨a1,a2,a3,a4⟩
  ·rw[if_pos a1,ih h2,WZ,if_pos a1,WZ,if_neg (by rw[a3];decide)];rfl
  ·have Jk:∀ y∈l,jb c.key y.key=true:=fun y hy=>by rw[<-a1];exact h1 y hy
   have f1:(l.filter fun y=>jb y.key c.key)=[]:=C5.2 fun y hy e=>by
    have:=cL (Jk y hy) e;rw[bA] at this;cases this
   have f2:(l.filter fun y=>jb c.key y.key)=l:=C6.2 Jk;have n1:jb x.key c.key=false:=by rw[a1];exact bA _
   have n2:jb c.key x.key=false:=by rw[a1];exact bA _
   rw[if_neg (by rw[n1];decide),if_pos (by rw[a1];exact xB _),WZ,if_neg (by rw[n1];decide),WZ,if_neg (by rw[n2];decide),f1,f2];rfl
  ·have Jk:∀ y∈l,jb c.key y.key=true:=fun y hy=>cL a3 (h1 y hy);have f1:(l.filter fun y=>jb y.key c.key)=[]:=C5.2 fun y hy e=>by
    have:=cL (Jk y hy) e;rw[bA] at this;cases this
   have f2:(l.filter fun y=>jb c.key y.key)=l:=C6.2 Jk;rw[if_neg (by rw[a1];decide),if_neg (by rw[a2];decide),WZ,if_neg (by rw[a1];decide),WZ,if_pos a3,f1,f2];rfl
theorem zK2 {l:List (BA×BA)} (k:BA) (h:bV l):(l.filter fun r=>!bc r.1 k)=(l.filter fun r=>jb r.1 k)++l.filter fun r=>jb k r.1:=by
 induction l with
 | nil=>rfl
 | cons x l ih=>
  obtain⟨h1,h2⟩:=L3.1 h;have ih:=ih h2;rcases zD x.1 k with⟨a1,a2,a3,a4⟩|a1|⟨a1,a2,a3,a4⟩
  ·rw[WZ,if_pos (by rw[a2];rfl),WZ,if_pos a1,WZ,if_neg (by rw[a3];decide),ih];rfl
  ·have n1:jb x.1 k=false:=by rw[a1];exact bA _
   have n2:jb k x.1=false:=by rw[a1];exact bA _
   have n3:bc x.1 k=true:=by rw[a1];exact xB _
   rw[WZ,if_neg (by rw[n3];decide),WZ,if_neg (by rw[n1];decide),WZ,if_neg (by rw[n2];decide),ih]
  ·have Jk:∀ y∈l,jb k y.1=true:=fun y hy=>cL a3 (h1 y hy);have f1:(l.filter fun y=>jb y.1 k)=[]:=C5.2 fun y hy e=>by
    have:=cL (Jk y hy) e;rw[bA] at this;cases this
   rw[f1,X3] at ih;rw[WZ,if_pos (by rw[a2];rfl),WZ,if_neg (by rw[a1];decide),WZ,if_pos a3,ih,f1];rfl
theorem oY (h:Pc l):bV (aS l):=by
 unfold bV aS;rw[List.pairwise_map];exact h
theorem zHq (c:ma) (h:Pc l):aS ((Db l c).filter fQ)=Nb (aS (l.filter fQ)) c:=by
 have hr:bV (aS (l.filter fQ)):=oY (h.filter _);rw[zHD c h,List.filter_append,WZ,B4,B4];have e1:∀ (p:BA->Bool),(aS (l.filter fQ)).filter (fun r=>p r.1)=aS (l.filter fun x=>fQ x&&p x.key):=fun p=>by
  unfold aS;rw[List.filter_map,B4];congr 1;apply List.filter_congr;intro x _;show(p x.key&&fQ x)=(fQ x&&p x.key);exact Bool.and_comm _ _
 have e2:=e1 (fun k=>jb k c.key);have e3:=e1 (fun k=>jb c.key k)
 cases hg:c.gone with
 | true=>
  rw[iF hg,zK2 _ hr,e2,e3,if_neg (by unfold fQ;rw[hg];decide)];unfold aS;rw[X1]
 | false=>
  rw[iX hr hg,e2,e3,if_pos (by unfold fQ;rw[hg];rfl)];unfold aS;rw[X1,List.map_cons];rfl
theorem yX (l:List ma):∀ (rows:List ma),Pc rows->aS ((l.foldl Db rows).filter fQ)=iB (aS (rows.filter fQ)) l/\Pc (l.foldl Db rows):=by
 induction l with
 | nil=>intro rows h;exact⟨rfl,h⟩
 | cons c l ih=>
  intro rows h;obtain⟨a,b⟩:=ih (Db rows c) (zA8 c h);refine⟨?_,b⟩;show aS ((l.foldl Db (Db rows c)).filter fQ)=iB (Nb (aS (rows.filter fQ)) c) l;rw[a,zHq c h]
theorem zJm (h:fH rows):rows.filter fQ=rows:=C6.2 fun c hc=>by
 unfold fQ;rw[(h.1 c hc).2];rfl
theorem CS (h:fH rows) (l:List ma):aS (aK rows l)=iB (aS rows) l:=by
 have:=(yX l rows h.2).1;rw[zJm h] at this;exact this
theorem zLz (l:List ma):∀ (rows:List ma) (c:ma),c∈l.foldl Db rows->c∈l∨c∈rows:=by
 induction l with
 | nil=>intro rows c h;exact .inr h
 | cons x l ih=>
  intro rows c h;rcases ih _ c h with h|h
  ·exact .inl (D1 _ h)
  ·rcases vU h with rfl|h
   ·exact .inl (Y0 ..)
   ·exact .inr h
theorem tW (l:List ma):∀ (rows:List ma),(l.foldl Db rows).length<=rows.length+l.length:=by
 induction l with
 | nil=>intro rows;exact n_ _
 | cons x l ih=>
  intro rows;have h1:=ih (Db rows x);have h2:=yP rows x;show(l.foldl Db (Db rows x)).length<=_;rw[PZ];omega
theorem zGt (rows l:List ma):(aK rows l).length<=rows.length+l.length:=BZ (List.length_filter_le _ _) (tW l rows)
theorem zI3 (h:bS l=0):∀ c∈l,aD c=0:=by
 induction l with
 | nil=>intro c hc;exact absurd hc X0
 | cons x l ih=>
  intro c hc;have h':(if aD x=0 then bS l else aD x)=0:=h;by_cases e:aD x=0
  ·rw[if_pos e] at h';rcases L2.1 hc with rfl|hc
   ·exact e
   ·exact ih h' c hc
  ·rw[if_neg e] at h';exact absurd h' e
theorem zEG (h:fH rows) (hl:bS l=0):fH (aK rows l):=by
 refine⟨fun c hc=>?_,((yX l rows h.2).2).filter _⟩;obtain⟨h1,h2⟩:=List.mem_filter.1 hc;refine⟨?_,by unfold fQ at h2;simpa using h2⟩;rcases zLz l rows c h1 with h1|h1
 ·exact zI3 hl c h1
 ·exact(h.1 c h1).1
theorem xS:fH []:=⟨fun _ hc=>absurd hc X0,List.Pairwise.nil⟩
end
section
open Go.RowKit Go.Joins
attribute [local go_sem ↓] Go.wp_at_zero Go.wp_at_succ
theorem zGU (hk:k<l.length):(l.take (k+1)).foldl Db rows=Db ((l.take k).foldl Db rows) l[k]:=by
 rw[ZY hk,List.foldl_append];rfl
theorem lG (rows l:List ma) (v:Value) (ao:Option Addr) (cap B:Nat) (w:World) (ho:bO w B v rows) (hd:bW w ao l) (hr:rows.length<=100) (hl:l.length<=100):
  Calls p_ 100 #[v,.slice ao l.length cap] w fun e w'=>∃ v',e=.returned v'/\bO w' w.heap.size v' (aK rows l)/\Below w.heap.size w w':=by
 have Ys:=aa (uO rows v B w ho (by omega));have HD:=aa hd;clear ho hd;go_enter func100,ntmps100;go_wp2_with (go_at_call 81;refine Ys.out.mono ?_;rintro e w1 ⟨v1,rfl,mc,Ba⟩;have Pd:=aa mc;have zb:=aa Ba;clear mc Ba)
 go_loopw [0,11] (fun v iv wr=>∃ k:Nat,k<=l.length/\iv=.int .i64 (k:Int)/\bO wr w.heap.size v ((l.take k).foldl Db rows)/\Below w.heap.size w wr) (fun _ iv _=>l.length-(intOf iv).toNat)
 case atStart=>exact⟨0,OZ _,rfl,Pd.out,zb.out⟩
 case round=>
  obtain⟨k,hk,rfl,ho,hb⟩:=hrel;clear Pd zb;have Dq:=tW (l.take k) rows;rw[XY] at Dq;by_cases Aa:k<l.length
  ·have Za:(k:Int)<(l.length:Int):=by omega
   have Ih:(0:Int)<=(k:Int):=by omega
   rcases HD.out with e|⟨b,off,e,Bf⟩
   ·rw[e] at Aa;simp at Aa
   subst e;obtain⟨x0,x1,x2⟩:=Bf k Aa;have UC:=zGU (rows:=rows) Aa;clear Bf;generalize l[k]=x at *;generalize (l.take k).foldl Db rows=m at *;replace ⟨x0,x1,x2⟩:=Fe hb x0 x1 x2;have HO:=aa ho;have Md:=aa hb;have AL:=aa UC;have He:=aa (a_ wr (FX x.key x.val x.gone));have HPU:Hid (∀ W,Below wr.heap.size wr W->Calls p_ 146 #[u0,.agg #[.string x.key,.string x.val,.bool x.gone]] W fun e w'=>∃ v',e=.returned v'/\bO w' w.heap.size v' (Db m x)/\Below W.heap.size W w'):=fun W hW=>by
    refine(GR m x u0 w.heap.size W (bQ HO.out hW) (by omega)).mono ?_;rintro e w' ⟨g,Pb,rfl,h1,h2⟩;exact⟨_,rfl,dJ h1 (BZ Md.out.size hW.size),h2⟩
   clear ho hb UC;go_wp2_with (go_at_call 146;refine(HPU.out _ He.out).mono ?_;rintro e w7 ⟨v7,rfl,Xp,Af⟩;have vn:=aa Xp;have Gi:=aa (aB Md.out (n_ _) (aB He.out (n_ _) Af));clear Xp Af)
   exact⟨⟨k+1,by omega,by go_num,by rw[AL.out];exact vn.out,Gi.out⟩,by simp[intOf];omega⟩
  ·have ek:k=l.length:=by omega
   subst ek;have Za:¬(l.length:Int)<(l.length:Int):=by omega
   rw[O1] at ho;have HO:=aa ho;have Md:=aa hb;have Oz:=aa (zJR u0 (l.foldl Db rows) w.heap.size wr ⟨HO.out,fun _ _=>trivial⟩ (by have:=tW l rows;omega) Md.out.size);clear ho hb;go_wp2_with (go_at_call 177;refine Oz.out.mono ?_;rintro e w7 ⟨a7,n7,c7,rfl,hD7⟩;have GU:=aa hD7;clear hD7)
   go_ret;exact⟨_,rfl,GU.out.own.1,Md.out.trans GU.out.Ia⟩
end
end Go.Proofs.YtcfjimdfegejaaaGreatDoor
