import Derived.Test.YtcfjimdfegejaaaGreatDoorQ00
import Derived.Great.BuildSlice
import Derived.Test.YtcfjimdfegejaaaGreatDoorQ03
set_option maxHeartbeats 8000000
set_option maxRecDepth 100000
namespace Go.Proofs.YtcfjimdfegejaaaGreatDoor
open _root_.Array renaming all_eq_true_iff_forall_mem→V7,ext'→W7,getElem?_eq_some_iff→F1,getElem?_toList→E4,getElem_toList→Z9,length_toList→DZ,range→X9,size_map→W8,size_range→I8,size_setIfInBounds→H9
open Bool renaming and_eq_true→E1,false_eq_true→J3,not_false→M7,not_true→A8
open Builtin renaming zeroCells→KZ
open Go.Addr renaming add_mid→E5
open Int renaming toNat_natCast→Z1
open Lib renaming decDigits→L0,decDigits_one→L6
open List renaming append_assoc→M5,append_nil→T1,cons_append→P5,count_append→O3,count_cons_self→N5,dropLast_concat_getLast→R8,drop_eq_nil_of_le→M0,eq_nil_of_length_eq_zero→O8,ext_getElem?→B5,filter_append→J6,filter_cons→WZ,flatMap_append→O4,getElem?_eq_getElem→VY,getElem?_eq_none→A3,getElem?_map→N8,getElem?_set_ne→SZ,getElem?_take→I2,getElem_mem→MZ,getElem_replicate→V0,getElem_set_ne→P2,getElem_set_self→X2,length→Z7,length_append→YY,length_cons→PZ,length_eq_zero_iff→E0,length_replicate→L5,length_set→NZ,length_take→XY,map_append→X1,map_cons→U2,map_nil→s_,mem_append→Q0,mem_filter→A2,mem_map→Z2,mem_of_mem_take→e_,mem_or_eq_of_mem_set→F9,mem_singleton→GZ,nil_append→X3,not_mem_nil→X0,replicate→WY,set_append_right→Y9,size_toArray→C2,take→A5,take_append_drop→J2,take_append_of_le_length→E2,take_length→O1,take_of_length_le→LZ,take_succ_cons→A6,take_succ_eq_append_getElem→ZY,take_take→B6
open Nat renaming add_mul→Q8,add_zero→V8,le_trans→BZ,min_eq_left→N4,mul_le_mul_right→Q5,strongRecOn→X8,zero_add→TZ,zero_le→OZ
open Option renaming bind_some→V4,map_some→L4,some→I0
open Prod renaming mk→R6
open Go.Proofs.Tryz renaming prog→XZ,zeroCells322→Q3
open Value renaming oneCell'→U1,slice→FZ
open World renaming block_lt_of_cell?→AZ,frozen?_of_block→CZ,frozen?_setCell→EZ,new_ne→P3,ownsRow→F2,ownsRow_nil→M1
open Go.Proofs.Tryz
open World renaming cell?_of_block→b_,cell?_setCell_other→t_,cell?_setCell_same→u_,ownsRow.lt→l_
open Go.RowKit.Below renaming heap_setCell→h_,refl→r_
open Nat renaming le_refl→n_
open Go.Proofs.Tryz renaming prog→p_
open Value renaming string→v_,int→i_
open Go.Joins renaming below_alloc1→a_
variable {q next r1 r2:Int} {l:List ma} {k B g cap i n nb kb lb Rc t:Nat} {w w' w1:World} {L R:List Wr} {v:Value} {wait:List (Nat×BA)} {Fa:List (List Wr)} {d rest x y:BA} {lv:List Value} {out:List BA}
section
open Go.RowKit Go.Joins
attribute [local go_sem ↓] Go.wp_at_zero Go.wp_at_succ
def Wb (q:Int) (l:List Wr):List Wr:=l.filter fun x=>!(x.1==q)
theorem zA2 {l:List Wr} (hk:k<l.length):Wb q (l.take (k+1))=Wb q (l.take k)++if (l[k].1==q) then [] else [l[k]]:=by
 unfold Wb;rw[ZY hk,J6];cases h:(l[k].1==q)<;>simp[h]
theorem zHK {l:List Wr} (h:qh q l=none):Wb q l=l:=by
 induction l with
 | nil=>rfl
 | cons x l ih=>
  unfold qh at h
  cases e:(x.1==q) with
  | true=>rw[e] at h;simp at h
  | false=>
   rw[e] at h;have h':qh q l=none:=by simpa using h
   show List.filter _ (x::l)=x::l;rw[WZ,e];have:=ih h';unfold Wb at this;simp[this]
theorem zBK {q:Int}:∀ {l:List Wr} {k:Nat},qh q l=some k->∃ hk:k<l.length,(l[k].1==q)=true/\Wb q (l.take k)=l.take k
 | [],_,h=>by cases h
 | x::l,k,h=>by
  unfold qh at h
  cases e:(x.1==q) with
  | true=>
   rw[e] at h;have h':0=k:=by simpa using h
   subst h';exact⟨by simp,e,rfl⟩
  | false=>
   rw[e] at h
   cases hk:qh q l with
   | none=>rw[hk] at h;simp at h
   | some j=>
    rw[hk] at h;have h':j+1=k:=by simpa using h
    subst h';obtain⟨a,b,c⟩:=zBK hk;refine⟨by simpa using a,b,?_⟩;unfold Wb at c ⊢;rw[A6,WZ,e,c];rfl
theorem zD2 (q:Int) (l:List Wr):(Wb q l).length<=l.length:=List.length_filter_le _ _
theorem zKj (h:Re w B (.slice (some ⟨g,0,none⟩) L.length cap) L) (i:Nat) (hi:i<L.length) (x:Wr) (hx:x.2.size=96):Re (w.setCells g (i*97) (bL x)) B (.slice (some ⟨g,0,none⟩) L.length cap) (L.set i x):=by
 obtain⟨⟨hlen,h2⟩,hs⟩:=h;have Dl:∀ y∈L.set i x,y.2.size=96:=fun y hy=>(F9 hy).elim (hs y) (fun e=>by rw[e];exact hx);rcases h2 with⟨e,_⟩|⟨g',Pb,cur,e,hB,hg,h3,h4,h5,h6⟩
 ·cases e
 ·cases e;refine⟨⟨by rw[cC (z:=97) (fun y hy=>aY (Dl y hy))],.inr ⟨g,cap,(splice cur.toList (i*97) (bL x)).toArray,by rw[NZ],hB,?_,by rw[NZ];exact h3,h4,?_,?_⟩⟩,Dl⟩
  ·refine eY g _ (0,0) _ _ w cur.toList (by simpa using hg) ?_;rw[aY hx,DZ,h5];omega
  ·rw[C2,length_splice _ _ _ (by rw[aY hx,DZ,h5];omega),DZ,h5]
  ·rw[NZ];have hc:∀ y∈L,(bL y).length=97:=fun y hy=>aY (hs y hy);rw[<-uV hc i hi x (aY hx),<-h6];apply B5;intro j;have hb:i*97+(bL x).length<=cur.toList.length:=by rw[aY hx,DZ,h5];omega
   have za:i*97+(bL x).length<=(cur.toList.take (L.length*97)).length:=by rw[h6,cC hc,aY hx];omega
   rw[mS _ _ _ za,I2];by_cases hj:j<L.length*97
   ·rw[if_pos hj,mS _ _ _ hb,I2,if_pos hj]
   ·rw[if_neg hj,I2,if_neg hj,if_neg (by omega),if_neg (by rw[aY hx];omega)]
theorem zKZ (h:Re w B (.slice (some ⟨g,0,none⟩) L.length cap) L) (hR:L.take R.length=R):Re w B (.slice (some ⟨g,0,none⟩) R.length cap) R:=by
 obtain⟨⟨hlen,h2⟩,hs⟩:=h;have hRL:R.length<=L.length:=by have:=congrArg Z7 hR;rw[XY] at this;omega
 have Dl:∀ y∈R,y.2.size=96:=fun y hy=>hs y (e_ (by rw[hR];exact hy));rcases h2 with⟨e,_⟩|⟨g',Pb,cur,e,hB,hg,h3,h4,h5,h6⟩
 ·cases e
 ·cases e;refine⟨⟨cC (z:=97) fun y hy=>aY (Dl y hy),.inr ⟨g,cap,cur,rfl,hB,hg,by omega,h4,h5,?_⟩⟩,Dl⟩;have e1:cur.toList.take (R.length*97)=(L.flatMap bL).take (R.length*97):=by rw[<-h6,B6];congr 1;omega
  rw[e1]
  conv=>lhs;rw[<-J2 R.length L,hR,O4]
  rw[E2 (by rw[cC (z:=97) fun y hy=>aY (Dl y hy)];omega),LZ (by rw[cC (z:=97) fun y hy=>aY (Dl y hy)];omega)]
theorem zIu (h:Re w B (.slice (some ⟨g,0,none⟩) R.length cap) R) (zs:List Value) (hz:R.length*97+zs.length<=cap*97):Re (w.setCells g (R.length*97) zs) B (.slice (some ⟨g,0,none⟩) R.length cap) R:=by
 obtain⟨⟨hlen,h2⟩,hs⟩:=h;rcases h2 with⟨e,_⟩|⟨g',Pb,cur,e,hB,hg,h3,h4,h5,h6⟩
 ·cases e
 ·cases e;have Ee:cur.toList.length=cap*97:=(DZ ..).trans h5;have hb:R.length*97+zs.length<=cur.toList.length:=by rw[Ee];exact hz
  refine⟨⟨hlen,.inr ⟨g,cap,(splice cur.toList (R.length*97) zs).toArray,rfl,hB,eY g _ (0,0) _ _ w cur.toList (by simpa using hg) hb,h3,h4,?_,?_⟩⟩,hs⟩
  ·rw[C2,length_splice _ _ _ hb,DZ,h5]
  ·rw[<-h6];unfold splice;rw[E2 (by rw[XY,Ee];omega),B6];congr 1;omega
theorem zFK (h:Re w B (.slice (some ⟨g,0,none⟩) L.length cap) L) (hi:i<L.length):w.there g (i*97) 97:=by
 rcases h.1.2 with⟨e,_⟩|⟨g',Pb,cur,e,hB,hg,h3,h4,h5,h6⟩
 ·cases e
 ·cases e;exact rL (cur:=cur.toList) (by simpa using hg) (by rw[DZ,h5];omega)
theorem zFR (h:Re w B (.slice (some ⟨g,0,none⟩) L.length cap) L):∃ cur:List Value,w.heap[g]?=some (.cells cur.toArray 322 (0,0))/\cur.length=cap*97:=by
 rcases h.1.2 with⟨e,_⟩|⟨g',Pb,cur,e,hB,hg,h3,h4,h5,h6⟩
 ·cases e
 ·cases e;exact⟨cur.toList,by simpa using hg,by rw[DZ,h5]⟩
theorem gD {l:List Wr} (h:Re w B v l) (hk:∀ k,v.ownBlock=some k->w'.heap[k]?=w.heap[k]?):Re w' B v l:=by
 refine⟨⟨h.1.1,?_⟩,h.2⟩;rcases h.1.2 with e|⟨g,cap,cur,rfl,hB,hg,h3⟩
 ·exact .inl e
 ·exact .inr ⟨g,cap,cur,rfl,hB,(hk g rfl).trans hg,h3⟩
theorem dW {B g:Nat} {a:World} (hb:B<=g):∀ (vs:List Value) (o:Nat) (w:World),Below B a w->Below B a (w.setCells g o vs)
 | [],_,_,h=>h
 | v::vs,o,_,h=>dW hb vs (o+1) _ (h.setCell (p:=⟨g,o,none⟩) hb v)
theorem cA (g:Nat):∀ (vs:List Value) (o:Nat) (w:World) {k:Nat},k≠g->(w.setCells g o vs).heap[k]?=w.heap[k]?
 | [],_,_,_,_=>rfl
 | _::vs,o,_,_,h=>(cA g vs (o+1) _ h).trans (h_ _ _ _ _ h)
structure DT (w w':World) (B g:Nat) (v:Value) (l:List Wr):Prop where
 own:Re w' B v l
 Ia:Below B w w'
 Ma:∀ k,k≠g->k<w.heap.size->w'.heap[k]?=w.heap[k]?
theorem zFW:∃ z:Value,(∀ w,(zeroValue 322).run p_ w=.ok z w)/\z.cells.size=97/\∀ v∈z.cells,v.oneCell'=true:=by
 have h:(XZ.info? 322).bind (fun i=>i.zero.map fun z=>(z.cells.size,z.cells.all (·.oneCell')))=some (97,true):=by kernel_rfl
 cases hi:XZ.info? 322 with
 | none=>rw[hi] at h;cases h
 | some i=>
  rw[hi] at h
  cases hz:i.zero with
  | none=>simp[hz] at h
  | some z=>
   simp only[V4,hz,L4,I0.injEq,R6.injEq] at h;exact⟨z,fun w=>by simp[zeroValue,typeInfo,hi,hz],h.1,fun v hv=>V7.1 h.2 v hv⟩
end
structure Bb where
 now:List BA
 kept:List BA
 wait:List (Nat×BA)
 left:Int
 down:Bool
def pA (k:Int) (b:Nat):Bool:=Go.bits .and .u64 (k / 2 ^ b) 1==1
def oP (k:Int) (l:List Wr) (d:BA):BA:=l.foldl (fun d x=>if pA k x.1.toNat then x.2 else d) d
def kJ (i:Nat) (l:List (Nat×BA)) (at_:Nat):List Wr:=match l with
 | []=>[]
 | x::l=>if x.1=at_ then (((i % 64:Nat):Int),x.2)::kJ (i+1) l at_ else kJ (i+1) l at_
def fJ (k:Int) (i:Nat) (l:List (Nat×BA)) (K:List BA):List BA:=match l with
 | []=>K
 | x::l=>fJ k (i+1) l (if pA k (i % 64) then K.set x.1 x.2 else K)
def bD (n:Nat):BA:=⟨(WY n 0).toArray⟩
def aH (s:BA):BA:=⟨(s.data.toList++WY (96-s.size) 0).toArray⟩
def qQ (n:Nat):Bb:=⟨WY n (bD 96),WY n (bD 96),[],-1,false⟩
def cD (s:Bb):Nat:=if s.down || s.left==0 then 10 else 0
def bR (s:Bb):Bb:=if s.down then s else if s.left==0 then { s with down:=true } else { s with left:=if 0<s.left then s.left-1 else s.left }
def dO (s:Bb) (at_:Int) (d:BA):Nat:=if at_<0∨(s.now.length:Int)<=at_∨96<d.size then 1 else cD s
def sG (s:Bb) (at_:Nat) (d:BA):Bb:={ s with now:=s.now.set at_ d,wait:=s.wait++[(at_,d)] }
def cV (s:Bb) (at_:Int) (d:BA):Bb:=if at_<0∨(s.now.length:Int)<=at_∨96<d.size then s else if cD s=0 then sG (bR s) at_.toNat (aH d) else bR s
def bZ (s:Bb):Bb:=if cD s=0 then { bR s with kept:=s.now,wait:=[] } else bR s
def lI (s:Bb) (at_:Int):Nat:=if s.down then 10 else if at_<0∨(s.now.length:Int)<=at_ then 1 else 0
def nX (s:Bb) (at_:Int):BA:=if lI s at_=0 then s.now[at_.toNat]?.getD ⟨#[]⟩ else ⟨#[]⟩
def kR (s:Bb) (k:Int):Bb:=⟨fJ k 0 s.wait s.kept,fJ k 0 s.wait s.kept,[],-1,false⟩
structure jK (n:Nat) (wait:List (Nat×BA)) (Fa:List (List Wr)):Prop where
 len:Fa.length=n
 at_:∀ x∈wait,x.1<n
 same:∀ i (h:i<Fa.length) k d,oP k Fa[i] d=oP k (kJ 0 wait i) d
 bits:∀ i (h:i<Fa.length),(∀ x∈Fa[i],0<=x.1/\x.1<64/\x.2.size=96)/\(Fa[i].map (·.1)).Nodup
theorem sJ {s:BA} (h:s.size<=96):(aH s).size=96:=by
 show(s.data.toList++WY (96-s.size) 0).length=96;have e:s.data.toList.length=s.size:=by rw[DZ];rfl
 rw[YY,L5,e];omega
theorem zEt (n:Nat):(bD n).size=n:=by show(WY n (0:UInt8)).length=n;simp
theorem zCd (l:List (Nat×BA)) (a:Nat) (d:BA) (at_:Nat):∀ i,kJ i (l++[(a,d)]) at_=kJ i l at_++if a=at_ then [((((i+l.length) % 64:Nat):Int),d)] else []:=by
 induction l with
 | nil=>intro i;simp only[X3,kJ,List.length_nil,V8]
 | cons x l ih=>
  intro i;have e:i+1+l.length=i+(x::l).length:=by rw[PZ];omega
  simp only[P5,kJ,ih (i+1),e];split<;>simp
theorem zE (k:Int) (l:List Wr) (x:Wr) (d:BA):oP k (l++[x]) d=if pA k x.1.toNat then x.2 else oP k l d:=by
 unfold oP;rw[List.foldl_append];rfl
theorem zId (k q:Int) (l:List Wr) (h:pA k q.toNat=false):∀ d,oP k (Wb q l) d=oP k l d:=by
 induction l with
 | nil=>intro d;rfl
 | cons x l ih=>
  intro d;unfold Wb;rw[WZ]
  cases e:(x.1==q) with
  | true=>
   have e':x.1=q:=by simpa using e
   have ih':=ih d;unfold Wb at ih';simp only[A8,J3,if_false];rw[ih'];show oP k l d=oP k l (if pA k x.1.toNat then x.2 else d);rw[e',h];rfl
  | false=>simp only[M7,if_true];exact ih _
theorem zDh:∀ (n:Nat) (l:List Int),l.Nodup->(∀ x∈l,0<=x/\x<n)->l.length<=n
 | 0,l,_,h=>by
  cases l with
  | nil=>simp
  | cons x l=>have:=h x (List.mem_cons_self ..);omega
 | n+1,l,hn,h=>by
  have h1:(l.filter (fun x=>!(x==(n:Int)))).length<=n:=zDh n _ (hn.filter _) fun x hx=>by
   obtain⟨a,b⟩:=A2.1 hx;have:=h x a;have:x≠(n:Int):=by simpa using b
   omega
  have h2:l.length<=(l.filter (fun x=>!(x==(n:Int)))).length+1:=by
   clear h h1
   induction l with
   | nil=>simp
   | cons x l ih=>
    rw[List.nodup_cons] at hn;rw[WZ]
    cases e:(x==(n:Int)) with
    | true=>
     have e':x=(n:Int):=by simpa using e
     simp only[A8,J3,if_false,PZ];have:l.filter (fun x=>!(x==(n:Int)))=l:=by
      rw[List.filter_eq_self];intro y hy;have:y≠(n:Int):=fun e2=>hn.1 (by rw[e',<-e2];exact hy);simpa using this
     rw[this];omega
    | false=>
     simp only[M7,if_true,PZ];have:=ih hn.2;omega
  omega
theorem jK.short (h:jK n wait Fa) (hi:i<Fa.length):Fa[i].length<=64:=by
 have:=zDh 64 _ (h.bits i hi).2 (fun x hx=>by
  obtain⟨y,hy,rfl⟩:=Z2.1 hx;have:=(h.bits i hi).1 y hy;exact⟨this.1,this.2.1⟩)
 rwa [List.length_map] at this
theorem jK.none (n:Nat):jK n [] (WY n []):=
 ⟨by simp,fun _ h=>(X0 h).elim,fun i h k d=>by simp[kJ],fun i h=>by simp⟩
theorem jK.note (h:jK n wait Fa) {at_:Nat} (ha:at_<Fa.length) (hd:d.size=96):
  jK n (wait++[(at_,d)]) (Fa.set at_ (Wb ((wait.length % 64:Nat):Int) Fa[at_]++[(((wait.length % 64:Nat):Int),d)])):=by
 refine⟨by rw[NZ,h.len],fun x hx=>?_,fun i hi k e=>?_,fun i hi=>?_⟩
 ·rcases Q0.1 hx with hx|hx
  ·exact h.at_ x hx
  ·rw[GZ] at hx;rw[hx,<-h.len];exact ha
 ·rw[NZ] at hi;rw[zCd,TZ];by_cases e2:at_=i
  ·subst e2;rw[X2,if_pos rfl,zE,zE,Z1]
   cases hb:pA k (wait.length % 64) with
   | true=>rfl
   | false=>
    simp only[J3,if_false];rw[zId _ _ _ (by rw[Z1];exact hb)];exact h.same at_ hi k e
  ·rw[P2 e2,if_neg e2,T1];exact h.same i hi k e
 ·rw[NZ] at hi;by_cases e2:at_=i
  ·subst e2;rw[X2];obtain⟨h1,h2⟩:=h.bits at_ hi;have hm:wait.length % 64<64:=Nat.mod_lt _ (by omega);refine⟨fun x hx=>?_,?_⟩
   ·rcases Q0.1 hx with hx|hx
    ·exact h1 x (A2.1 hx).1
    ·rw[GZ] at hx;rw[hx];exact⟨by show(0:Int)<=((wait.length % 64:Nat):Int);omega,by show((wait.length % 64:Nat):Int)<64;omega,hd⟩
   ·rw[X1,List.nodup_append];refine⟨?_,by simp,fun a ha b hb=>?_⟩
    ·exact h2.sublist (List.Sublist.map _ List.filter_sublist)
    ·obtain⟨y,hy,rfl⟩:=Z2.1 ha;have It:=(A2.1 hy).2;simp only[U2,s_,GZ] at hb;rw[hb];simpa using It
  ·rw[P2 e2];exact h.bits i hi
section
open Go.RowKit Go.Joins
structure vi (w:World) (db nb kb lb n:Nat) (next left:Int) (down:Bool):Prop where
 c0:w.cell? ⟨db,0,none⟩=some (.slice (some ⟨nb,0,none⟩) n n)
 c1:w.cell? ⟨db,1,none⟩=some (.slice (some ⟨kb,0,none⟩) n n)
 c2:w.cell? ⟨db,2,none⟩=some (.slice (some ⟨lb,0,none⟩) n n)
 c3:w.cell? ⟨db,3,none⟩=some (.int .i64 next)
 c4:w.cell? ⟨db,4,none⟩=some (.int .i64 left)
 c5:w.cell? ⟨db,5,none⟩=some (.bool down)
 soft:∀ j,w.frozen? ⟨db,j,none⟩=false
structure Tk (w:World) (B db nb kb lb n:Nat) (lv:List Value) (now kept:List ByteArray) (Fa:List (List Wr)):Prop where
 hn:w.heap[nb]?=some (.cells (now.flatMap Ka).toArray 284 (0,0))
 hk:w.heap[kb]?=some (.cells (kept.flatMap Ka).toArray 284 (0,0))
 hl:w.heap[lb]?=some (.cells lv.toArray 323 (0,0))
 nn:now.length=n
 nk:kept.length=n
 nl:lv.length=n
 no:Fa.length=n
 sn:∀ s∈now,s.size=96
 sk:∀ s∈kept,s.size=96
 own:∀ i (h:i<lv.length) (h':i<Fa.length),Re w B lv[i] Fa[i]
 WA:∀ i j (hi:i<lv.length) (hj:j<lv.length) k,lv[i].ownBlock=some k->lv[j].ownBlock=some k->i=j
 tq:∀ i (hi:i<lv.length) k,lv[i].ownBlock=some k->k≠db/\k≠nb/\k≠kb/\k≠lb
 ap:db≠nb/\db≠kb/\db≠lb/\nb≠kb/\nb≠lb/\kb≠lb
 lo:B<=db/\B<=nb/\B<=kb/\B<=lb
 n1:1<=n/\n<=200
def Es (db nb kb lb:Nat) (lv:List Value) (k:Nat):Prop:=k=db∨k=nb∨k=kb∨k=lb∨∃ i,∃ h:i<lv.length,lv[i].ownBlock=some k
def JS (L left:Int):Prop:=max L (-1)=left/\-9223372036854775808<=L/\L<=9223372036854775807
def DK (w:World) (B db:Nat) (S:Nat->Prop) (s:Bb):Prop:=
 ∃ (nb kb lb n:Nat) (lv:List Value) (Fa:List (List Wr)) (L:Int),vi w db nb kb lb n ((s.wait.length % 64:Nat):Int) L s.down/\Tk w B db nb kb lb n lv s.now s.kept Fa/\S=Es db nb kb lb lv/\jK n s.wait Fa/\(∀ x∈s.wait,x.2.size=96)/\(s.down=false->JS L s.left)/\B<=w.heap.size
def Xa (w w':World) (B db:Nat) (S:Nat->Prop) (s:Bb):Prop:=∃ S',DK w' B db S' s/\aG w w' B S S'
section
variable {w w':World} {B db nb kb lb n:Nat} {S S':Nat->Prop} {s:Bb} {lv:List Value} {now pw:List ByteArray} {Fa:List (List Wr)} {next left:Int} {down:Bool}
theorem vi.kept (h:vi w db nb kb lb n next left down) (hk:w'.heap[db]?=w.heap[db]?):vi w' db nb kb lb n next left down:=
 ⟨(b_ hk).trans h.c0,(b_ hk).trans h.c1,(b_ hk).trans h.c2,(b_ hk).trans h.c3,(b_ hk).trans h.c4,(b_ hk).trans h.c5,fun j=>(CZ hk).trans (h.soft j)⟩
theorem vi.lt (h:vi w db nb kb lb n next left down):db<w.heap.size:=AZ _ _ h.c0
theorem Tk.kept (h:Tk w B db nb kb lb n lv now pw Fa) (hk:∀ k,k≠db->Es db nb kb lb lv k->w'.heap[k]?=w.heap[k]?):Tk w' B db nb kb lb n lv now pw Fa:=
 { h with
  hn:=(hk nb h.ap.1.symm (.inr (.inl rfl))).trans h.hn
  hk:=(hk kb h.ap.2.1.symm (.inr (.inr (.inl rfl)))).trans h.hk
  hl:=(hk lb h.ap.2.2.1.symm (.inr (.inr (.inr (.inl rfl))))).trans h.hl
  own:=fun i hi h'=>gD (h.own i hi h') fun k e=>hk k (h.tq i hi k e).1 (.inr (.inr (.inr (.inr ⟨i,hi,e⟩)))) }
theorem Tk.lt (h:Tk w B db nb kb lb n lv now pw Fa) (hd:db<w.heap.size) (hk:Es db nb kb lb lv k):k<w.heap.size:=by
 rcases hk with rfl|rfl|rfl|rfl|⟨i,hi,e⟩
 ·exact hd
 ·exact(F1.1 h.hn).1
 ·exact(F1.1 h.hk).1
 ·exact(F1.1 h.hl).1
 ·exact(l_ (h.own i hi (by rw[h.no,<-h.nl];exact hi)).1 k e).2
theorem DK.lt (h:DK w B db S s) (hk:S k):k<w.heap.size:=by
 obtain⟨nb,kb,lb,n,lv,Fa,L,h1,h2,rfl,_⟩:=h;exact h2.lt h1.lt hk
theorem DK.kept (h:DK w B db S s) (hs:w.heap.size<=w'.heap.size) (hk:∀ k,S k->w'.heap[k]?=w.heap[k]?):DK w' B db S s:=by
 obtain⟨nb,kb,lb,n,lv,Fa,L,h1,h2,rfl,h4,h5,h6,h7⟩:=h;exact⟨nb,kb,lb,n,lv,Fa,L,h1.kept (hk db (.inl rfl)),h2.kept fun k _ e=>hk k e,rfl,h4,h5,h6,BZ h7 hs⟩
theorem DK.on (h:DK w B db S s) (hb:Below w.heap.size w w'):DK w' B db S s:=h.kept hb.size fun k hk=>hb.block k (h.lt hk)
theorem DK.lo (h:DK w B db S s):B<=w.heap.size:=by
 obtain⟨nb,kb,lb,n,lv,Fa,L,h1,h2,rfl,h4,h5,h6,h7⟩:=h;exact h7
theorem DK.many (h:DK w B db S s):1<=s.now.length/\s.now.length<=200/\s.kept.length=s.now.length:=by
 obtain⟨nb,kb,lb,n,lv,Fa,L,h1,h2,rfl,h4,h5,h6,h7⟩:=h;have:=h2.nn;have:=h2.nk;have:=h2.n1;omega
theorem DK.whole (h:DK w B db S s):(∀ x∈s.now,x.size=96)/\(∀ x∈s.kept,x.size=96)/\∀ x∈s.wait,x.1<s.now.length/\x.2.size=96:=by
 obtain⟨nb,kb,lb,n,lv,Fa,L,h1,h2,rfl,h4,h5,h6,h7⟩:=h;exact⟨h2.sn,h2.sk,fun x hx=>⟨by rw[h2.nn];exact h4.at_ x hx,h5 x hx⟩⟩
theorem Xa.after {w2:World} {S1:Nat->Prop} (hs:aG w w1 B S S1) (ha:Xa w1 w2 B db S1 s):Xa w w2 B db S s:=by
 obtain⟨S2,hq,h2⟩:=ha;exact⟨S2,hq,hs.trans h2⟩
theorem DK.stay (h:DK w B db S s) (hb:Below w.heap.size w w'):Xa w w' B db S s:=⟨S,h.on hb,.on h.lo hb⟩
theorem Xa.post (ha:Xa w w1 B db S s) (hb:Below w1.heap.size w1 w'):Xa w w' B db S s:=by
 obtain⟨S',hp,hs⟩:=ha;exact⟨S',hp.on hb,hs.trans (.on hp.lo hb)⟩
theorem vi.Vo (h:vi w db nb kb lb n next left down) (v:Int):vi (w.setCell ⟨db,4,none⟩ (.int .i64 v)) db nb kb lb n next v down:=
 ⟨(t_ _ _ _ _ (by simp)).trans h.c0,(t_ _ _ _ _ (by simp)).trans h.c1,(t_ _ _ _ _ (by simp)).trans h.c2,(t_ _ _ _ _ (by simp)).trans h.c3,u_ _ _ _ h.c4,(t_ _ _ _ _ (by simp)).trans h.c5,fun j=>by rw[EZ];exact h.soft j⟩
theorem vi.Hv (h:vi w db nb kb lb n next left down) (v:Bool):vi (w.setCell ⟨db,5,none⟩ (.bool v)) db nb kb lb n next left v:=
 ⟨(t_ _ _ _ _ (by simp)).trans h.c0,(t_ _ _ _ _ (by simp)).trans h.c1,(t_ _ _ _ _ (by simp)).trans h.c2,(t_ _ _ _ _ (by simp)).trans h.c3,(t_ _ _ _ _ (by simp)).trans h.c4,u_ _ _ _ h.c5,fun j=>by rw[EZ];exact h.soft j⟩
theorem vi.next' (h:vi w db nb kb lb n next left down) (v:Int):vi (w.setCell ⟨db,3,none⟩ (.int .i64 v)) db nb kb lb n v left down:=
 ⟨(t_ _ _ _ _ (by simp)).trans h.c0,(t_ _ _ _ _ (by simp)).trans h.c1,(t_ _ _ _ _ (by simp)).trans h.c2,u_ _ _ _ h.c3,(t_ _ _ _ _ (by simp)).trans h.c4,(t_ _ _ _ _ (by simp)).trans h.c5,fun j=>by rw[EZ];exact h.soft j⟩
theorem Tk.head (h:Tk w B db nb kb lb n lv now pw Fa) (j:Nat) (v:Value):Tk (w.setCell ⟨db,j,none⟩ v) B db nb kb lb n lv now pw Fa:=h.kept fun _ hk _=>h_ _ _ _ _ hk
end
end
section
open Go.RowKit Go.Joins
attribute [local go_sem ↓] Go.wp_at_zero Go.wp_at_succ
section
variable {B db:Nat} {S:Nat->Prop} {s:Bb}
theorem mU (w:World) (h:DK w B db S s):Calls p_ 79 #[.pointer (some ⟨db,0,none⟩)] w fun e w'=>e=.returned (.int .i64 s.now.length)/\w'=w:=by
 obtain⟨nb,kb,lb,n,lv,Fa,L,h1,h2,_⟩:=h;have c0:=h1.c0;have hn:=h2.n1;rw[h2.nn];clear h1 h2;go_enter func79,ntmps79;go_wp2;go_ret;exact⟨rfl,rfl⟩
def fi (s:Bb) (at_:Int):Bool:=decide (0<=at_)&&decide (at_<(s.now.length:Int))
theorem zCJ (at_:Int) (w:World) (h:DK w B db S s):Calls p_ 210 #[.pointer (some ⟨db,0,none⟩),.int .i64 at_] w fun e w'=>e=.returned (.bool (fi s at_))/\w'=w:=by
 obtain⟨nb,kb,lb,n,lv,Fa,L,h1,h2,_⟩:=h;have c0:=h1.c0;have hn:=h2.n1;unfold fi;rw[h2.nn];clear h1 h2;by_cases h0:0<=at_
 ·have d0:decide (0<=at_)=true:=decide_eq_true h0;rw[d0];by_cases h2:at_<(n:Int)
  ·have d2:decide (at_<(n:Int))=true:=decide_eq_true h2;rw[d2];go_enter func210,ntmps210;go_wp2;go_ret;exact⟨rfl,rfl⟩
  ·have d2:decide (at_<(n:Int))=false:=decide_eq_false h2;rw[d2];go_enter func210,ntmps210;go_wp2;go_ret;exact⟨rfl,rfl⟩
 ·have d0:decide (0<=at_)=false:=decide_eq_false h0;rw[d0];go_enter func210,ntmps210;go_wp2;go_ret;exact⟨rfl,rfl⟩
theorem zGS (hd:s.down=true):cD s=10/\bR s=s:=by unfold cD bR;rw[hd];exact⟨rfl,rfl⟩
theorem zFZ (hd:s.down=false) (hl:s.left=0):cD s=10/\bR s={ s with down:=true }:=by
 unfold cD bR;rw[if_neg (show ¬s.down=true by rw[hd];decide),if_pos (show(s.left==0)=true by rw[hl];rfl),hd,hl];exact⟨rfl,rfl⟩
theorem zC6 (hd:s.down=false) (hl:s.left≠0):cD s=0/\bR s={ s with left:=if 0<s.left then s.left-1 else s.left }:=by
 unfold cD bR;rw[if_neg (show ¬s.down=true by rw[hd];decide),if_neg (show ¬(s.left==0)=true by simpa using hl),hd,show(s.left==0)=false by simpa using hl];exact⟨rfl,rfl⟩
theorem zBt (w:World) (h:DK w B db S s):Calls p_ 207 #[.pointer (some ⟨db,0,none⟩)] w fun e w'=>e=.returned (pa (cD s))/\Xa w w' B db S (bR s):=by
 have HW:=aa h;obtain⟨nb,kb,lb,n,lv,Fa,L,h1,h2,hS,h4,h5,h6,h7⟩:=h;have c4:=h1.c4;have f4:=h1.soft 4;have c5:=h1.c5;have f5:=h1.soft 5;have Ce:Hid (∀ (W:World) (s':Bb) (L':Int),vi W db nb kb lb n ((s.wait.length % 64:Nat):Int) L' s'.down->(∀ k,k≠db->W.heap[k]?=w.heap[k]?)->W.heap.size=w.heap.size->Below B w W->s'.now=s.now->s'.kept=s.kept->s'.wait=s.wait->(s'.down=false->JS L' s'.left)->Xa w W B db S s'):=fun W s' L' a1 a2 a3 a4 a5 a6 a7 a8=>
  ⟨S,⟨nb,kb,lb,n,lv,Fa,L',by rw[a7];exact a1,by rw[a5,a6];exact h2.kept fun k hk _=>a2 k hk,hS,by rw[a7];exact h4,by rw[a7];exact h5,a8,by rw[a3];exact h7⟩,⟨a4,fun k _ hn=>⟨a2 k (fun e=>hn (by rw[hS,e];exact .inl rfl)),hn⟩⟩⟩
 have H1:=aa h1;have H6:=aa h6;have Bh:=h2.lo.1;clear h1 h2 h4 h5 h6 hS h7;rcases Bool.eq_false_or_eq_true s.down with hd|hd
 ·rw[hd] at c5;obtain⟨e1,e2⟩:=zGS hd;rw[e1,e2,aP (show(10:Nat)≠0 by decide)];by_cases hL:L=0
  ·subst hL;have HE:=aa (Ce.out (w.setCell ⟨db,5,none⟩ (.bool true)) s 0 (by rw[hd];exact H1.out.Hv true) (fun k hk=>h_ _ _ _ _ hk) (by simp) ((r_ _ _).setCell (p:=⟨db,5,none⟩) Bh _) rfl rfl rfl (fun e=>by rw[hd] at e;cases e));clear Ce H1 H6 HW e1 e2;go_enter func207,ntmps207;go_wp2;go_ret;exact⟨rfl,HE.out⟩
  ·have hL':(L==0)=false:=by simpa using hL
   clear Ce H1 H6 e1 e2;go_enter func207,ntmps207;go_wp2;go_ret;exact⟨rfl,HW.out.stay (r_ _ _)⟩
 ·rw[hd] at c5;obtain⟨jm,Jh,Up⟩:=H6.out hd;by_cases hL:L=0
  ·subst hL;obtain⟨e1,e2⟩:=zFZ hd (by rw[<-jm];rfl);rw[e1,e2,aP (show(10:Nat)≠0 by decide)];have HE:=aa (Ce.out (w.setCell ⟨db,5,none⟩ (.bool true)) { s with down:=true } 0 (H1.out.Hv true) (fun k hk=>h_ _ _ _ _ hk) (by simp) ((r_ _ _).setCell (p:=⟨db,5,none⟩) Bh _) rfl rfl rfl (fun e=>by cases e));clear Ce H1 H6 HW e1 e2;go_enter func207,ntmps207;go_wp2;go_ret;exact⟨rfl,HE.out⟩
  ·have hL':(L==0)=false:=by simpa using hL
   obtain⟨e1,e2⟩:=zC6 hd (show s.left≠0 by rw[<-jm];omega);rw[e1,aR];by_cases hp:0<L
   ·rw[e2];have e3:s.left=L:=by rw[<-jm];omega
    rw[if_pos (by rw[e3];exact hp),e3];have HE:=aa (Ce.out (w.setCell ⟨db,4,none⟩ (.int .i64 (L-1))) { s with left:=L-1 } (L-1) (H1.out.Vo _) (fun k hk=>h_ _ _ _ _ hk) (by simp) ((r_ _ _).setCell (p:=⟨db,4,none⟩) Bh _) rfl rfl rfl (fun _=>⟨by show max (L-1) (-1)=L-1;omega,by omega,by omega⟩));rw[hd] at H1;clear Ce H1 H6 HW jm e1 e2 e3;go_enter func207,ntmps207;go_wp2;go_ret;exact⟨rfl,HE.out⟩
   ·have e4:bR s=s:=by rw[e2,if_neg (by rw[<-jm];omega)]
    rw[e4];clear e4 Ce H1 H6 jm e1 e2;go_enter func207,ntmps207;go_wp2;go_ret;exact⟨rfl,HW.out.stay (r_ _ _)⟩
theorem zJk {l:List ByteArray} {t:TypeId} (h:w.heap[g]?=some (.cells (l.flatMap Ka).toArray t (0,0))) (hs:∀ x∈l,x.size=96) (hi:i<l.length):w.rangeAt g (i*96) (Ka l[i]):=
 jD h fun j hj=>uZ (fun x hx=>(cM x).trans (hs x hx)) i j hi (by rw[cM,hs _ (MZ hi)] at hj;exact hj)
theorem tV (at_:Int) (w:World) (h:DK w B db S s):Calls p_ 170 #[.pointer (some ⟨db,0,none⟩),.int .i64 at_] w fun e w'=>e=.returned (.tuple #[.string (nX s at_),pa (lI s at_)])/\w'=w:=by
 have HH:=aa (fun W (hW:DK W B db S s)=>zCJ at_ W hW);have HW:=aa h;obtain⟨nb,kb,lb,n,lv,Fa,L,h1,h2,hS,h4,h5,h6,h7⟩:=h;have c0:=h1.c0;have c5:=h1.c5;have hn:=h2.n1;have hnn:=h2.nn;unfold nX lI
 cases hd:s.down with
 | true=>
  rw[hd] at c5;simp only[if_true,show(10:Nat)=0↔False by decide,if_false,aP (show(10:Nat)≠0 by decide)];clear HH h1 h2 hS h4 h5 h6 HW;go_enter func170,ntmps170;go_wp2;go_ret2;exact⟨rfl,rfl⟩
 | false=>
  rw[hd] at c5;simp only[J3,if_false];by_cases hr:at_<0∨(s.now.length:Int)<=at_
  ·have hb:fi s at_=false:=by unfold fi;simp;omega
   rw[hb] at HH;rw[if_pos hr,if_neg (by decide),aP (show(1:Nat)≠0 by decide)];clear h1 h2 hS h4 h5 h6;go_enter func170,ntmps170;go_wp2_with (go_at_call 210;refine(HH.out _ HW.out).mono ?_;rintro e w1 ⟨rfl,rfl⟩)
   go_ret2;exact⟨rfl,rfl⟩
  ·have hb:fi s at_=true:=by unfold fi;simp;omega
   rw[hb] at HH;rw[if_neg hr,if_pos rfl,aR];obtain⟨a,rfl⟩:=Int.eq_ofNat_of_zero_le (show 0<=at_ by omega);have ha:a<s.now.length:=by omega
   have zh:(a:Int)<(n:Int):=by omega
   rw[Z1,VY ha,Option.getD_some];have qi:=zJk h2.hn h2.sn ha;have Mb:=h2.sn _ (MZ ha);generalize s.now[a]=d at *;have hcv:=run_convert_bytes_back (P:=p_) w 226 9 5 ⟨nb,a*96,none⟩ 96 d.data.toList underlying226 underlying5 underlying9 (fun j hj=>by rw[E5];exact qi j _ (by unfold Ka;rw[N8,VY hj];rfl));have zg:d.data.toList.length=96:=by rw[DZ];exact Mb
   rw[zg] at hcv;clear h1 h2 hS h4 h5 h6 qi hr;go_enter func170,ntmps170;go_wp2_with (go_at_call 210;refine(HH.out _ HW.out).mono ?_;rintro e w1 ⟨rfl,rfl⟩)
   go_ret2;exact⟨by simp,rfl⟩
end
end
section
open Go.RowKit Go.Joins
theorem zLV (off:Nat) (vs:List Value) (C:Array Value) (h:off+vs.length<=C.size):(vs.toArray.zipIdx.foldl (fun cs (x:Value×Nat)=>cs.setIfInBounds (off+x.2) x.1) C)=(splice C.toList off vs).toArray:=by
 have e:vs.toArray.zipIdx.foldl (fun cs (x:Value×Nat)=>cs.setIfInBounds (off+x.2) x.1) C=(vs.zipIdx 0).foldl (fun cs (x:Value×Nat)=>cs.setIfInBounds (off+x.2) x.1) C:=by
  rw[<-Array.foldl_toList];simp
 rw[e];obtain⟨h1,h2⟩:=Go.Great.foldl_set off vs 0 C;apply W7;apply B5;intro k;rw[E4,h2 k];show _=(splice C.toList off vs)[k]?;have hC:C.toList.length=C.size:=DZ ..;rw[mS _ _ _ (by rw[hC];exact h),V8];by_cases h3:k<off
 ·rw[if_neg (by omega),if_pos h3,E4]
 ·rw[if_neg h3];by_cases h4:k<off+vs.length
  ·rw[if_pos ⟨by omega,h4,by omega⟩,if_pos h4]
  ·rw[if_neg (by omega),if_neg h4,E4]
theorem wM:∃ i z,XZ.info? 322=some i/\i.zero=some z/\i.size=97/\i.bytes=104/\z.cells.size=97:=by
 have h:(XZ.info? 322).bind (fun i=>i.zero.map fun z=>(z.cells.size,i.size,i.bytes))=some (97,97,104):=by kernel_rfl
 cases hi:XZ.info? 322 with
 | none=>rw[hi] at h;cases h
 | some i=>
  rw[hi] at h
  cases hz:i.zero with
  | none=>simp[hz] at h
  | some z=>
   simp only[V4,hz,L4,I0.injEq,R6.injEq] at h;exact⟨i,z,rfl,hz,h.2.1,h.2.2,h.1⟩
theorem zAy {L cs:List Value} (h:cs.length=L.length):splice L (0*97) cs=cs:=by
 unfold splice;rw[Nat.zero_mul,List.take_zero,X3,TZ,h,List.drop_length,T1]
theorem zMb (x:Wr) (hx:x.2.size=96) (w:World):(Instr.buildSlice 323 1 #[(0,.agg (bL x).toArray)]).run p_ w=.ok (.slice (some ⟨w.heap.size,0,none⟩) 1 1) (w.alloc (.cells (bL x).toArray 322)):=by
 obtain⟨i,z,hi,hz,hs,_,_⟩:=wM;refine run_buildSlice w _ _ 1 _ _ i z underlying323 hi hz (by rw[hs];omega) (by rw[hs];omega) ?_;have hl:=aY hx;have hC:((X9 (1*i.size)).map (z.cells[· % z.cells.size]!)).size=97:=by rw[W8,I8,hs]
 generalize (X9 (1*i.size)).map (z.cells[· % z.cells.size]!)=C at *;show Instr.fill _ C [(0,.agg (bL x).toArray)]=_;unfold Instr.fill;dsimp only;rw[hs,show(Value.agg (bL x).toArray).cells=(bL x).toArray from rfl,if_neg (by rw[C2,hl,hC];decide)];unfold Instr.fill;have e:=zLV (0*97) (bL x) C (by rw[hl,hC];decide);rw[e];rw[I0.injEq];refine congrArg List.toArray ?_;have hCl:C.toList.length=97:=(DZ ..).trans hC;exact zAy (by rw[hl,hCl])
theorem zG8 (C:Array Value) (hC:C.size=97) (q:Int) (d:ByteArray) (hd:d.size=96):List.foldl (fun cs (x:Value×Nat)=>cs.setIfInBounds (1+x.2) x.1) (C.setIfInBounds 0 (i_ .i64 q)) (Ka d).zipIdx=(bL (q,d)).toArray:=by
 obtain⟨h1,h2⟩:=Go.Great.foldl_set 1 (Ka d) 0 (C.setIfInBounds 0 (i_ .i64 q));have hl:(Ka d).length=96:=(cM d).trans hd;apply W7;apply B5;intro k;rw[E4,h2 k,H9,hC];show _=(bL (q,d))[k]?;unfold bL
 cases k with
 | zero=>rw[if_neg (by omega)];simp[hC]
 | succ k=>
  rw[List.getElem?_cons_succ];by_cases h:k<96
  ·rw[if_pos ⟨by omega,by omega,by omega⟩];congr 1
  ·rw[if_neg (by omega),Array.getElem?_eq_none (by rw[H9,hC];omega),A3 (by rw[hl];omega)]
end
section
open Go.RowKit Go.Joins
attribute [local go_sem ↓] Go.wp_at_zero Go.wp_at_succ
theorem zIO (pb:Nat) (q:Int) (g cap:Nat) (l:List Wr) (B:Nat) (w:World) (hq:w.cell? ⟨pb,0,none⟩=some (.int .i64 q)) (h:Re w B (.slice (some ⟨g,0,none⟩) l.length cap) l) (oy:pb≠g) (hl:l.length<=1000) (hB:B<=w.heap.size):
  Calls p_ 246 #[.slice (some ⟨g,0,none⟩) l.length cap,.func (.func 247) #[] #[.pointer (some ⟨pb,0,none⟩)]] w fun e w'=>e=.returned (.slice (some ⟨g,0,none⟩) (Wb q l).length cap)/\DT w w' B g (.slice (some ⟨g,0,none⟩) (Wb q l).length cap) (Wb q l):=by
 have HI:=aa (zKB pb q g cap l B w hq h hl);have H:=aa h;have HQ:=aa hq;have hpb:pb<w.heap.size:=AZ _ _ hq;have ll:g<w.heap.size:=by
  rcases h.1.2 with⟨e,_⟩|⟨g',Pb,cur,e,_,hg,_⟩
  ·cases e
  ·cases e;exact(F1.1 hg).1
 have GB:B<=g:=(l_ h.1 g rfl).1;have Ri:l.length<=cap/\cap<=9223372036854775807:=by
  rcases h.1.2 with⟨e,_⟩|⟨g',Pb,cur,e,_,hg,h1,h2,_⟩
  ·cases e
  ·cases e;unfold maxLen at h2;exact⟨h1,by omega⟩
 obtain⟨il,Aj⟩:=Ri;clear h hq
 cases fm:qh q l with
 | none=>
  have HR:=aa (zHK fm);have Ig:Pk q l=-1:=by unfold Pk;rw[fm]
  rw[Ig] at HI;rw[HR.out];clear fm Ig;go_enter func246,ntmps246;go_wp2_with (go_at_call 279;refine HI.out.mono ?_;rintro e w1 ⟨rfl,Ba⟩)
  go_ret;exact⟨rfl,⟨gD H.out fun k e=>by cases e;exact Ba.block g ll,Ba.mono hB,fun k _ hk=>Ba.block k hk⟩⟩
 | some i0=>
  obtain⟨Qb,hh,ht⟩:=zBK fm;have Ig:Pk q l=(i0:Int):=by unfold Pk;rw[fm]
  rw[Ig] at HI;have HT:=aa ht;have Ow:=aa hh;clear fm Ig ht hh;have La:((i0:Int) == -1)=false:=beq_eq_false_iff_ne.2 (by omega);go_enter func246,ntmps246;go_wp2_with (go_at_call 279;refine HI.out.mono ?_;rintro e w1 ⟨rfl,Ba⟩)
  go_loopw [5,6] (fun iv jv wr=>∃ (j:Nat) (L:List Wr),j<=l.length/\(Wb q (l.take j)).length<j/\iv=.int .i64 ((Wb q (l.take j)).length:Int)/\jv=.int .i64 (j:Int)/\L.length=l.length/\L.take (Wb q (l.take j)).length=Wb q (l.take j)/\(∀ m,j<=m->L[m]?=l[m]?)/\DT w wr B g (.slice (some ⟨g,0,none⟩) l.length cap) L) (fun _ jv _=>l.length-(intOf jv).toNat)
  case atStart=>
   have e1:Wb q (l.take (i0+1))=l.take i0:=by rw[zA2 Qb,Ow.out,HT.out];simp
   refine⟨i0+1,l,by omega,by rw[e1,XY];omega,?_,by go_num,rfl,?_,fun _ _=>rfl,⟨gD H.out fun k e=>by cases e;exact Ba.block g ll,Ba.mono hB,fun k _ hk=>Ba.block k hk⟩⟩
   ·rw[e1,XY,N4 (by omega)]
   ·rw[e1,XY,N4 (by omega)]
  case round=>
   obtain⟨j,L,hj,Yx,rfl,rfl,cz,NB,MB,hD⟩:=hrel;have HD:=aa hD;have dt:=aa NB;have Xj:=aa MB;have Ii:=aa cz;clear hD NB MB cz;by_cases Aa:j<l.length
   ·have Za:(j:Int)<(l.length:Int):=by omega
    have ya:Re wr B (.slice (some ⟨g,0,none⟩) L.length cap) L:=by rw[Ii.out];exact HD.out.own
    have kz:j<L.length:=by rw[Ii.out];exact Aa
    have hx:L[j]=l[j]:=by
     have:=Xj.out j (n_ _);rw[VY kz,VY Aa] at this;exact I0.inj this
    have qi:=yM ya kz;rw[hx] at qi;have ik:=aa qi;have yz:l[j].2.size=96:=by rw[<-hx];exact ya.2 _ (MZ kz)
    have dr:=aa yz;have DA:=aa (zA2 (q:=q) Aa);generalize Ou:l[j]=x at *;have HXE:=aa Ou;have bd:=aa ya;have Xz:=aa hx;clear Ou ya hx qi yz;generalize DD:(Wb q (A5 j l)).length=i at *;have lp:=aa DD;clear DD;have Ee:(bL x).length=97:=aY dr.out;have hz:(Q3).size=97:=by kernel_rfl
    have Zb:=zBB (P:=p_) wr Q3 322 (bL x) (by rw[Ee,hz]) (qY x);clear hz;have TG:Hid ((wr.alloc (.cells (bL x).toArray 322)).rangeAt wr.heap.size 0 (bL x)):=jD (Go.heap_alloc_new wr _) (fun j _=>by rw[TZ]);have Mb:w.heap.size<=wr.heap.size:=HD.out.Ia.size;have hqx:(wr.alloc (.cells (bL x).toArray 322)).cell? ⟨pb,0,none⟩=some (.int .i64 q):=by
     rw[World.cell?_alloc_lt _ _ _ (show pb<wr.heap.size by omega),b_ (HD.out.Ma pb oy hpb)];exact HQ.out
    have HH:=fun (W:World) hW=>aa (zFk pb q x W hW);have NV:=aa hqx;clear hqx;have ZO:∀ w2:World,Below (wr.alloc (.cells (bL x).toArray 322)).heap.size (wr.alloc (.cells (bL x).toArray 322)) w2->w2.rangeAt wr.heap.size 0 (bL x):=fun w2 hb=>mF hb TG.out;have HLW:=aa ZO;have Vt:Hid (∀ w2:World,Below (wr.alloc (.cells (bL x).toArray 322)).heap.size (wr.alloc (.cells (bL x).toArray 322)) w2->DT w w2 B g (.slice (some ⟨g,0,none⟩) l.length cap) L):=fun w2 hb=>by
     have Sd:=aB (a_ wr (.cells (bL x).toArray 322)) (n_ _) hb;exact⟨gD HD.out.own fun k e=>by cases e;exact Sd.block g (by omega),HD.out.Ia.trans (Sd.mono (by omega)),fun k h1 h2=>(Sd.block k (by omega)).trans (HD.out.Ma k h1 h2)⟩
    clear ZO
    cases Mv:(x.1==q) with
    | true=>
     go_wp2_with (first
      | (refine wpList_load_mid (by rfl) 322 _ (by rfl) g (j*97) (by rfl) (bL x) _ ik.out underlying322 (by rfl) (by rw[aY dr.out];exact gA) ?_)
      | (refine wpList_load_mid (by rfl) 322 _ (by rfl) wr.heap.size 0 (by rfl) (bL x) _ TG.out underlying322 (by rfl) (by rw[aY dr.out];exact gA) ?_)
      | (go_at_call 247;refine(HH _ NV.out).out.mono ?_;rintro e w2 ⟨rfl,za⟩)
      | fail)
     have e1:Wb q (l.take (j+1))=Wb q (l.take j):=by rw[DA.out,Mv];simp
     refine⟨⟨j+1,L,by omega,by rw[e1,lp.out];omega,by rw[e1,lp.out],by go_num,Ii.out,by rw[e1,lp.out];exact dt.out,fun m hm=>Xj.out m (by omega),Vt.out _ za⟩,by simp[intOf];omega⟩
    | false=>
     have hib:(i:Int)<(l.length:Int):=by omega
     go_wp2_with (first
      | (refine wpList_load_mid (by rfl) 322 _ (by rfl) g (j*97) (by rfl) (bL x) _ ik.out underlying322 (by rfl) (by rw[aY dr.out];exact gA) ?_)
      | (refine wpList_load_mid (by rfl) 322 _ (by rfl) wr.heap.size 0 (by rfl) (bL x) _ TG.out underlying322 (by rfl) (by rw[aY dr.out];exact gA) ?_)
      | (refine wpList_load_mid (by rfl) 322 _ (by rfl) wr.heap.size 0 (by rfl) (bL x) _ (HLW.out _ za) underlying322 (by rfl) (by rw[aY dr.out];exact gA) ?_)
      | (go_at_call 247;refine(HH _ NV.out).out.mono ?_;rintro e w2 ⟨rfl,za⟩)
      | (refine wpList_store_mid (by rfl) 322 _ _ (by rfl) g (i*97) (bL x).toArray (by rfl) (by rfl) (by rw[C2,aY dr.out];exact(zFK (by rw[Ii.out];exact(Vt.out _ za).own) (by rw[Ii.out];omega))) (by rw[C2,aY dr.out];exact gA) (all_oneCell_toArray (qY x)) ?_)
      | fail)
     have e1:Wb q (l.take (j+1))=Wb q (l.take j)++[x]:=by rw[DA.out,Mv];rfl
     have e2:(Wb q (l.take (j+1))).length=i+1:=by rw[e1,YY,lp.out];rfl
     have Cx:=Vt.out _ za;have CD:i<L.length:=by rw[Ii.out];omega
     refine⟨⟨j+1,L.set i x,by omega,by rw[e2];omega,by rw[e2];go_num,by go_num,by rw[NZ];exact Ii.out,?_,fun m hm=>?_,⟨?_,dW GB _ _ _ Cx.Ia,fun k h1 h2=>(cA g _ _ _ h1).trans (Cx.Ma k h1 h2)⟩⟩,by simp[intOf];omega⟩
     ·rw[e2,e1,List.take_set,ZY CD,dt.out,Y9 _ _ (by rw[lp.out];exact n_ _),lp.out,Nat.sub_self];rfl
     ·rw[SZ (by omega)];exact Xj.out m (by omega)
     ·have:=zKj (by rw[Ii.out];exact Cx.own) i CD x dr.out;rw[Ii.out] at this;exact this
   ·have ej:j=l.length:=by omega
    subst ej;have Za:¬(l.length:Int)<(l.length:Int):=by omega
    rw[O1] at *;have ya:Re wr B (.slice (some ⟨g,0,none⟩) L.length cap) L:=by rw[Ii.out];exact HD.out.own
    have hR:=zKZ ya dt.out;obtain⟨cur,Bj,Ee⟩:=zFR ya;obtain⟨z,Yc,te,Kq⟩:=zFW;have ri:=fun ty=>oJ (P:=p_) wr 323 322 ty z underlying323 Yc Kq g ((Wb q l).length*97) (l.length-(Wb q l).length) (cap-(Wb q l).length) cur _ Bj (by rw[te,Ee,<-Q8];exact Q5 _ (by omega));have HP:=aa (zIu hR (KZ z.cells (l.length-(Wb q l).length)).toList (by simp only[KZ,DZ,W8,I8,te];rw[<-Q8];exact Q5 _ (by omega)));generalize (KZ z.cells (l.length-(Wb q l).length)).toList=zs at *;have MG:=aa ri;clear ri Yc te Kq hR ya Bj Ee;generalize Kn:Wb q l=R at *;have qq:=aa Kn;clear Kn;have Yh:=MG.out 0;go_wp2;go_ret;rw[qq.out];exact⟨rfl,⟨HP.out,dW GB _ _ _ HD.out.Ia,fun k h1 h2=>(cA g _ _ _ h1).trans (HD.out.Ma k h1 h2)⟩⟩
theorem zLb (pb:Nat) (w:World):
  Calls p_ 246 #[.slice none 0 0,.func (.func 247) #[] #[.pointer (some ⟨pb,0,none⟩)]] w fun e w'=>e=.returned (.slice none 0 0)/\w'=w:=by
 have HI:Calls p_ 279 #[.slice none 0 0,.func (.func 247) #[] #[.pointer (some ⟨pb,0,none⟩)]] w fun e w'=>e=.returned (.int .i64 (-1))/\w'=w:=by
  go_enter func279,ntmps279;go_wp2;refine wp_loop_rounds 1 ?_;rw[rounds_succ];go_wp2;go_ret;exact⟨rfl,rfl⟩
 go_enter func246,ntmps246;go_wp2_with (go_at_call 279;refine HI.mono ?_;rintro e w1 ⟨rfl,rfl⟩)
 go_ret;exact⟨rfl,rfl⟩
structure Ot (w w':World) (B:Nat) (v v':Value) (l:List Wr):Prop where
 own:Re w' B v' l
 Ia:Below B w w'
 Ma:∀ k,v.ownBlock≠some k->k<w.heap.size->w'.heap[k]?=w.heap[k]?
 same:v'.ownBlock=v.ownBlock
theorem zMt (pb:Nat) (q:Int) (v:Value) (l:List Wr) (B:Nat) (w:World) (hq:w.cell? ⟨pb,0,none⟩=some (.int .i64 q)) (h:Re w B v l) (oy:v.ownBlock≠some pb) (hl:l.length<=1000) (hB:B<=w.heap.size):
  Calls p_ 246 #[v,.func (.func 247) #[] #[.pointer (some ⟨pb,0,none⟩)]] w fun e w'=>∃ ao n cap,e=.returned (.slice ao n cap)/\Ot w w' B v (.slice ao n cap) (Wb q l):=by
 rcases h.1.2 with⟨e,e2⟩|⟨g,cap,cur,e,_⟩
 ·subst e;have gm:l=[]:=O8 e2;subst gm;exact(zLb pb w).mono fun e w' ⟨he,hw⟩=>⟨none,0,0,he,by subst hw;exact⟨h,r_ _ _,fun _ _ _=>rfl,rfl⟩⟩
 ·subst e;exact(zIO pb q g cap l B w hq h (fun e=>oy (by rw[e];rfl)) hl hB).mono fun e w' ⟨he,hD⟩=>⟨_,_,_,he,⟨hD.own,hD.Ia,fun k hk Aa=>hD.Ma k (fun e=>hk (by rw[e];rfl)) Aa,rfl⟩⟩
end
section
open Go.RowKit Go.Joins
def Vu (d:ByteArray):Value:=.string d
def Ms (w:World) (B:Nat) (v:Value) (l:List ByteArray):Prop:=w.ownsRow B 9 1 v l.length (l.map Vu)
theorem zG5:∃ i z,XZ.info? 9=some i/\i.zero=some z/\i.size=1/\i.bytes=16/\z.cells.size=1:=by
 have h:(XZ.info? 9).bind (fun i=>i.zero.map fun z=>(z.cells.size,i.size,i.bytes))=some (1,1,16):=by kernel_rfl
 cases hi:XZ.info? 9 with
 | none=>rw[hi] at h;cases h
 | some i=>
  rw[hi] at h
  cases hz:i.zero with
  | none=>simp[hz] at h
  | some z=>
   simp only[V4,hz,L4,I0.injEq,R6.injEq] at h;exact⟨i,z,rfl,hz,h.2.1,h.2.2,h.1⟩
theorem zOT:w.ownsRow B 9 1 (.slice none 0 0) 0 []:=⟨rfl,.inl ⟨rfl,rfl⟩⟩
theorem zJg {l:List ByteArray} (h:Ms w B v l) (hl:0<l.length):∃ g cap,v=.slice (some ⟨g,0,none⟩) l.length cap/\∀ i (hi:i<l.length),w.cell? ⟨g,i,none⟩=some (.string l[i]):=by
 rcases h.2 with⟨_,e⟩|⟨g,cap,cur,e,_⟩
 ·omega
 ·refine⟨g,cap,e,fun i hi=>?_⟩;have:=F2.cells h (g:=g) (by rw[e];rfl) i (.string l[i]) (by rw[N8,VY hi];rfl);rwa [E5,TZ] at this
end
section
open Go.RowKit Go.Joins
attribute [local go_sem ↓] Go.wp_at_zero Go.wp_at_succ
theorem zFE (n:Nat):∀ m,m=n*96->(WY n (bD 96)).flatMap Ka=WY m (i_ .u8 0):=by
 induction n with
 | zero=>intro m h;rw[h];rfl
 | succ n ih=>
  intro m h;rw[List.replicate_succ,List.flatMap_cons,ih (n*96) rfl,h,Nat.succ_mul,Nat.add_comm,<-List.replicate_append_replicate];congr 1
theorem yG (Z:Array Value) (n:Nat) (v:Value) (hz:Z.toList=WY Z.size v):((X9 n).map (Z[· % Z.size]!)).toList=WY n v∨Z.size=0:=by
 by_cases h0:Z.size=0
 ·exact .inr h0
 ·refine .inl ?_;apply List.ext_getElem
  ·simp
  ·intro i h1 h2;have hm:i % Z.size<Z.size:=Nat.mod_lt _ (by omega);simp only[Z9,Array.getElem_map,Array.getElem_range,V0];rw[getElem!_pos Z _ hm,<-Z9];simp only[hz,V0]
theorem zCz:∃ i z,XZ.info? 284=some i/\i.zero=some z/\i.size=96/\i.bytes=96/\z.cells.size=96/\z.cells.toList=WY 96 (i_ .u8 0):=by
 have h:(XZ.info? 284).bind (fun i=>i.zero.map fun z=>(z.cells.size,i.size,i.bytes,z.cells.toList))=some (96,96,96,WY 96 (i_ .u8 0)):=by kernel_rfl
 cases hi:XZ.info? 284 with
 | none=>rw[hi] at h;cases h
 | some i=>
  rw[hi] at h
  cases hz:i.zero with
  | none=>simp[hz] at h
  | some z=>
   simp only[V4,hz,L4,I0.injEq,R6.injEq] at h;exact⟨i,z,rfl,hz,h.2.1,h.2.2.1,h.1,h.2.2.2⟩
theorem zCv (n:Nat) (h1:1<=n) (h2:n<=200) (w:World):(Instr.makeSlice 152 (.int .i64 n) (.int .i64 n)).run p_ w=.ok (.slice (some ⟨w.heap.size,0,none⟩) n n) (w.alloc (.cells ((WY n (bD 96)).flatMap Ka).toArray 284)):=by
 obtain⟨i,z,hi,hz,hs,hb,By,Az⟩:=zCz;have hc:madeCells z.cells (n*96)=((WY n (bD 96)).flatMap Ka).toArray:=by
  apply W7;rw[zFE n (n*96) rfl];rcases yG z.cells (n*96) (.int .u8 0) (by rw[By];exact Az) with e|e
  ·exact e
  ·omega
 have h:=run_makeSlice (P:=p_) w 152 284 i z underlying152 hi hz .i64 .i64 n n (by omega) (Int.le_refl _) (by rw[hs,Z1];omega) (by rw[hb];omega) (by omega);rw[hs,Z1,hc] at h;exact h
theorem zGR:∃ i,XZ.info? 323=some i/\i.zero=some (.slice none 0 0)/\i.size=1/\i.bytes=24:=by
 have h:(XZ.info? 323).map (fun i=>(i.zero,i.size,i.bytes))=some (some (.slice none 0 0),1,24):=by kernel_rfl
 cases hi:XZ.info? 323 with
 | none=>rw[hi] at h;cases h
 | some i=>
  rw[hi] at h;simp only[L4,I0.injEq,R6.injEq] at h;exact⟨i,rfl,h.1,h.2.1,h.2.2⟩
theorem zHy (n:Nat) (h1:1<=n) (h2:n<=200) (w:World):(Instr.makeSlice 153 (.int .i64 n) (.int .i64 n)).run p_ w=.ok (.slice (some ⟨w.heap.size,0,none⟩) n n) (w.alloc (.cells (WY n (.slice none 0 0)).toArray 323)):=by
 obtain⟨i,hi,hz,hs,hb⟩:=zGR;have hc:madeCells (FZ none 0 0).cells (n*1)=(WY n (FZ none 0 0)).toArray:=by
  apply W7;rw[Nat.mul_one];rcases yG (FZ none 0 0).cells n (.slice none 0 0) rfl with e|e
  ·exact e
  ·cases e
 have h:=run_makeSlice (P:=p_) w 153 323 i (.slice none 0 0) underlying153 hi hz .i64 .i64 n n (by omega) (Int.le_refl _) (by rw[hs,Z1];omega) (by rw[hb];omega) (by omega);rw[hs,Z1,hc] at h;exact h
theorem zNi {w W:World} {n db nb kb lb:Nat} (h1:1<=n) (h2:n<=200) (hd:W.heap[db]?=some (.cells #[.slice (some ⟨nb,0,none⟩) n n,.slice (some ⟨kb,0,none⟩) n n,.slice (some ⟨lb,0,none⟩) n n,.int .i64 0,.int .i64 (-1),.bool false] 155 (0,0)))
  (hn:W.heap[nb]?=some (.cells ((WY n (bD 96)).flatMap Ka).toArray 284 (0,0))) (hk:W.heap[kb]?=some (.cells ((WY n (bD 96)).flatMap Ka).toArray 284 (0,0))) (hl:W.heap[lb]?=some (.cells (WY n (.slice none 0 0)).toArray 323 (0,0)))
  (jf:db≠nb/\db≠kb/\db≠lb/\nb≠kb/\nb≠lb/\kb≠lb) (Bh:w.heap.size<=db/\w.heap.size<=nb/\w.heap.size<=kb/\w.heap.size<=lb):∃ S,DK W w.heap.size db S (qQ n):=by
 have c:∀ j,W.cell? ⟨db,j,none⟩=(#[.slice (some ⟨nb,0,none⟩) n n,.slice (some ⟨kb,0,none⟩) n n,.slice (some ⟨lb,0,none⟩) n n,.int .i64 0,.int .i64 (-1),.bool false]:Array Value)[j]?:=fun j=>cell_of_row W db j _ _ _ hd;have z96:∀ s∈WY n (bD 96),s.size=96:=fun s hs=>by rw[List.eq_of_mem_replicate hs];exact zEt 96
 refine⟨_,nb,kb,lb,n,WY n (.slice none 0 0),WY n [],-1,⟨c 0,c 1,c 2,c 3,c 4,c 5,fun j=>by simp[World.frozen?,hd]⟩,⟨hn,hk,hl,by simp[qQ],by simp[qQ],by simp,by simp,z96,z96,fun i _ _=>?_,fun i j _ _ k e=>?_,fun i _ k e=>?_,jf,Bh,⟨h1,h2⟩⟩,rfl,jK.none n,fun x hx=>(X0 hx).elim,fun _=>⟨rfl,by decide,by decide⟩,?_⟩
 ·rw[V0,V0];exact⟨⟨rfl,.inl ⟨rfl,rfl⟩⟩,fun x hx=>(X0 hx).elim⟩
 ·rw[V0] at e;cases e
 ·rw[V0] at e;cases e
 ·have:=(F1.1 hd).1;omega
theorem Ob (w:World) (A B C D:Obj):((((w.alloc A).alloc B).alloc C).alloc D).heap[w.heap.size]?=some A/\((((w.alloc A).alloc B).alloc C).alloc D).heap[w.heap.size+1]?=some B/\((((w.alloc A).alloc B).alloc C).alloc D).heap[w.heap.size+2]?=some C/\((((w.alloc A).alloc B).alloc C).alloc D).heap[w.heap.size+3]?=some D:=by
 have e:((((w.alloc A).alloc B).alloc C).alloc D).heap=(((w.heap.push A).push B).push C).push D:=rfl;rw[e];simp only[Array.getElem?_push,Array.size_push];refine⟨?_,?_,?_,?_⟩<;>simp;rw[if_neg (by omega),if_neg (by omega)]
theorem ke (w:World) (A B C D:Obj):Below w.heap.size w ((((w.alloc A).alloc B).alloc C).alloc D):=
 aB (aB (aB (a_ w A) (n_ _) (a_ _ B)) (n_ _) (a_ _ C)) (n_ _) (a_ _ D)
def AM (w w':World) (n db:Nat):Prop:=(∃ S,DK w' w.heap.size db S (qQ n))/\Below w.heap.size w w'
theorem zDe (n:Nat) (w:World) (h1:1<=n) (h2:n<=200):Calls p_ 31 #[.int .i64 n] w fun e w'=>∃ db,e=.returned (.tuple #[.pointer (some ⟨db,0,none⟩),.nilIface])/\AM w w' n db:=by
 have h1':¬(n:Int)<1:=by omega
 have tr:¬200<(n:Int):=by omega
 have vl:=zCv n h1 h2;have iy:=zHy n h1 h2;have H:=fun (W:World) (db nb kb lb:Nat)=>@zNi w W n db nb kb lb h1 h2;have HN:=aa H;clear H;generalize ((WY n (bD 96)).flatMap Ka).toArray=Z at *;generalize (WY n (FZ none 0 0)).toArray=Y at *;go_enter func31,ntmps31;go_wp2_with fail
 go_region_with (fail)
 all_goals
  go_wp2_with fail;go_ret2
  first
   | (refine⟨w.heap.size+3,rfl,HN.out _ _ w.heap.size (w.heap.size+1) (w.heap.size+2) ?_ ?_ ?_ ?_ ?_ ?_,?_⟩<;>first|exact(Ob w _ _ _ _).1|exact(Ob w _ _ _ _).2.1|exact(Ob w _ _ _ _).2.2.1|exact(Ob w _ _ _ _).2.2.2|(refine⟨?_,?_,?_,?_,?_,?_⟩<;>omega)|(refine⟨?_,?_,?_,?_⟩<;>omega)|exact ke w _ _ _ _|exact(ke w _ _ _ _).drew)
   | (refine⟨w.heap.size+3,rfl,HN.out _ _ w.heap.size (w.heap.size+2) (w.heap.size+1) ?_ ?_ ?_ ?_ ?_ ?_,?_⟩<;>first|exact(Ob w _ _ _ _).1|exact(Ob w _ _ _ _).2.1|exact(Ob w _ _ _ _).2.2.1|exact(Ob w _ _ _ _).2.2.2|(refine⟨?_,?_,?_,?_,?_,?_⟩<;>omega)|(refine⟨?_,?_,?_,?_⟩<;>omega)|exact ke w _ _ _ _|exact(ke w _ _ _ _).drew)
   | (refine⟨w.heap.size+3,rfl,HN.out _ _ (w.heap.size+1) w.heap.size (w.heap.size+2) ?_ ?_ ?_ ?_ ?_ ?_,?_⟩<;>first|exact(Ob w _ _ _ _).1|exact(Ob w _ _ _ _).2.1|exact(Ob w _ _ _ _).2.2.1|exact(Ob w _ _ _ _).2.2.2|(refine⟨?_,?_,?_,?_,?_,?_⟩<;>omega)|(refine⟨?_,?_,?_,?_⟩<;>omega)|exact ke w _ _ _ _|exact(ke w _ _ _ _).drew)
   | (refine⟨w.heap.size+3,rfl,HN.out _ _ (w.heap.size+1) (w.heap.size+2) w.heap.size ?_ ?_ ?_ ?_ ?_ ?_,?_⟩<;>first|exact(Ob w _ _ _ _).1|exact(Ob w _ _ _ _).2.1|exact(Ob w _ _ _ _).2.2.1|exact(Ob w _ _ _ _).2.2.2|(refine⟨?_,?_,?_,?_,?_,?_⟩<;>omega)|(refine⟨?_,?_,?_,?_⟩<;>omega)|exact ke w _ _ _ _|exact(ke w _ _ _ _).drew)
   | (refine⟨w.heap.size+3,rfl,HN.out _ _ (w.heap.size+2) w.heap.size (w.heap.size+1) ?_ ?_ ?_ ?_ ?_ ?_,?_⟩<;>first|exact(Ob w _ _ _ _).1|exact(Ob w _ _ _ _).2.1|exact(Ob w _ _ _ _).2.2.1|exact(Ob w _ _ _ _).2.2.2|(refine⟨?_,?_,?_,?_,?_,?_⟩<;>omega)|(refine⟨?_,?_,?_,?_⟩<;>omega)|exact ke w _ _ _ _|exact(ke w _ _ _ _).drew)
   | (refine⟨w.heap.size+3,rfl,HN.out _ _ (w.heap.size+2) (w.heap.size+1) w.heap.size ?_ ?_ ?_ ?_ ?_ ?_,?_⟩<;>first|exact(Ob w _ _ _ _).1|exact(Ob w _ _ _ _).2.1|exact(Ob w _ _ _ _).2.2.1|exact(Ob w _ _ _ _).2.2.2|(refine⟨?_,?_,?_,?_,?_,?_⟩<;>omega)|(refine⟨?_,?_,?_,?_⟩<;>omega)|exact ke w _ _ _ _|exact(ke w _ _ _ _).drew)
end
abbrev Uj:=Option (Nat×BA)
def Bg (o:Uj) (s:Bb):Nat:=match o with
 | some (a,d)=>dO s (a:Int) d
 | none=>cD s
def ye (o:Uj) (s:Bb):Bb:=match o with
 | some (a,d)=>cV s (a:Int) d
 | none=>bZ s
def Ea:List Uj->Bb->Nat×Bb
 | [],s=>(0,s)
 | o::l,s=>if Bg o s=0 then Ea l (ye o s) else (Bg o s,ye o s)
theorem gE (a b:List Uj):∀ s,Ea (a++b) s=if (Ea a s).1=0 then Ea b (Ea a s).2 else Ea a s:=by
 induction a with
 | nil=>intro s;rfl
 | cons o a ih=>
  intro s;show(if Bg o s=0 then Ea (a++b) (ye o s) else (Bg o s,ye o s))=_;by_cases h:Bg o s=0
  ·rw[if_pos h,ih];have e:Ea (o::a) s=Ea a (ye o s):=by show(if _ then _ else _)=_;rw[if_pos h]
   rw[e]
  ·rw[if_neg h];have e:Ea (o::a) s=(Bg o s,ye o s):=by show(if _ then _ else _)=_;rw[if_neg h]
   rw[e,if_neg h]
theorem jC (o:Uj) (s:Bb):Ea [o] s=(Bg o s,ye o s):=by
 show(if Bg o s=0 then (0,ye o s) else _)=_;by_cases h:Bg o s=0
 ·rw[if_pos h,h]
 ·rw[if_neg h]
theorem kF {a b:List Uj} {s:Bb} (h:(Ea a s).1=0):Ea (a++b) s=Ea b (Ea a s).2:=by rw[gE,if_pos h]
theorem kC {a b:List Uj} {s:Bb} (h:(Ea a s).1≠0):Ea (a++b) s=Ea a s:=by rw[gE,if_neg h]
theorem eH (s:Bb):(bR s).now=s.now/\(bR s).kept=s.kept/\(bR s).wait=s.wait:=by
 unfold bR;split
 ·exact⟨rfl,rfl,rfl⟩
 ·split<;>exact⟨rfl,rfl,rfl⟩
theorem UR (o:Uj) (s:Bb):(ye o s).now.length=s.now.length:=by
 cases o with
 | some x=>
  obtain⟨a,d⟩:=x;show(cV s a d).now.length=_;unfold cV;split
  ·rfl
  ·split
   ·unfold sG;simp[(eH s).1]
   ·rw[(eH s).1]
 | none=>
  show(bZ s).now.length=_;unfold bZ;split
  ·show(bR s).now.length=_;rw[(eH s).1]
  ·rw[(eH s).1]
theorem fS (l:List Uj):∀ s,(Ea l s).2.now.length=s.now.length:=by
 induction l with
 | nil=>intro s;rfl
 | cons o l ih=>
  intro s;show(if Bg o s=0 then Ea l (ye o s) else (Bg o s,ye o s)).2.now.length=_;split
  ·rw[ih,UR]
  ·exact UR o s
def aL:Nat->List BA->List Uj
 | _,[]=>[]
 | a,t::l=>some (a,t)::aL (a+1) l
def bF:BA:=⟨#[]⟩
def dR (a:Nat) (qa:List BA) (xh:Nat):List (List Uj):=
 [[some (a,bF)],[none],aL (a+1) qa.tail,if qa.length=xh then [] else [some (a+qa.length,bF)],[none],[some (a,qa.headD bF)],[none]]
def iP (a:Nat) (qa:List BA) (xh:Nat):List Uj:=(dR a qa xh).flatten
theorem zH (k:Int):∀ (l:List (Nat×ByteArray)) (x:Nat×ByteArray) (i:Nat) (K:List ByteArray),fJ k i (l++[x]) K=if pA k ((i+l.length) % 64) then (fJ k i l K).set x.1 x.2 else fJ k i l K
 | [],x,i,K=>by simp[fJ]
 | y::l,x,i,K=>by
  rw[P5];show fJ k (i+1) (l++[x]) _=if _ then (fJ k (i+1) l _).set x.1 x.2 else fJ k (i+1) l _;rw[zH k l x (i+1),show i+1+l.length=i+(y::l).length by rw[PZ];omega]
section
open Go.RowKit Go.Joins
attribute [local go_sem ↓] Go.wp_at_zero Go.wp_at_succ
section
variable {B db:Nat} {S:Nat->Prop} {s:Bb}
theorem zH8:∀ w,(zeroValue 323).run p_ w=.ok (.slice none 0 0) w:=by
  have h:(XZ.info? 323).bind (fun i=>i.zero)=some (.slice none 0 0):=by kernel_rfl
  intro w
  cases hi:XZ.info? 323 with
  | none=>rw[hi] at h;cases h
  | some i=>
    rw[hi] at h;have hz:i.zero=some (.slice none 0 0):=h;simp[zeroValue,typeInfo,hi,hz]
theorem zGG (n:Nat):(KZ (FZ none 0 0).cells n).toList=WY n (.slice none 0 0):=by
  have e:(FZ none 0 0).cells=#[.slice none 0 0]:=rfl;rw[e];simp only[KZ,Array.toList_map];apply List.ext_getElem
  · simp
  · intro i h1 h2;simp[Nat.mod_one]
theorem zB {α:Type} (L cs:List α) (h:cs.length=L.length):splice L 0 cs=cs:=by
  unfold splice;rw[List.take_zero,X3,TZ,h,List.drop_length,T1]
theorem DK.settled {L:Int} (h1:vi w db nb kb lb n next L s.down) (h2:Tk w B db nb kb lb n lv s.now s.kept Fa) (hS:S=Es db nb kb lb lv) (h6:s.down=false->JS L s.left) (h7:B<=w.heap.size):
    Xa w ((w.setCells lb 0 (WY n (.slice none 0 0))).setCell ⟨db,3,none⟩ (.int .i64 0)) B db S { s with wait:=[] }:=by
  have hlb:=h2.lo.2.2.2;have jf:=h2.ap;have Aa:db<w.heap.size:=h1.lt;have k1:∀ k,k≠lb->(w.setCells lb 0 (WY n (.slice none 0 0))).heap[k]?=w.heap[k]?:=fun k hk=>cA lb _ _ _ hk;have jm:(w.setCells lb 0 (WY n (.slice none 0 0))).heap[lb]?=some (.cells (WY n (.slice none 0 0)).toArray 323 (0,0)):=by
    rw[eY lb _ (0,0) _ 0 w lv h2.hl (by rw[L5,h2.nl];omega),zB _ _ (by rw[L5,h2.nl])]
  have Np:vi (w.setCells lb 0 (WY n (.slice none 0 0))) db nb kb lb n next L s.down:=h1.kept (k1 db jf.2.2.1);have Ba:Tk (w.setCells lb 0 (WY n (.slice none 0 0))) B db nb kb lb n (WY n (.slice none 0 0)) s.now s.kept (WY n []):=
    { hn:=(k1 nb jf.2.2.2.2.1).trans h2.hn
      hk:=(k1 kb jf.2.2.2.2.2).trans h2.hk
      hl:=jm
      nn:=h2.nn,nk:=h2.nk,nl:=by simp,no:=by simp,sn:=h2.sn,sk:=h2.sk
      own:=fun i _ _=>by rw[V0,V0];exact⟨⟨rfl,.inl ⟨rfl,rfl⟩⟩,fun x hx=>(X0 hx).elim⟩
      WA:=fun i j _ _ k e=>by rw[V0] at e;cases e
      tq:=fun i _ k e=>by rw[V0] at e;cases e
      ap:=h2.ap,lo:=h2.lo,n1:=h2.n1 }
  refine⟨Es db nb kb lb (WY n (.slice none 0 0)),⟨nb,kb,lb,n,_,_,L,Np.next' 0,Ba.head _ _,rfl,jK.none n,fun x hx=>(X0 hx).elim,h6,?_⟩,⟨(dW hlb _ _ _ (r_ _ _)).setCell (p:=⟨db,3,none⟩) h2.lo.1 _,fun k hk hn=>⟨?_,?_⟩⟩⟩
  · have:=(dW (B:=B) (a:=w) hlb (WY n (.slice none 0 0)) 0 w (r_ _ _)).size;simp;omega
  · rw[hS] at hn;rw[h_ _ _ _ _ (fun e=>hn (.inl e))];exact k1 k fun e=>hn (.inr (.inr (.inr (.inl e))))
  · rw[hS] at hn;rintro(e|e|e|e|⟨i,hi,e⟩)
    · exact hn (.inl e)
    · exact hn (.inr (.inl e))
    · exact hn (.inr (.inr (.inl e)))
    · exact hn (.inr (.inr (.inr (.inl e))))
    · rw[V0] at e;cases e
theorem zDW (w:World) (h:DK w B db S s):Calls p_ 208 #[.pointer (some ⟨db,0,none⟩)] w fun e w'=>e=.returned (.tuple #[])/\Xa w w' B db S { s with wait:=[] }:=by
  obtain⟨nb,kb,lb,n,lv,Fa,L,h1,h2,hS,h4,h5,h6,h7⟩:=h;have HE:=aa (DK.settled h1 h2 hS h6 h7);have Ee:=oJ (P:=p_) w 153 323 0 (.slice none 0 0) underlying153 zH8 (fun v hv=>by have e:(FZ none 0 0).cells=#[.slice none 0 0]:=rfl;rw[e] at hv;simp at hv;rw[hv];rfl) lb 0 n n lv _ h2.hl (by show 0+n*1<=_;rw[h2.nl];omega);rw[zGG] at Ee;have c2:=h1.c2;have k1:(w.setCells lb 0 (WY n (.slice none 0 0))).heap[db]?=w.heap[db]?:=cA lb _ _ _ h2.ap.2.2.1;have c3:=(b_ (a:=⟨db,3,none⟩) k1).trans h1.c3;have f3:=(CZ (a:=⟨db,3,none⟩) k1).trans (h1.soft 3);have hn:=h2.n1;have Lu:n≠0:=by omega
  clear h1 h2 h4 h5 h6 hS k1;generalize WY n (FZ none 0 0)=zs at *;go_enter func208,ntmps208;go_wp2;go_end0;exact⟨rfl,HE.out⟩
theorem DK.yd {L:Int} (h1:vi w db nb kb lb n next L s.down) (h2:Tk w B db nb kb lb n lv s.now s.kept Fa) (l:List ByteArray) (hl:l.length=n) (hs:∀ x∈l,x.size=96):
    vi (w.setCells kb 0 (l.flatMap Ka)) db nb kb lb n next L s.down/\Tk (w.setCells kb 0 (l.flatMap Ka)) B db nb kb lb n lv s.now l Fa/\aG w (w.setCells kb 0 (l.flatMap Ka)) B (Es db nb kb lb lv) (Es db nb kb lb lv):=by
  have jf:=h2.ap;have Dq:(l.flatMap Ka).length=n*96:=by rw[cC (z:=96) fun x hx=>(cM x).trans (hs x hx),hl]
  have Ui:(s.kept.flatMap Ka).length=n*96:=by rw[cC (z:=96) fun x hx=>(cM x).trans (h2.sk x hx),h2.nk]
  have k1:∀ k,k≠kb->(w.setCells kb 0 (l.flatMap Ka)).heap[k]?=w.heap[k]?:=fun k hk=>cA kb _ _ _ hk;refine⟨h1.kept (k1 db jf.2.1),{ h2 with hn:=(k1 nb jf.2.2.2.1).trans h2.hn,hk:=?_,hl:=(k1 lb jf.2.2.2.2.2.symm).trans h2.hl,nk:=hl,sk:=hs,own:=fun i hi h'=>gD (h2.own i hi h') fun k e=>k1 k (h2.tq i hi k e).2.2.1 },⟨dW h2.lo.2.2.1 _ _ _ (r_ _ _),fun k _ hn=>⟨k1 k fun e=>hn (.inr (.inr (.inl e))),hn⟩⟩⟩;rw[eY kb _ (0,0) _ 0 w _ h2.hk (by rw[Dq,Ui];omega),zB _ _ (by rw[Dq,Ui])]
theorem tC (w:World) (h:DK w B db S s):Calls p_ 149 #[.pointer (some ⟨db,0,none⟩)] w fun e w'=>e=.returned (pa (cD s))/\Xa w w' B db S (bZ s):=by
  have HS:=aa (zBt w h);unfold bZ;have HN:Hid ((bR s).now=s.now):=by unfold bR;split;rfl;split<;>rfl
  clear h;generalize bR s=s1 at *;generalize cD s=f at *;by_cases hf:f=0
  · subst hf;rw[if_pos rfl,aR];rw[aR] at HS;go_enter func149,ntmps149;go_wp2_with (go_at_call 207;refine HS.out.mono ?_;rintro e w1 ⟨rfl,ha⟩;obtain⟨S1,ml,Na⟩:=ha)
    obtain⟨nb,kb,lb,n,lv,Fa,L,h1,h2,hS,h4,h5,h6,h7⟩:=ml;have Sm:=uY (P:=p_) w1.drew 152 152 3 284 96 kb 0 n n n (.slice (some ⟨nb,0,none⟩) n n) (s1.kept.flatMap Ka) 284 (s1.now.flatMap Ka) underlying152 nV (show w1.drew.heap[kb]?=_ from h2.hk) rfl
      (by
        have hl:=run_loadCells_list (P:=p_) w1.drew ⟨nb,0,none⟩ (s1.now.flatMap Ka) (fun j v hv=>by
          rw[E5,cell_of_row w1.drew nb (0+j) _ _ _ (show w1.drew.heap[nb]?=_ from h2.hn),List.getElem?_toArray,TZ];exact hv)
        rw[cC (z:=96) fun x hx=>(cM x).trans (h2.sn x hx),h2.nn] at hl;simp only[Builtin.firstCells,Nat.min_self];exact hl)
      (by rw[cC (z:=96) fun x hx=>(cM x).trans (h2.sn x hx),h2.nn,cC (z:=96) fun x hx=>(cM x).trans (h2.sk x hx),h2.nk];omega)
      (fun v hv=>by obtain⟨x,_,hx⟩:=List.mem_flatMap.1 hv;exact rV x v hx)
    have c0:=h1.c0;have c1:=h1.c1;have LC:=(show w1.drew.heap[kb]?=_ from h2.hk);have HK:Hid (Xa w1 (w1.drew.setCells kb 0 (s1.now.flatMap Ka)) B db S1 { s1 with kept:=s1.now }):=by
      obtain⟨k1,k2,k3⟩:=DK.yd (h1.kept (w':=w1.drew) rfl) (h2.kept (w':=w1.drew) fun _ _ _=>rfl) s1.now h2.nn h2.sn;refine⟨S1,⟨nb,kb,lb,n,lv,Fa,L,k1,k2,hS,h4,h5,h6,?_⟩,(aG.on h7 (r_ _ w1).drew).trans (by rw[hS];exact k3)⟩;have:w1.heap.size<=_:=k3.Ia.size;omega
    have k9:(w1.drew.setCells kb 0 (s1.now.flatMap Ka)).heap[db]?=w1.heap[db]?:=cA kb _ _ w1.drew h2.ap.2.1;have HC:Hid ((w1.drew.setCells kb 0 (s1.now.flatMap Ka)).cell? ⟨db,0,none⟩=some (.slice (some ⟨nb,0,none⟩) n n)/\(w1.drew.setCells kb 0 (s1.now.flatMap Ka)).cell? ⟨db,1,none⟩=some (.slice (some ⟨kb,0,none⟩) n n)):=⟨(b_ (a:=⟨db,0,none⟩) k9).trans c0,(b_ (a:=⟨db,1,none⟩) k9).trans c1⟩;have hmn:Nat.min n n=n:=Nat.min_self n;clear LC k9 h1 h2 h4 h5 h6 hS;generalize s1.now.flatMap Ka=cs at *
    go_region_held3 (fun w'=>w'.cell? ⟨db,0,none⟩=some (.slice (some ⟨nb,0,none⟩) n n)/\w'.cell? ⟨db,1,none⟩=some (.slice (some ⟨kb,0,none⟩) n n)) (first|go_keep|exact HC.out) (fail)
    obtain⟨S2,lf,Ub⟩:=HK.out;have HT:=aa (zDW _ lf);have yf:=aa (Na.trans Ub);clear lf Ub HK HC Sm;go_wp2_with (go_at_call 208;refine HT.out.mono ?_;rintro e w3 ⟨rfl,ha⟩)
    go_ret;rw[<-HN.out];exact⟨rfl,Xa.after yf.out ha⟩
  · have Cq:=aP hf;rw[if_neg hf,Cq];rw[Cq] at HS;go_enter func149,ntmps149;go_wp2_with (go_at_call 207;refine HS.out.mono ?_;rintro e w1 ⟨rfl,ha⟩)
    go_ret;exact⟨rfl,ha⟩
end
theorem zEH (l:List ma) (p q:Nat) (c:ma) (hp:p<=l.length):(l.take p++c::l.drop q).length=p+1+(l.length-q):=by
 simp[XY];omega
theorem zT (W:World) (b off cap p q:Nat) (l:List ma) (c:ma) (hl:dG W b off l) (hp:p<=l.length) (hq:q<=l.length) (hc:l.length<=cap) (hn:l.length<=1000):
  Calls p_ 205 #[.slice (some ⟨W.heap.size+1,0,none⟩) 3 3]
   ((W.alloc (FX c.key c.val c.gone)).alloc (IY (some ⟨b,off,none⟩) p cap (some ⟨W.heap.size,0,none⟩) (if cap=q then some ⟨b,off,none⟩ else some ⟨b,off+q*3,none⟩) (l.length-q) (cap-q))).drew fun e w'=>
    ∃ v,e=.returned v/\bO w' W.heap.size v (l.take p++c::l.drop q)/\Below W.heap.size W w':=by
 have hB:=(below_alloc2 W (FX c.key c.val c.gone) (IY (some ⟨b,off,none⟩) p cap (some ⟨W.heap.size,0,none⟩) (if cap=q then some ⟨b,off,none⟩ else some ⟨b,off+q*3,none⟩) (l.length-q) (cap-q))).drew;generalize hX:((W.alloc (FX c.key c.val c.gone)).alloc (IY (some ⟨b,off,none⟩) p cap (some ⟨W.heap.size,0,none⟩) (if cap=q then some ⟨b,off,none⟩ else some ⟨b,off+q*3,none⟩) (l.length-q) (cap-q))).drew=X at hB ⊢;have g0:X.cell? ⟨W.heap.size+1,0,none⟩=some (.slice (some ⟨b,off,none⟩) p cap):=by rw[<-hX];simp
 have g1:X.cell? ⟨W.heap.size+1,1,none⟩=some (.slice (some ⟨W.heap.size,0,none⟩) 1 1):=by rw[<-hX];simp
 have g2:X.cell? ⟨W.heap.size+1,2,none⟩=some (FZ (if cap=q then some ⟨b,off,none⟩ else some ⟨b,off+q*3,none⟩) (l.length-q) (cap-q)):=by rw[<-hX];simp
 have k1:dG X W.heap.size 0 [c]:=by
  intro i hi;have e:i=0:=by simp at hi;omega
  subst e;rw[<-hX];simp
 have s1:=zL (zEw (gC hB hl) p) cap;rw[XY,N4 hp] at s1;have s2:=zL k1 1;have s3:nR X (if cap=q then some ⟨b,off,none⟩ else some ⟨b,off+q*3,none⟩) (l.length-q) (cap-q) (cG (l.drop q)):=by
  by_cases e:cap=q
  ·rw[if_pos e];have e2:l.drop q=[]:=M0 (by omega);have e3:l.length-q=0:=by omega
   rw[e2,e3];exact zIx X _ _
  ·rw[if_neg e];have:=zL (zED (gC hB hl) q) (cap-q);rwa [List.length_drop] at this
 refine(zG (W.heap.size+1) _ _ _ p 1 (l.length-q) _ _ _ _ _ _ X g0 g1 g2 s1 s2 s3 (by omega) (by omega)).mono ?_;rintro e w' ⟨v,rfl,ho,hb⟩;refine⟨v,rfl,?_,aB hB (n_ _) hb⟩;unfold bO;rw[zEH l p q c hp];have e:cG (l.take p++c::l.drop q)=cG (l.take p)++cG [c]++cG (l.drop q):=by
  rw[tJ,M5];congr 1
 rw[e];exact ownsRow_le ho hB.size
theorem zGx (W:World) (c:ma):
  Calls p_ 205 #[.slice (some ⟨W.heap.size+1,0,none⟩) 3 3]
   ((W.alloc (FX c.key c.val c.gone)).alloc (AY (some ⟨W.heap.size,0,none⟩))).drew fun e w'=>
    ∃ v,e=.returned v/\bO w' W.heap.size v [c]/\Below W.heap.size W w':=by
 have hB:=(below_alloc2 W (FX c.key c.val c.gone) (AY (some ⟨W.heap.size,0,none⟩))).drew;generalize hX:((W.alloc (FX c.key c.val c.gone)).alloc (AY (some ⟨W.heap.size,0,none⟩))).drew=X at hB ⊢;have g0:X.cell? ⟨W.heap.size+1,0,none⟩=some (.slice none 0 0):=by rw[<-hX];simp
 have g1:X.cell? ⟨W.heap.size+1,1,none⟩=some (.slice (some ⟨W.heap.size,0,none⟩) 1 1):=by rw[<-hX];simp
 have g2:X.cell? ⟨W.heap.size+1,2,none⟩=some (.slice none 0 0):=by rw[<-hX];simp
 have k1:dG X W.heap.size 0 [c]:=by
  intro i hi;have e:i=0:=by simp at hi;omega
  subst e;rw[<-hX];simp
 refine(zG (W.heap.size+1) _ _ _ 0 1 0 _ _ _ _ _ _ X g0 g1 g2 (zCX X) (zL k1 1) (zCX X) (by omega) (by omega)).mono ?_;rintro e w' ⟨v,rfl,ho,hb⟩;exact⟨v,rfl,ownsRow_le ho hB.size,aB hB (n_ _) hb⟩
theorem zKw (l:List ma) (b off cap:Nat) (c:ma) (w:World) (hl:dG w b off l) (hc:l.length<=cap) (Ri:cap<=9223372036854775807) (hn:l.length<=1000):
  Calls p_ 146 #[.slice (some ⟨b,off,none⟩) l.length cap,.agg #[.string c.key,.string c.val,.bool c.gone]] w fun e w'=>
   ∃ v,e=.returned v/\bO w' w.heap.size v (Su l c)/\Below w.heap.size w w':=by
 obtain⟨a0,a1,a2,hB,-⟩:=Nf w (FX c.key c.val c.gone) rfl rfl;have Ur:=zBl l c.key;have HP:=fun w' (h:Below w.heap.size w w')=>aa (rY l b off cap c.key w' (gC h hl) (by omega));have Aa:fB l c.key=true->cU l c.key<l.length:=fun h=>by
  rcases Nat.lt_or_ge (cU l c.key) l.length with k|k
  ·exact k
  ·rw[fB,A3 k] at h;cases h
 unfold Su;generalize cU l c.key=p at *;generalize fB l c.key=fd at *;cases fd
 ·clear Aa;simp only[J3,if_false];go_enter func146,ntmps146;go_wp2_with fail;refine((HP _ hB).out).mono ?_;rintro e w1 ⟨rfl,hb⟩;replace hB:=aB hB (n_ _) hb;replace ⟨a0,a1,a2⟩:=Fe hb a0 a1 a2;have i0:(0:Int)<=(p:Int):=by omega
  have i1:(p:Int)<=(l.length:Int):=by omega
  have i2:(p:Int)<=(cap:Int):=by omega
  have i3:(l.length:Int)<=(cap:Int):=by omega
  have m0:=P3 w1 _ a0;have m1:=P3 w1 _ a1;have m2:=P3 w1 _ a2;have HC:=aa (zT w1 b off cap p p l c (gC hB hl) (by omega) (by omega) (by omega) hn);go_wp2
  go_region_held3 (fun w'=>w'.cell? ⟨w.heap.size,0,none⟩=some (.string c.key)/\w'.cell? ⟨w.heap.size,1,none⟩=some (.string c.val)/\w'.cell? ⟨w.heap.size,2,none⟩=some (.bool c.gone)) (first|go_keep|exact⟨aA za a0,aA za a1,aA za a2⟩) (first|(go_at_call 205;refine HC.out.mono ?_;rintro e w2 ⟨v,rfl,ho,za⟩;dsimp only))
  go_wp2
  all_goals
   go_ret;exact⟨v,rfl,dJ ho hB.size,aB hB (n_ _) za⟩
 ·have Za:=Aa rfl;clear Aa;simp only[if_true];go_enter func146,ntmps146;go_wp2_with fail;refine((HP _ hB).out).mono ?_;rintro e w1 ⟨rfl,hb⟩;replace hB:=aB hB (n_ _) hb;replace ⟨a0,a1,a2⟩:=Fe hb a0 a1 a2;have i0:(0:Int)<=(p:Int):=by omega
  have i1:(p:Int)<=(l.length:Int):=by omega
  have i2:(p:Int)<=(cap:Int):=by omega
  have i3:(l.length:Int)<=(cap:Int):=by omega
  have i4:(0:Int)<=(p:Int)+1:=by omega
  have i5:(p:Int)+1<=(l.length:Int):=by omega
  have i6:(p:Int)+1<=(cap:Int):=by omega
  have m0:=P3 w1 _ a0;have m1:=P3 w1 _ a1;have m2:=P3 w1 _ a2;have HC:=aa (zT w1 b off cap p (p+1) l c (gC hB hl) (by omega) (by omega) (by omega) hn);go_wp2
  go_region_held3 (fun w'=>w'.cell? ⟨w.heap.size,0,none⟩=some (.string c.key)/\w'.cell? ⟨w.heap.size,1,none⟩=some (.string c.val)/\w'.cell? ⟨w.heap.size,2,none⟩=some (.bool c.gone)) (first|go_keep|exact⟨aA za a0,aA za a1,aA za a2⟩) (first|(go_at_call 205;refine HC.out.mono ?_;rintro e w2 ⟨v,rfl,ho,za⟩;dsimp only))
  go_wp2
  all_goals
   go_ret;exact⟨v,rfl,dJ ho hB.size,aB hB (n_ _) za⟩
theorem zL0 (c:ma) (w:World):
  Calls p_ 146 #[.slice none 0 0,.agg #[.string c.key,.string c.val,.bool c.gone]] w fun e w'=>
   ∃ v,e=.returned v/\bO w' w.heap.size v [c]/\Below w.heap.size w w':=by
 obtain⟨a0,a1,a2,hB,-⟩:=Nf w (FX c.key c.val c.gone) rfl rfl;have HP:=fun w'=>aa (zAZ none 0 c.key w');go_enter func146,ntmps146;go_wp2_with fail;refine((HP _).out).mono ?_;rintro e w1 ⟨rfl,hb⟩;replace hB:=aB hB (n_ _) hb;replace ⟨a0,a1,a2⟩:=Fe hb a0 a1 a2;have m0:=P3 w1 _ a0;have m1:=P3 w1 _ a1;have m2:=P3 w1 _ a2;have HC:=aa (zGx w1 c);go_wp2
 go_region_held3 (fun w'=>w'.cell? ⟨w.heap.size,0,none⟩=some (.string c.key)/\w'.cell? ⟨w.heap.size,1,none⟩=some (.string c.val)/\w'.cell? ⟨w.heap.size,2,none⟩=some (.bool c.gone)) (first|go_keep|exact⟨aA za a0,aA za a1,aA za a2⟩) (first|(go_at_call 205;refine HC.out.mono ?_;rintro e w2 ⟨v,rfl,ho,za⟩;dsimp only))
 go_wp2
 all_goals
  go_ret;exact⟨v,rfl,dJ ho hB.size,aB hB (n_ _) za⟩
theorem zIA (l:List ma) (b off cap:Nat) (key:ByteArray) (w:World) (hl:dG w b off l) (hn:l.length<=1000) (p:Nat) (hp:cU l key=p) (hf:fB l key=true) (Aa:p<l.length):
  Calls p_ 74 #[.slice (some ⟨b,off,none⟩) l.length cap,.string key] w fun e w'=>
   e=.returned (.tuple #[.agg #[.string l[p].key,.string l[p].val,.bool l[p].gone],.bool true])/\Below w.heap.size w w':=by
 obtain⟨r0,r1,r2,hB,h0,fz,-⟩:=Nf w OX rfl rfl;have HP:=fun w' (h:Below w.heap.size w w')=>aa (rY l b off cap key w' (gC h hl) (by omega));rw[hp,hf] at HP;clear hp hf;have i1:(p:Int)<(l.length:Int):=by omega
 go_enter func74,ntmps74;go_wp2_with fail;refine((HP _ hB).out).mono ?_;rintro e w1 ⟨rfl,hb⟩;replace hB:=aB hB (n_ _) hb;replace fz:=fun j=>aE hb h0 (fz j);replace ⟨r0,r1,r2⟩:=Fe hb r0 r1 r2;obtain⟨c0,c1,c2⟩:=gC hB hl p Aa;clear hb h0;go_wp2;exact bodyPost_ret (v:=.tuple #[.agg #[.string l[p].key,.string l[p].val,.bool l[p].gone],.bool true]) (by simp[results,results74,go_sem,r0,r1,r2]) rfl ⟨rfl,((hB.setCell (n_ _) _).setCell (n_ _) _).setCell (n_ _) _⟩
theorem zHt (l:List ma) (b off cap:Nat) (key:ByteArray) (w:World) (hl:dG w b off l) (hn:l.length<=1000) (hf:fB l key=false):
  Calls p_ 74 #[.slice (some ⟨b,off,none⟩) l.length cap,.string key] w fun e w'=>
   e=.returned (.tuple #[.agg #[.string ⟨#[]⟩,.string ⟨#[]⟩,.bool false],.bool false])/\Below w.heap.size w w':=by
 obtain⟨r0,r1,r2,hB,h0,fz,-⟩:=Nf w OX rfl rfl;have HP:=fun w' (h:Below w.heap.size w w')=>aa (rY l b off cap key w' (gC h hl) (by omega));rw[hf] at HP;clear hf;generalize cU l key=p at HP;go_enter func74,ntmps74;go_wp2_with fail;refine((HP _ hB).out).mono ?_;rintro e w1 ⟨rfl,hb⟩;replace hB:=aB hB (n_ _) hb;replace fz:=fun j=>aE hb h0 (fz j);replace ⟨r0,r1,r2⟩:=Fe hb r0 r1 r2;clear hb h0;go_wp2;exact bodyPost_ret (v:=.tuple #[.agg #[.string ⟨#[]⟩,.string ⟨#[]⟩,.bool false],.bool false]) (by simp[results,results74,go_sem,r0,r1,r2]) rfl ⟨rfl,((hB.setCell (n_ _) _).setCell (n_ _) _).setCell (n_ _) _⟩
theorem zIY (ao:Option Addr) (cap:Nat) (key:ByteArray) (w:World):
  Calls p_ 74 #[.slice ao 0 cap,.string key] w fun e w'=>
   e=.returned (.tuple #[.agg #[.string ⟨#[]⟩,.string ⟨#[]⟩,.bool false],.bool false])/\Below w.heap.size w w':=by
 obtain⟨r0,r1,r2,hB,h0,fz,-⟩:=Nf w OX rfl rfl;have HP:=fun w' (_:True)=>aa (zAZ ao cap key w');go_enter func74,ntmps74;go_wp2_with fail;refine((HP _ trivial).out).mono ?_;rintro e w1 ⟨rfl,hb⟩;replace hB:=aB hB (n_ _) hb;replace fz:=fun j=>aE hb h0 (fz j);replace ⟨r0,r1,r2⟩:=Fe hb r0 r1 r2;clear hb h0;go_wp2;exact bodyPost_ret (v:=.tuple #[.agg #[.string ⟨#[]⟩,.string ⟨#[]⟩,.bool false],.bool false]) (by simp[results,results74,go_sem,r0,r1,r2]) rfl ⟨rfl,((hB.setCell (n_ _) _).setCell (n_ _) _).setCell (n_ _) _⟩
end
section
open Go.RowKit Go.Joins Go.Shelf Go.Lib Go.WideShapes
theorem uO (l:List ma) (v:Value) (B:Nat) (w:World) (h:bO w B v l) (hl:l.length<=1000000):
  Calls p_ 81 #[v] w fun e w'=>∃ v',e=.returned v'/\bO w' w.heap.size v' l/\Below w.heap.size w w':=by
 obtain⟨i0,Qb,Xb,Yc,te⟩:=info_parts qS;rcases aX h with⟨rfl,h0⟩|⟨g,cap,rfl,_⟩
 ·refine(AnyE.slices_Clone_nil Tryz.cloneC 0 0 w).mono ?_;rintro e w' ⟨rfl,rfl⟩;have e:l=[]:=E0.1 h0;subst e;exact⟨_,rfl,M1 _ _ _ _,r_ _ _⟩
 ·refine(AnyE.slices_Clone Tryz.cloneC i0 _ 3 40 Qb Xb Yc te rfl (by omega) sizeOf99 g 0 l.length cap (cG l) w (tF l) (by unfold maxLen;omega) (by omega) (fun j u hj=>?_) (pF l)).mono ?_
  ·have:=F2.cells h (g:=g) rfl j u hj;rw[Go.WideShapes.add_plain] at this;simpa using this
  ·rintro e w' ⟨v',rfl,ho,_,hb⟩;exact⟨v',rfl,ho,hb⟩
theorem GR (l:List ma) (c:ma) (v:Value) (B:Nat) (w:World) (h:bO w B v l) (hn:l.length<=1000):
  Calls p_ 146 #[v,.agg #[.string c.key,.string c.val,.bool c.gone]] w fun e w'=>∃ g cap,e=.returned (.slice (some ⟨g,0,none⟩) (Db l c).length cap)/\bO w' w.heap.size (.slice (some ⟨g,0,none⟩) (Db l c).length cap) (Db l c)/\Below w.heap.size w w':=by
 have fin:∀ {w':World} {u:Value},bO w' w.heap.size u (Db l c)->∃ g cap,u=.slice (some ⟨g,0,none⟩) (Db l c).length cap:=fun ho=>by
  obtain⟨g,cap,e,_⟩:=zDr ho (zKt l c);exact⟨g,cap,e⟩
 rcases aX h with⟨rfl,h0⟩|⟨g,cap,rfl,_,_,hc,hm⟩
 ·have e:l=[]:=E0.1 h0;subst e;refine(zL0 c w).mono ?_;rintro e w' ⟨u,rfl,ho,hb⟩;obtain⟨g,cap,rfl⟩:=fin (u:=u) ho;exact⟨g,cap,rfl,ho,hb⟩
 ·have Bf:dG w g 0 l:=eW l 0 fun j u hj=>by
   have:=F2.cells h (g:=g) rfl j u hj;rwa [Go.WideShapes.add_plain] at this
  refine(zKw l g 0 cap c w Bf hc (by unfold maxLen at hm;omega) hn).mono ?_;rintro e w' ⟨u,rfl,ho,hb⟩;rw[zLv] at ho;obtain⟨g2,pd,rfl⟩:=fin (u:=u) ho;exact⟨g2,pd,rfl,ho,hb⟩
end
section
open Go.RowKit Go.Joins
theorem zX {B':Nat} {e:TypeId} {z:Nat} {xs:List Value} (h:w.ownsRow B e z v n xs) (hB:B'<=B):w.ownsRow B' e z v n xs:=by
 refine⟨h.1,?_⟩;rcases h.2 with e|⟨g,cap,cur,rfl,h1,h2⟩
 ·exact .inl e
 ·exact .inr ⟨g,cap,cur,rfl,BZ hB h1,h2⟩
end
def ue (l:List UInt8):Nat:=l.foldl (fun a c=>10*a+(c.toNat-48)) 0
theorem yF (l:List UInt8) (c:UInt8):ue (l++[c])=10*ue l+(c.toNat-48):=by simp[ue]
theorem zMK {c:UInt8} (h:eZ c=true):UInt8.ofNat (48+(c.toNat-48))=c/\c.toNat-48<10:=by
 simp only[eZ,E1,decide_eq_true_eq] at h;refine⟨?_,by omega⟩;rw[show 48+(c.toNat-48)=c.toNat by omega];simp
theorem zOG (n:Nat):1<=n->(L0 n).head?≠some 48:=by
 induction n using X8 with
 | _ n ih=>
  intro h;by_cases uq:n<10
  ·rw[L6 uq];simp;intro e;have:=congrArg UInt8.toNat e;simp at this;omega
  ·rw[L0,dif_neg uq,List.head?_append];have:=ih (n / 10) (by omega) (by omega);have La:=MT (n / 10)
   cases hd:L0 (n / 10) with
   | nil=>exact absurd hd La
   | cons a r=>rw[hd] at this;simpa using this
theorem MJ (n:Nat):ue (L0 n)=n:=by
 induction n using X8 with
 | _ n ih=>
  by_cases uq:n<10
  ·rw[L6 uq];simp[ue];omega
  ·rw[L0,dif_neg uq,yF,ih (n / 10) (by omega)];simp;omega
theorem zOH:∀ (k:Nat) (l:List UInt8),l.length=k->l≠[]->(∀ c∈l,eZ c=true)->(l.head?=some 48->l.length=1)->L0 (ue l)=l:=by
 intro k
 induction k using X8 with
 | _ k ih=>
  intro l hk La hd h0;obtain⟨l',c,rfl⟩:∃ l' c,l=l'++[c]:=⟨l.dropLast,l.getLast La,(R8 La).symm⟩;obtain⟨hc,UN⟩:=zMK (hd c (by simp));rw[yF];by_cases he:l'=[]
  ·subst he;simp only[ue,List.foldl_nil,Nat.mul_zero,TZ];rw[L6 UN,hc];rfl
  ·have hh:l'.head?≠some 48:=fun e=>by
    have:(l'++[c]).head?=some 48:=by rw[List.head?_append,e];rfl
    have:=h0 this;simp at this;exact he this
   have hi:=ih l'.length (by simp at hk;omega) l' rfl he (fun x hx=>hd x (by simp[hx])) (fun e=>absurd e hh);have hv:1<=ue l':=by
    rcases Nat.eq_zero_or_pos (ue l') with e|e
    ·rw[e,L6 (by omega)] at hi;rw[<-hi] at hh;exact absurd rfl hh
    ·exact e
   rw[L0,dif_neg (by omega)];rw[show(10*ue l'+(c.toNat-48)) / 10=ue l' by omega,show(10*ue l'+(c.toNat-48)) % 10=c.toNat-48 by omega,hi,hc]
def Dm (l:List UInt8) (Rc:Nat) (r:Int):Prop:=(∃ n:Nat,n<=Rc/\l=L0 n/\r=n)∨(r=-1/\∀ n:Nat,n<=Rc->l≠L0 n)
theorem zPn (l:List UInt8) (h:∀ c∈l,eZ c=true):ue l<10 ^ l.length:=by
 have:∀ (k:Nat) (l:List UInt8),l.length=k->(∀ c∈l,eZ c=true)->ue l<10 ^ l.length:=by
  intro k
  induction k with
  | zero=>intro l hk _;rw[E0.1 hk];simp[ue]
  | succ k ih=>
   intro l hk hd;have La:l≠[]:=fun e=>by rw[e] at hk;cases hk
   obtain⟨l',c,rfl⟩:∃ l' c,l=l'++[c]:=⟨l.dropLast,l.getLast La,(R8 La).symm⟩;have h1:=ih l' (by simpa using hk) (fun x hx=>hd x (by simp[hx]));obtain⟨_,h2⟩:=zMK (hd c (by simp));rw[yF,YY,List.length_singleton,Nat.pow_succ];omega
 exact this _ l rfl h
def xT (s:ByteArray) (Rc:Nat) (out:List ByteArray) (rest:ByteArray):Prop:=
 s.data.toList=(out.map fun x=>x.data.toList++[32]).flatten++rest.data.toList/\(∀ x∈out,∀ c∈x.data.toList,c≠32)/\((∀ c∈rest.data.toList,c≠32)∨out.length+1=Rc)/\out.length+1<=Rc
theorem gU (n:Nat):∀ c∈L0 n,c≠32:=fun c hc=>rM (DG n c hc) 32 (by decide)
theorem zNX {l:List UInt8} (h:bK l=true):∀ c∈l,c≠32:=by
 intro c hc e;subst e;obtain⟨i,hi,hx⟩:=List.mem_iff_getElem.1 hc;simp only[bK,E1] at h;have h2:=h.2;rw[jJ,List.all_eq_true] at h2;have:=h2 i (List.mem_range.2 hi);rw[List.getD_eq_getElem?_getD,VY hi,hx] at this;simp[gR,mL,eZ] at this
theorem qR {a b:List UInt8} (ha:∀ c∈a,c≠32) (hb:∀ c∈b,c≠32) {x y:List UInt8} (h:a++32::x=b++32::y):a=b/\x=y:=by
 induction a generalizing b with
 | nil=>
  cases b with
  | nil=>simpa using h
  | cons d b=>
   simp at h;exact absurd h.1.symm (hb d (by simp))
 | cons c a ih=>
  cases b with
  | nil=>
   simp at h;exact absurd h.1 (ha c (by simp))
  | cons d b=>
   simp at h;obtain⟨rfl,h2⟩:=h;obtain⟨e1,e2⟩:=ih (fun x hx=>ha x (by simp[hx])) (fun x hx=>hb x (by simp[hx])) h2;exact⟨by rw[e1],e2⟩
theorem pW {l:List UInt8} (h:∀ c∈l,c≠32):l.count 32=0:=List.count_eq_zero.2 fun hc=>h 32 hc rfl
theorem zOd (out:List BA) (h:∀ x∈out,∀ c∈x.data.toList,c≠32):((out.map fun x=>x.data.toList++[32]).flatten).count 32=out.length:=by
 induction out with
 | nil=>rfl
 | cons x out ih=>
  rw[U2,List.flatten_cons,O3,O3,ih (fun y hy=>h y (by simp[hy])),pW (h x (by simp))];simp;omega
theorem zEf {s:BA} (h:xT s Rc out rest):s.data.toList.count 32=out.length+rest.data.toList.count 32:=by
 rw[h.1,O3,zOd out h.2.1]
theorem oF {s:BA} (h:xT s Rc [x,y] rest):s.data.toList=x.data.toList++32::(y.data.toList++32::rest.data.toList):=by
 rw[h.1];simp
theorem BJ {r:Int} (h:Dm (L0 n) Rc r) (hn:n<=Rc):r=n:=by
 rcases h with⟨m,_,he,hr⟩|⟨_,xe⟩
 ·rw[hr];have:=congrArg ue he;rw[MJ,MJ] at this;rw[this]
 ·exact absurd rfl (xe n hn)
def pO (n t:Nat) (d:BA):Prop:=n<=999999/\1<=t/\t<=9/\(d.toList.isEmpty=true∨(d.toList.isEmpty=false/\bK d.data.toList=true))
def oX (t u:Nat) (d:BA):Prop:=t<=9/\u<=2000000/\d.size<=28
theorem zOm (h:pO n t d):∀ c∈d.data.toList,c≠32:=by
 rcases h.2.2.2 with h|⟨_,h⟩
 ·rw[<-Lib.toList_data,List.isEmpty_iff.1 h];simp
 ·exact zNX h
theorem QJ (h:out.length=2):∃ x y,out=[x,y]:=by
 match out,h with
 | [x,y],_=>exact⟨x,y,rfl⟩
theorem zNG {s:BA} (h:xT s 99 out rest) (hq:pO n t d) (hs:s=dA n t d):out=[Va n,Va t]/\rest=d:=by
 have hc:=zEf h;have hl:s.data.toList=L0 n++32::(L0 t++32::d.data.toList):=by rw[hs,vQ]
 have h2:s.data.toList.count 32=2:=by
  rw[hl,O3,N5,O3,N5,pW (gU n),pW (gU t),pW (zOm hq)]
 rw[h2] at hc;have hr:∀ c∈rest.data.toList,c≠32:=by
  rcases h.2.2.1 with h|h
  ·exact h
  ·omega
 rw[pW hr] at hc;obtain⟨x,y,rfl⟩:=QJ (by omega:out.length=2);have e:=oF h;rw[hl] at e;obtain⟨e1,e2⟩:=qR (gU n) (h.2.1 x (by simp)) e;obtain⟨e3,e4⟩:=qR (gU t) (h.2.1 y (by simp)) e2;refine⟨?_,(kG e4).symm⟩;rw[show x=Va n from kG (by rw[eM,e1]),show y=Va t from kG (by rw[eM,e3])]
theorem zMi {s:BA} {u:Nat} (h:xT s 3 out rest) (hs:s=dA t u d):out=[Va t,Va u]/\rest=d:=by
 have hc:=zEf h;have hl:s.data.toList=L0 t++32::(L0 u++32::d.data.toList):=by rw[hs,vQ]
 have h2:2<=s.data.toList.count 32:=by
  rw[hl,O3,N5,O3,N5];omega
 have ho:out.length=2:=by
  rcases h.2.2.1 with k|k
  ·rw[pW k] at hc;have:=h.2.2.2;omega
  ·omega
 obtain⟨x,y,rfl⟩:=QJ ho;have e:=oF h;rw[hl] at e;obtain⟨e1,e2⟩:=qR (gU t) (h.2.1 x (by simp)) e;obtain⟨e3,e4⟩:=qR (gU u) (h.2.1 y (by simp)) e2;refine⟨?_,(kG e4).symm⟩;rw[show x=Va t from kG (by rw[eM,e1]),show y=Va u from kG (by rw[eM,e3])]
theorem zJb {s:BA} (h:xT s 99 [x,y] rest) (h1:Dm x.data.toList 999999 r1) (h2:Dm y.data.toList 9 r2) (xe:∀ n t d,pO n t d->s≠dA n t d):
  r1<0∨(0<=r1/\r2<1)∨(0<=r1/\1<=r2/\rest.toList.isEmpty=false/\bK rest.data.toList=false):=by
 rcases h1 with⟨a,ha,hx,rfl⟩|⟨rfl,_⟩
 ·rcases h2 with⟨b,hb,hy,rfl⟩|⟨rfl,_⟩
  ·by_cases Ba:b<1
   ·right;left;omega
   ·right;right;refine⟨by omega,by omega,?_⟩;have:¬(rest.toList.isEmpty=true∨(rest.toList.isEmpty=false/\bK rest.data.toList=true)):=fun k=>
     xe a b rest ⟨ha,by omega,hb,k⟩ (kG (by rw[vQ,oF h,hx,hy]))
    cases e:rest.toList.isEmpty<;>cases e2:bK rest.data.toList<;>simp_all
  ·right;left;omega
 ·left;omega
theorem zER {s:BA} (h:xT s 3 [x,y] rest) (hr:rest.size<=28) (h1:Dm x.data.toList 9 r1) (h2:Dm y.data.toList 2000000 r2) (xe:∀ t u d,oX t u d->s≠dA t u d):
  r1<0∨(0<=r1/\r2<0):=by
 rcases h1 with⟨a,ha,hx,rfl⟩|⟨rfl,_⟩
 ·rcases h2 with⟨b,hb,hy,rfl⟩|⟨rfl,_⟩
  ·exact absurd (kG (by rw[vQ,oF h,hx,hy])) (xe a b rest ⟨ha,hb,hr⟩)
  ·right;omega
 ·left;omega
section
open Go.RowKit Go.Joins
theorem zO8:∃ i,XZ.info? 9=some i/\i.zero=some (.string ⟨#[]⟩)/\i.size=1/\i.bytes=16:=⟨_,rfl,by kernel_rfl,by kernel_rfl,by kernel_rfl⟩
def Fz (w:World) (B:Nat) (v:Value) (l:List BA):Prop:=w.ownsRow B 9 1 v l.length (l.map v_)
theorem PR {l:List BA} (h:Fz w B v l):∃ ao cap,v=.slice ao l.length cap:=by
 rcases ownsRow_forms h with⟨h1,h2⟩|⟨g,cap,h1⟩
 ·exact⟨none,0,by rw[h1,h2]⟩
 ·exact⟨_,cap,h1⟩
theorem tG (s:BA) (p k:Nat):(s.extract p k).data.toList=(s.data.toList.take k).drop p:=by
 rw[ByteArray.data_extract];simp only[Array.toList_extract,List.extract_eq_take_drop];exact List.drop_take.symm
theorem zP (s:BA) (Rc:Nat) (w:World) (hm:1<=Rc) (hm':Rc<=99) (hs:s.size<=1000):
  Calls p_ 194 #[.string s,.int .i64 Rc] w fun e w'=>∃ v,e=.returned v/\∃ out rest,Fz w' w.heap.size v (out++[rest])/\xT s Rc out rest/\Below w.heap.size w w':=by
 obtain⟨i0,Qb,Xb,We,ze⟩:=zO8;have hl:=fR s;go_enter func194,ntmps194;go_wp2
 go_loopw [5,6,7] (fun v f i wr=>∃ (out:List BA) (p k:Nat),p<=k/\k<=s.size/\f=.int .i64 p/\i=.int .i64 k/\Fz wr w.heap.size v out/\s.data.toList.take p=(out.map fun x=>x.data.toList++[32]).flatten/\(∀ x∈out,∀ c∈x.data.toList,c≠32)/\(∀ c∈(s.data.toList.take k).drop p,c≠32)/\out.length+1<=Rc/\Below w.heap.size w wr) (fun _ _ i _=>s.size-(intOf i).toNat)
 case atStart=>exact⟨[],0,0,n_ _,OZ _,rfl,rfl,M1 _ _ _ _,by simp,by simp,by simp,by simpa using hm,r_ _ _⟩
 case round=>
  obtain⟨out,p,k,LI,hk,rfl,rfl,ya,Fj,xe,Tr,hlen,hB⟩:=hrel;have HO:=aa Fj;have HN:=aa xe;have HP:=aa Tr;have HL:=aa hl;clear Fj xe Tr hl;obtain⟨ao,cap,rfl⟩:=PR ya;have a0M:(p:Int)<=(k:Int):=by omega
  by_cases Aa:k<s.size
  ·have Za:(k:Int)<(s.size:Int):=by omega
   have d1:=decide_eq_true Za;by_cases a0e:out.length+1<Rc
   ·have jy:(out.length:Int)+1<(Rc:Int):=by omega
    have HG:=aa (show s.data.toList.take (k+1)=s.data.toList.take k++[s[k]] by rw[ZY (by rw[HL.out];exact Aa)];rfl);by_cases hc:s[k]=32
    ·have c32:(s[k].toNat:Int)=32:=by rw[hc];rfl
     have HC:=aa hc;clear hc;have HX:=aa (tG s p k);go_wp2_with (at_builtin;refine oS rfl _ _ 97 rfl w.heap.size 9 i0 _ 1 16 underlying97 Qb Xb We ze rfl (by omega) _ [v_ (s.extract p k)] rfl (by simp[U1]) _ out.length (out.map v_) ya rfl rfl (by omega) (by omega) hB.size ?_;intro v1 w1 mc Ba;replace hB:Below w.heap.size w w1:=Ba w hB;clear Ba)
     go_roundw
     case rel=>
      refine⟨out++[s.extract p k],k+1,k+1,n_ _,by omega,by go_num,by go_num,by simpa[Fz] using mc,?_,?_,?_,by simp;omega,hB⟩
      ·rw[HG.out,HC.out,X1,List.flatten_append,<-HO.out];simp only[U2,s_,List.flatten_cons,List.flatten_nil,T1];have e:s.data.toList.take p++(s.data.toList.take k).drop p=s.data.toList.take k:=by
        rw[show s.data.toList.take p=(s.data.toList.take k).take p by rw[B6,N4 LI],J2]
       rw[HX.out,<-M5,e]
      ·intro x hx;rcases Q0.1 hx with hx|hx
       ·exact HN.out x hx
       ·rw[GZ.1 hx,HX.out];exact HP.out
      ·intro c hc;rw[M0 (by rw[XY];omega)] at hc;cases hc
     case measure=>simp[intOf];omega
    ·have c32:((s[k].toNat:Int)==32)=false:=beq_eq_false_iff_ne.2 fun e=>hc (UInt8.toNat_inj.1 (by simpa using Int.ofNat.inj e));have HC:=aa hc;clear hc;go_wp2;go_roundw
     case rel=>
      refine⟨out,p,k+1,by omega,by omega,rfl,by go_num,ya,HO.out,HN.out,?_,hlen,hB⟩;intro c hc;rw[HG.out,List.drop_append_of_le_length (by rw[XY,HL.out];omega)] at hc;rcases Q0.1 hc with hc|hc
      ·exact HP.out c hc
      ·rw[GZ.1 hc];exact HC.out
     case measure=>simp[intOf];omega
   ·have jy:¬(out.length:Int)+1<(Rc:Int):=by omega
    have Et:(p:Int)<=(s.size:Int):=by omega
    go_wp2_with (at_builtin;refine oS rfl _ _ 97 rfl w.heap.size 9 i0 _ 1 16 underlying97 Qb Xb We ze rfl (by omega) _ [v_ (s.extract p s.size)] rfl (by simp[U1]) _ out.length (out.map v_) ya rfl rfl (by omega) (by omega) hB.size ?_;intro v1 w1 mc Ba;replace hB:Below w.heap.size w w1:=Ba w hB;clear Ba)
    go_ret;refine⟨_,rfl,out,s.extract p s.size,by simpa[Fz] using mc,⟨?_,HN.out,.inr (by omega),hlen⟩,hB⟩;rw[<-HO.out,tG,show s.data.toList.take s.size=s.data.toList from LZ (by rw[HL.out];exact n_ _),J2]
  ·have Za:¬(k:Int)<(s.size:Int):=by omega
   have d1:=decide_eq_false Za;have Et:(p:Int)<=(s.size:Int):=by omega
   go_wp2_with (at_builtin;refine oS rfl _ _ 97 rfl w.heap.size 9 i0 _ 1 16 underlying97 Qb Xb We ze rfl (by omega) _ [v_ (s.extract p s.size)] rfl (by simp[U1]) _ out.length (out.map v_) ya rfl rfl (by omega) (by omega) hB.size ?_;intro v1 w1 mc Ba;replace hB:Below w.heap.size w w1:=Ba w hB;clear Ba)
   go_ret;have e:s.data.toList.take k=s.data.toList:=LZ (by rw[HL.out];omega);refine⟨_,rfl,out,s.extract p s.size,by simpa[Fz] using mc,⟨?_,HN.out,.inl ?_,hlen⟩,hB⟩
   ·rw[<-HO.out,tG,show s.data.toList.take s.size=s.data.toList from LZ (by rw[HL.out];exact n_ _),J2]
   ·have:=HP.out;rw[e] at this;rw[tG,LZ (by rw[HL.out];omega)];exact this
end
section
open Go.RowKit Go.Joins
attribute [local go_sem ↓] Go.wp_at_zero Go.wp_at_succ
def ig (w:World) (B:Nat) (v:Value) (l:List ma):Prop:=w.ownsRow B 99 3 v l.length (l.flatMap bN)/\∀ x∈l,(fun _:ma=>True) x
theorem dD {x:ma} (_:True):(bN x).length=3:=rfl
theorem sR (h:ig w B (.slice (some ⟨g,0,none⟩) n cap) l) (hi:i<l.length):w.rangeAt g (i*3) (bN l[i]):=fun j v hv=>by
 have hj:j<(bN l[i]).length:=(List.getElem?_eq_some_iff.1 hv).1;have e:=F2.cells h.1 (g:=g) rfl (i*3+j) v ((uZ (f:=bN) (z:=3) (fun _ _=>rfl) i j hi hj).trans hv);rw[E5,TZ] at e;exact e
theorem zCL (x:ma) (w:World):
  Calls p_ 178 #[.agg #[.string x.key,.string x.val,.bool x.gone]] w fun e w'=>e=.returned (.bool x.gone)/\Below w.heap.size w w':=by
 go_enter func178,ntmps178;go_wp2;go_ret;exact⟨rfl,(r_ _ _).alloc (n_ _) _⟩
def sh:List ma->Option Nat
 | []=>none
 | x::l=>if x.gone then some 0 else (sh l).map (·+1)
def Nk (l:List ma):Int:=match sh l with|some i=>i|none=>-1
theorem zA0:∀ {l:List ma} {k:Nat},(∀ i (h:i<l.length),i<k->l[i].gone=false)->∀ (hk:k<l.length),l[k].gone=true->sh l=some k
 | [],_,_,hk,_=>by cases hk
 | x::l,0,_,_,e=>by unfold sh;rw[show x.gone=true from e];rfl
 | x::l,k+1,h,hk,e=>by
  unfold sh;rw[show x.gone=false from h 0 (by simp) (by omega),zA0 (k:=k) (fun i hi hl=>h (i+1) (by simpa using hi) (by omega)) (by simpa using hk) e];rfl
theorem zBr:∀ {l:List ma},(∀ i (h:i<l.length),l[i].gone=false)->sh l=none
 | [],_=>rfl
 | x::l,h=>by
  unfold sh;rw[show x.gone=false from h 0 (by simp),zBr (fun i hi=>h (i+1) (by simpa using hi))];rfl
theorem zHF (g cap:Nat) (l:List ma) (B:Nat) (w:World) (h:ig w B (.slice (some ⟨g,0,none⟩) l.length cap) l) (hl:l.length<=1000):
  Calls p_ 225 #[.slice (some ⟨g,0,none⟩) l.length cap,.func (.func 178) #[] #[]] w fun e w'=>e=.returned (.int .i64 (Nk l))/\Below w.heap.size w w':=by
 have H:=aa h;clear h;go_enter func225,ntmps225;go_wp2
 go_loopw [8] (fun i wr=>∃ k:Nat,k<=l.length/\i=.int .i64 (k:Int)/\(∀ j (h:j<l.length),j<k->l[j].gone=false)/\Below w.heap.size w wr) (fun i _=>l.length-(intOf i).toNat)
 case atStart=>exact⟨0,OZ _,rfl,fun j _ hj=>by omega,r_ _ _⟩
 case round=>
  obtain⟨k,hk,rfl,xe,hB⟩:=hrel;have Rg:=aa xe;clear xe;by_cases Aa:k<l.length
  ·have Za:(k:Int)<(l.length:Int):=by omega
   have Hr:=mF hB (sR H.out Aa);have x0:wr.cell? ⟨g,k*3,none⟩=some (.string l[k].key):=Hr 0 _ rfl;have x1:wr.cell? ⟨g,k*3+1,none⟩=some (.string l[k].val):=Hr 1 _ rfl;have x2:wr.cell? ⟨g,k*3+2,none⟩=some (.bool l[k].gone):=Hr 2 _ rfl;have HH:=fun W=>aa (zCL l[k] W);clear Hr;have HE:∀ b,l[k].gone=b->Hid (l[k].gone=b):=fun _ h=>h;generalize hx:l[k]=x at *;have HX:=aa hx;clear hx
   cases hb:x.gone with
   | true=>
    simp only[hb] at HH x2;have HR:Hid (Nk l=k):=by
     unfold Nk;rw[zA0 Rg.out Aa (by rw[HX.out];exact hb)];rfl
    go_wp2_with (first
     | (go_at_call 178;refine(HH _).out.mono ?_;rintro e w1 ⟨rfl,Ba⟩)
     | fail)
    go_ret;exact⟨iJ HR.out.symm,aB hB (n_ _) Ba⟩
   | false=>
    simp only[hb] at HH x2;go_wp2_with (first
     | (go_at_call 178;refine(HH _).out.mono ?_;rintro e w1 ⟨rfl,Ba⟩)
     | fail)
    exact⟨⟨k+1,by omega,by go_num,fun j h hj=>by
     by_cases e:j=k
     ·subst e;rw[HX.out];exact hb
     ·exact Rg.out j h (by omega),aB hB (n_ _) Ba⟩,by simp[intOf];omega⟩
  ·have ek:k=l.length:=by omega
   subst ek;have HR:Hid (Nk l=-1):=by
    unfold Nk;rw[zBr fun i hi=>Rg.out i hi hi];rfl
   have lk:¬(l.length:Int)<(l.length:Int):=by omega
   go_wp2;go_ret;exact⟨iJ HR.out.symm,hB⟩
def Kd (l:List ma):List ma:=l.filter fun x=>!x.gone
theorem zBs (hk:k<l.length):Kd (l.take (k+1))=Kd (l.take k)++if l[k].gone then [] else [l[k]]:=by
 unfold Kd;rw[ZY hk,J6];cases h:l[k].gone<;>simp[h]
theorem zHA (h:sh l=none):Kd l=l:=by
 induction l with
 | nil=>rfl
 | cons x l ih=>
  unfold sh at h
  cases e:x.gone with
  | true=>rw[e] at h;simp at h
  | false=>
   rw[e] at h;have h':sh l=none:=by simpa using h
   show List.filter _ (x::l)=x::l;rw[WZ,e];have:=ih h';unfold Kd at this;simp[this]
theorem zBc:∀ {l:List ma} {k:Nat},sh l=some k->∃ hk:k<l.length,l[k].gone=true/\Kd (l.take k)=l.take k
 | [],_,h=>by cases h
 | x::l,k,h=>by
  unfold sh at h
  cases e:x.gone with
  | true=>
   rw[e] at h;have h':0=k:=by simpa using h
   subst h';exact⟨by simp,e,rfl⟩
  | false=>
   rw[e] at h
   cases hk:sh l with
   | none=>rw[hk] at h;simp at h
   | some j=>
    rw[hk] at h;have h':j+1=k:=by simpa using h
    subst h';obtain⟨a,b,c⟩:=zBc hk;refine⟨by simpa using a,b,?_⟩;unfold Kd at c ⊢;rw[A6,WZ,e,c];rfl
theorem zK3 {L:List ma} (h:ig w B (.slice (some ⟨g,0,none⟩) L.length cap) L) (i:Nat) (hi:i<L.length) (x:ma) (hx:True):ig (w.setCells g (i*3) (bN x)) B (.slice (some ⟨g,0,none⟩) L.length cap) (L.set i x):=by
 obtain⟨⟨hlen,h2⟩,hs⟩:=h;have Dl:∀ y∈L.set i x,True:=fun y hy=>(F9 hy).elim (hs y) (fun _=>trivial);rcases h2 with⟨e,_⟩|⟨g',Pb,cur,e,hB,hg,h3,h4,h5,h6⟩
 ·cases e
 ·cases e;refine⟨⟨by rw[cC (z:=3) (fun y hy=>dD (Dl y hy))],.inr ⟨g,cap,(splice cur.toList (i*3) (bN x)).toArray,by rw[NZ],hB,?_,by rw[NZ];exact h3,h4,?_,?_⟩⟩,Dl⟩
  ·refine eY g _ (0,0) _ _ w cur.toList (by simpa using hg) ?_;rw[dD hx,DZ,h5];omega
  ·rw[C2,length_splice _ _ _ (by rw[dD hx,DZ,h5];omega),DZ,h5]
  ·rw[NZ];have hc:∀ y∈L,(bN y).length=3:=fun y hy=>dD (hs y hy);rw[<-uV hc i hi x (dD hx),<-h6];apply B5;intro j;have hb:i*3+(bN x).length<=cur.toList.length:=by rw[dD hx,DZ,h5];omega
   have za:i*3+(bN x).length<=(cur.toList.take (L.length*3)).length:=by rw[h6,cC hc,dD hx];omega
   rw[mS _ _ _ za,I2];by_cases hj:j<L.length*3
   ·rw[if_pos hj,mS _ _ _ hb,I2,if_pos hj]
   ·rw[if_neg hj,I2,if_neg hj,if_neg (by omega),if_neg (by rw[dD hx];omega)]
theorem zJS {L R:List ma} (h:ig w B (.slice (some ⟨g,0,none⟩) L.length cap) L) (hR:L.take R.length=R):ig w B (.slice (some ⟨g,0,none⟩) R.length cap) R:=by
 obtain⟨⟨hlen,h2⟩,hs⟩:=h;have hRL:R.length<=L.length:=by have:=congrArg Z7 hR;rw[XY] at this;omega
 have Dl:∀ y∈R,True:=fun y hy=>hs y (e_ (by rw[hR];exact hy));rcases h2 with⟨e,_⟩|⟨g',Pb,cur,e,hB,hg,h3,h4,h5,h6⟩
 ·cases e
 ·cases e;refine⟨⟨cC (z:=3) fun y hy=>dD (Dl y hy),.inr ⟨g,cap,cur,rfl,hB,hg,by omega,h4,h5,?_⟩⟩,Dl⟩;have e1:cur.toList.take (R.length*3)=(L.flatMap bN).take (R.length*3):=by rw[<-h6,B6];congr 1;omega
  rw[e1]
  conv=>lhs;rw[<-J2 R.length L,hR,O4]
  rw[E2 (by rw[cC (z:=3) fun y hy=>dD (Dl y hy)];omega),LZ (by rw[cC (z:=3) fun y hy=>dD (Dl y hy)];omega)]
theorem zIh {R:List ma} (h:ig w B (.slice (some ⟨g,0,none⟩) R.length cap) R) (zs:List Value) (hz:R.length*3+zs.length<=cap*3):ig (w.setCells g (R.length*3) zs) B (.slice (some ⟨g,0,none⟩) R.length cap) R:=by
 obtain⟨⟨hlen,h2⟩,hs⟩:=h;rcases h2 with⟨e,_⟩|⟨g',Pb,cur,e,hB,hg,h3,h4,h5,h6⟩
 ·cases e
 ·cases e;have Ee:cur.toList.length=cap*3:=(DZ ..).trans h5;have hb:R.length*3+zs.length<=cur.toList.length:=by rw[Ee];exact hz
  refine⟨⟨hlen,.inr ⟨g,cap,(splice cur.toList (R.length*3) zs).toArray,rfl,hB,eY g _ (0,0) _ _ w cur.toList (by simpa using hg) hb,h3,h4,?_,?_⟩⟩,hs⟩
  ·rw[C2,length_splice _ _ _ hb,DZ,h5]
  ·rw[<-h6];unfold splice;rw[E2 (by rw[XY,Ee];omega),B6];congr 1;omega
theorem yK {L:List ma} (h:ig w B (.slice (some ⟨g,0,none⟩) L.length cap) L):∃ cur:List Value,w.heap[g]?=some (.cells cur.toArray 99 (0,0))/\cur.length=cap*3:=by
 rcases h.1.2 with⟨e,_⟩|⟨g',Pb,cur,e,hB,hg,h3,h4,h5,h6⟩
 ·cases e
 ·cases e;exact⟨cur.toList,by simpa using hg,by rw[DZ,h5]⟩
theorem uB (h:ig w B v l) (hk:∀ k,v.ownBlock=some k->w'.heap[k]?=w.heap[k]?):ig w' B v l:=by
 refine⟨⟨h.1.1,?_⟩,h.2⟩;rcases h.1.2 with e|⟨g,cap,cur,rfl,hB,hg,h3⟩
 ·exact .inl e
 ·exact .inr ⟨g,cap,cur,rfl,hB,(hk g rfl).trans hg,h3⟩
structure NS (w w':World) (B g:Nat) (v:Value) (l:List ma):Prop where
 own:ig w' B v l
 Ia:Below B w w'
 Ma:∀ k,k≠g->k<w.heap.size->w'.heap[k]?=w.heap[k]?
theorem zKu:∃ z:Value,(∀ w,(zeroValue 99).run p_ w=.ok z w)/\z.cells.size=3/\∀ v∈z.cells,v.oneCell'=true:=by
 have h:(XZ.info? 99).bind (fun i=>i.zero.map fun z=>(z.cells.size,z.cells.all (·.oneCell')))=some (3,true):=by kernel_rfl
 cases hi:XZ.info? 99 with
 | none=>rw[hi] at h;cases h
 | some i=>
  rw[hi] at h
  cases hz:i.zero with
  | none=>simp[hz] at h
  | some z=>
   simp only[V4,hz,L4,I0.injEq,R6.injEq] at h;exact⟨z,fun w=>by simp[zeroValue,typeInfo,hi,hz],h.1,fun v hv=>V7.1 h.2 v hv⟩
theorem zGW (g cap:Nat) (l:List ma) (B:Nat) (w:World) (h:ig w B (.slice (some ⟨g,0,none⟩) l.length cap) l) (hl:l.length<=1000) (hB:B<=w.heap.size):
  Calls p_ 177 #[.slice (some ⟨g,0,none⟩) l.length cap,.func (.func 178) #[] #[]] w fun e w'=>e=.returned (.slice (some ⟨g,0,none⟩) (Kd l).length cap)/\NS w w' B g (.slice (some ⟨g,0,none⟩) (Kd l).length cap) (Kd l):=by
 have HI:=aa (zHF g cap l B w h hl);have H:=aa h;have ll:g<w.heap.size:=by
  rcases h.1.2 with⟨e,_⟩|⟨g',Pb,cur,e,_,hg,_⟩
  ·cases e
  ·cases e;exact(F1.1 hg).1
 have GB:B<=g:=(l_ h.1 g rfl).1;have Ri:l.length<=cap/\cap<=9223372036854775807:=by
  rcases h.1.2 with⟨e,_⟩|⟨g',Pb,cur,e,_,hg,h1,h2,_⟩
  ·cases e
  ·cases e;unfold maxLen at h2;exact⟨h1,by omega⟩
 obtain⟨il,Aj⟩:=Ri;clear h
 cases fm:sh l with
 | none=>
  have HR:=aa (zHA fm);have Ig:Nk l=-1:=by unfold Nk;rw[fm]
  rw[Ig] at HI;rw[HR.out];clear fm Ig;go_enter func177,ntmps177;go_wp2_with (go_at_call 225;refine HI.out.mono ?_;rintro e w1 ⟨rfl,Ba⟩)
  go_ret;exact⟨rfl,⟨uB H.out fun k e=>by cases e;exact Ba.block g ll,Ba.mono hB,fun k _ hk=>Ba.block k hk⟩⟩
 | some i0=>
  obtain⟨Qb,hh,ht⟩:=zBc fm;have Ig:Nk l=(i0:Int):=by unfold Nk;rw[fm]
  rw[Ig] at HI;have HT:=aa ht;have Ow:=aa hh;clear fm Ig ht hh;have La:((i0:Int) == -1)=false:=beq_eq_false_iff_ne.2 (by omega);go_enter func177,ntmps177;go_wp2_with (go_at_call 225;refine HI.out.mono ?_;rintro e w1 ⟨rfl,Ba⟩)
  go_loopw [5,6] (fun iv jv wr=>∃ (j:Nat) (L:List ma),j<=l.length/\(Kd (l.take j)).length<j/\iv=.int .i64 ((Kd (l.take j)).length:Int)/\jv=.int .i64 (j:Int)/\L.length=l.length/\L.take (Kd (l.take j)).length=Kd (l.take j)/\(∀ m,j<=m->L[m]?=l[m]?)/\NS w wr B g (.slice (some ⟨g,0,none⟩) l.length cap) L) (fun _ jv _=>l.length-(intOf jv).toNat)
  case atStart=>
   have e1:Kd (l.take (i0+1))=l.take i0:=by rw[zBs Qb,Ow.out,HT.out];simp
   refine⟨i0+1,l,by omega,by rw[e1,XY];omega,?_,by go_num,rfl,?_,fun _ _=>rfl,⟨uB H.out fun k e=>by cases e;exact Ba.block g ll,Ba.mono hB,fun k _ hk=>Ba.block k hk⟩⟩
   ·rw[e1,XY,N4 (by omega)]
   ·rw[e1,XY,N4 (by omega)]
  case round=>
   obtain⟨j,L,hj,Yx,rfl,rfl,cz,NB,MB,hD⟩:=hrel;have HD:=aa hD;have dt:=aa NB;have Xj:=aa MB;have Ii:=aa cz;clear hD NB MB cz;by_cases Aa:j<l.length
   ·have Za:(j:Int)<(l.length:Int):=by omega
    have ya:ig wr B (.slice (some ⟨g,0,none⟩) L.length cap) L:=by rw[Ii.out];exact HD.out.own
    have kz:j<L.length:=by rw[Ii.out];exact Aa
    have hx:L[j]=l[j]:=by
     have:=Xj.out j (n_ _);rw[VY kz,VY Aa] at this;exact I0.inj this
    have qi:=sR ya kz;rw[hx] at qi;have ik:=aa qi;have dr:Hid True:=trivial;have DA:=aa (zBs Aa);generalize Ou:l[j]=x at *;have HXE:=aa Ou;have bd:=aa ya;have Xz:=aa hx;clear Ou ya hx qi;generalize DD:(Kd (A5 j l)).length=i at *;have lp:=aa DD;clear DD;have Mb:w.heap.size<=wr.heap.size:=HD.out.Ia.size;have x0:wr.cell? ⟨g,j*3,none⟩=some (.string x.key):=ik.out 0 _ rfl;have x1:wr.cell? ⟨g,j*3+1,none⟩=some (.string x.val):=ik.out 1 _ rfl;have x2:wr.cell? ⟨g,j*3+2,none⟩=some (.bool x.gone):=ik.out 2 _ rfl;have HH:=fun W=>aa (zCL x W);have Lm:Hid (∀ w2:World,Below (wr.alloc (.cells #[.string x.key,.string x.val,.bool x.gone] 99)).heap.size (wr.alloc (.cells #[.string x.key,.string x.val,.bool x.gone] 99)) w2->w2.cell? ⟨wr.heap.size,0,none⟩=some (.string x.key)/\w2.cell? ⟨wr.heap.size,1,none⟩=some (.string x.val)/\w2.cell? ⟨wr.heap.size,2,none⟩=some (.bool x.gone)):=fun w2 hb=>⟨aA hb (aC _ _ _ 0),aA hb (aC _ _ _ 1),aA hb (aC _ _ _ 2)⟩;have Vt:Hid (∀ w2:World,Below (wr.alloc (.cells #[.string x.key,.string x.val,.bool x.gone] 99)).heap.size (wr.alloc (.cells #[.string x.key,.string x.val,.bool x.gone] 99)) w2->NS w w2 B g (.slice (some ⟨g,0,none⟩) l.length cap) L):=fun w2 hb=>by
     have Sd:=aB (a_ wr (.cells #[.string x.key,.string x.val,.bool x.gone] 99)) (n_ _) hb;exact⟨uB HD.out.own fun k e=>by cases e;exact Sd.block g (by omega),HD.out.Ia.trans (Sd.mono (by omega)),fun k h1 h2=>(Sd.block k (by omega)).trans (HD.out.Ma k h1 h2)⟩
    cases Mv:x.gone with
    | true=>
     simp only[Mv] at HH x2 Lm Vt;go_wp2_with (first
      | (go_at_call 178;refine(HH _).out.mono ?_;rintro e w2 ⟨rfl,za⟩;obtain⟨y0,y1,y2⟩:=Lm.out _ za)
      | fail)
     have e1:Kd (l.take (j+1))=Kd (l.take j):=by rw[DA.out,Mv];simp
     refine⟨⟨j+1,L,by omega,by rw[e1,lp.out];omega,by rw[e1,lp.out],by go_num,Ii.out,by rw[e1,lp.out];exact dt.out,fun m hm=>Xj.out m (by omega),Vt.out _ za⟩,by simp[intOf];omega⟩
    | false=>
     simp only[Mv] at HH x2 Lm Vt;have HZ:Hid (∀ w2:World,Below (wr.alloc (.cells #[.string x.key,.string x.val,.bool false] 99)).heap.size (wr.alloc (.cells #[.string x.key,.string x.val,.bool false] 99)) w2->(∃ u0 u1 u2,w2.cell? ⟨g,i*3,none⟩=some u0/\w2.cell? ⟨g,i*3+1,none⟩=some u1/\w2.cell? ⟨g,i*3+2,none⟩=some u2)/\∀ o,w2.frozen? ⟨g,o,none⟩=false):=fun w2 hb=>by
      have hw:ig w2 B (.slice (some ⟨g,0,none⟩) L.length cap) L:=by rw[Ii.out];exact(Vt.out _ hb).own
      have hr:=sR hw (i:=i) (by rw[Ii.out];omega);obtain⟨cur,Bj,_⟩:=yK hw;exact⟨⟨_,_,_,hr 0 _ rfl,hr 1 _ rfl,hr 2 _ rfl⟩,fun o=>unfrozen_of_block Bj o⟩
     have hib:(i:Int)<(l.length:Int):=by omega
     go_wp2_with (first
      | (go_at_call 178;refine(HH _).out.mono ?_;rintro e w2 ⟨rfl,za⟩;obtain⟨y0,y1,y2⟩:=Lm.out _ za;obtain⟨⟨q0,q1,q2,z0,z1,z2⟩,zf⟩:=HZ.out _ za)
      | fail)
     have e1:Kd (l.take (j+1))=Kd (l.take j)++[x]:=by rw[DA.out,Mv];rfl
     have e2:(Kd (l.take (j+1))).length=i+1:=by rw[e1,YY,lp.out];rfl
     have Cx:=Vt.out _ za;have CD:i<L.length:=by rw[Ii.out];omega
     refine⟨⟨j+1,L.set i x,by omega,by rw[e2];omega,by rw[e2];go_num,by go_num,by rw[NZ];exact Ii.out,?_,fun m hm=>?_,⟨?_,dW GB [.string x.key,.string x.val,.bool false] (i*3) _ Cx.Ia,fun k h1 h2=>(cA g [.string x.key,.string x.val,.bool false] (i*3) _ h1).trans (Cx.Ma k h1 h2)⟩⟩,by simp[intOf];omega⟩
     ·rw[e2,e1,List.take_set,ZY CD,dt.out,Y9 _ _ (by rw[lp.out];exact n_ _),lp.out,Nat.sub_self];rfl
     ·rw[SZ (by omega)];exact Xj.out m (by omega)
     ·have hcx:bN x=[.string x.key,.string x.val,.bool false]:=by unfold bN;rw[Mv]
      have:=zK3 (by rw[Ii.out];exact Cx.own) i CD x dr.out;rw[hcx] at this;rw[Ii.out] at this;exact this
   ·have ej:j=l.length:=by omega
    subst ej;have Za:¬(l.length:Int)<(l.length:Int):=by omega
    rw[O1] at *;have ya:ig wr B (.slice (some ⟨g,0,none⟩) L.length cap) L:=by rw[Ii.out];exact HD.out.own
    have hR:=zJS ya dt.out;obtain⟨cur,Bj,Ee⟩:=yK ya;obtain⟨z,Yc,te,Kq⟩:=zKu;have ri:=fun ty=>oJ (P:=p_) wr 36 99 ty z underlying36 Yc Kq g ((Kd l).length*3) (l.length-(Kd l).length) (cap-(Kd l).length) cur _ Bj (by rw[te,Ee,<-Q8];exact Q5 _ (by omega));have HP:=aa (zIh hR (KZ z.cells (l.length-(Kd l).length)).toList (by simp only[KZ,DZ,W8,I8,te];rw[<-Q8];exact Q5 _ (by omega)));generalize (KZ z.cells (l.length-(Kd l).length)).toList=zs at *;have MG:=aa ri;clear ri Yc te Kq hR ya Bj Ee;generalize Kn:Kd l=R at *;have qq:=aa Kn;clear Kn;have Yh:=MG.out 0;go_wp2;go_ret;rw[qq.out];exact⟨rfl,⟨HP.out,dW GB _ _ _ HD.out.Ia,fun k h1 h2=>(cA g _ _ _ h1).trans (HD.out.Ma k h1 h2)⟩⟩
theorem zH5 (w:World):
  Calls p_ 177 #[.slice none 0 0,.func (.func 178) #[] #[]] w fun e w'=>e=.returned (.slice none 0 0)/\w'=w:=by
 have HI:Calls p_ 225 #[.slice none 0 0,.func (.func 178) #[] #[]] w fun e w'=>e=.returned (.int .i64 (-1))/\w'=w:=by
  go_enter func225,ntmps225;go_wp2;refine wp_loop_rounds 1 ?_;rw[rounds_succ];go_wp2;go_ret;exact⟨rfl,rfl⟩
 go_enter func177,ntmps177;go_wp2_with (go_at_call 225;refine HI.mono ?_;rintro e w1 ⟨rfl,rfl⟩)
 go_ret;exact⟨rfl,rfl⟩
structure zNg (w w':World) (B:Nat) (v v':Value) (l:List ma):Prop where
 own:ig w' B v' l
 Ia:Below B w w'
 Ma:∀ k,v.ownBlock≠some k->k<w.heap.size->w'.heap[k]?=w.heap[k]?
 same:v'.ownBlock=v.ownBlock
theorem zJR (v:Value) (l:List ma) (B:Nat) (w:World) (h:ig w B v l) (hl:l.length<=1000) (hB:B<=w.heap.size):
  Calls p_ 177 #[v,.func (.func 178) #[] #[]] w fun e w'=>∃ ao n cap,e=.returned (.slice ao n cap)/\zNg w w' B v (.slice ao n cap) (Kd l):=by
 rcases h.1.2 with⟨e,e2⟩|⟨g,cap,cur,e,_⟩
 ·subst e;have gm:l=[]:=O8 e2;subst gm;exact(zH5 w).mono fun e w' ⟨he,hw⟩=>⟨none,0,0,he,by subst hw;exact⟨h,r_ _ _,fun _ _ _=>rfl,rfl⟩⟩
 ·subst e;exact(zGW g cap l B w h hl hB).mono fun e w' ⟨he,hD⟩=>⟨_,_,_,he,⟨hD.own,hD.Ia,fun k hk Aa=>hD.Ma k (fun e=>hk (by rw[e];rfl)) Aa,rfl⟩⟩
end
end Go.Proofs.YtcfjimdfegejaaaGreatDoor
