import Derived.Test.YtnboipekkahmnaaGreatDoorS10
set_option maxHeartbeats 8000000
set_option maxRecDepth 100000
namespace Go.Proofs.YtnboipekkahmnaaGreatDoor
open Obj renaming cells→o_
open World renaming cell?_of_block→b_,cell?_setCell_other→t_,cell?_setCell_same→u_,ownsRow.lt→l_
open Go.RowKit.Below renaming heap_setCell→h_,refl→r_
open Nat renaming le_refl→n_
open Tryz renaming prog→p_
open Value renaming string→v_,int→i_
open Go.Joins renaming below_alloc1→a_
section
open Go.RowKit Go.Joins Go.Shelf
attribute [local go_sem ↓] Go.wp_at_zero Go.wp_at_succ
def zCE (w:World) (wb:Nat) (s:ByteArray×ByteArray) (P:List (ByteArray×ByteArray)->Prop):Prop:=∀ W,Below w.heap.size w W->Calls p_ 98 #[.pointer (some ⟨wb,0,none⟩),.agg #[.string s.1,.string s.2]] W fun e w'=>∃ v,e=.returned v/\Below W.heap.size W w'/\∃ F,ownP w' W.heap.size v F/\P F
def rdS (F:List (ByteArray×ByteArray)) (s:ByteArray×ByteArray) (m:Nat):ByteArray×ByteArray:=if m<=F.length then (Lib.maxS s.1 ⟨#[]⟩,endS s.2 (cX ((F[m-1]?.map (·.1)).getD ⟨#[]⟩))) else s
def xA (w w':World) (e:Ending) (B wb vb:Nat) (since:Int) (cv rv:Value) (chs:List Chg) (rds:List (ByteArray×ByteArray)) (s:ByteArray×ByteArray) (m:Nat) (F:List (ByteArray×ByteArray)):Prop:=
 (cZ rds (rdS F s m)=0->∃ ao cap,e=.returned (.tuple #[.slice ao (F.take m).length cap,.nilIface])/\((F.take m).length<=cap/\cap<=9223372036854775807)/\bY w' ao (F.take m)/\∃ rv',VW w' B wb vb since cv rv' chs (gX rds (rdS F s m))/\Below B w w'/\farW w w' wb cv rv cv rv'/\∀ b off,ao=some ⟨b,off,none⟩->w.heap.size<=b/\b<w'.heap.size/\¬inVW wb cv rv' b)/\
 (cZ rds (rdS F s m)≠0->e=.returned (.tuple #[.slice none 0 0,errV (cZ rds (rdS F s m))])/\vH w w' B wb vb since cv rv chs (gX rds (rdS F s m)))
structure RD (w T:World) (rb:Nat) (s:ByteArray×ByteArray) (v:Value) (F:List (ByteArray×ByteArray)):Prop where
 t0:T.cell? ⟨rb,0,none⟩=some (.string s.1)
 t1:T.cell? ⟨rb,1,none⟩=some (.string s.2)
 fz:∀ j,T.frozen? ⟨rb,j,none⟩=false
 d0:T.cell? ⟨w.heap.size,0,none⟩=some (.string s.1)
 d1:T.cell? ⟨w.heap.size,1,none⟩=some (.string s.2)
 bel:Below w.heap.size w T
 own:ownP T (w.heap.size+1) v F
 lo:w.heap.size<rb
 off:∀ k,v.ownBlock=some k->k≠rb
theorem zMV {w w2:World} {s:ByteArray×ByteArray} {v:Value} {F:List (ByteArray×ByteArray)} {B:Nat} (hb:Below w.heap.size w w2) (ho:ownP w2 B v F) (hB:w.heap.size+1<=B) (d0:w2.cell? ⟨w.heap.size,0,none⟩=some (.string s.1)) (d1:w2.cell? ⟨w.heap.size,1,none⟩=some (.string s.2)):
  RD w (w2.alloc (o_ #[.string s.1,.string s.2] 80)) w2.heap.size s v F:=by
 have hb3:=a_ w2 (o_ #[.string s.1,.string s.2] 80);have hl:w.heap.size<w2.heap.size:=World.block_lt_of_cell? _ _ d0;exact⟨aC _ _ _ 0,aC _ _ _ 1,fun j=>aQ _ _ _ j,aA hb3 d0,aA hb3 d1,aB hb (n_ _) hb3,vT (bQ ho hb3) hB,hl,fun k e=>by have:=(l_ ho k e).2;omega⟩
theorem zM0 {w w2:World} {s:ByteArray×ByteArray} {v:Value} {F:List (ByteArray×ByteArray)} {B:Nat} (hb:Below w.heap.size w w2) (ho:ownP w2 B v F) (hB:w.heap.size+2<=B) (d0:w2.cell? ⟨w.heap.size,0,none⟩=some (.string s.1)) (d1:w2.cell? ⟨w.heap.size,1,none⟩=some (.string s.2))
  (z0:w2.cell? ⟨w.heap.size+1,0,none⟩=some (.string ⟨#[]⟩)) (z1:w2.cell? ⟨w.heap.size+1,1,none⟩=some (.string ⟨#[]⟩)) (zf:∀ j,w2.frozen? ⟨w.heap.size+1,j,none⟩=false):
  RD w ((w2.setCell ⟨w.heap.size+1,0,none⟩ (.string s.1)).setCell ⟨w.heap.size+1,1,none⟩ (.string s.2)) (w.heap.size+1) s v F:=by
 have hk:∀ k,k≠w.heap.size+1->((w2.setCell ⟨w.heap.size+1,0,none⟩ (.string s.1)).setCell ⟨w.heap.size+1,1,none⟩ (.string s.2)).heap[k]?=w2.heap[k]?:=fun k h=>(h_ _ _ _ _ h).trans (h_ _ _ _ _ h);refine⟨(t_ _ _ _ _ (by simp)).trans (u_ _ _ _ z0),u_ _ _ _ ((t_ _ _ _ _ (by simp)).trans z1),fun j=>by rw[World.frozen?_setCell,World.frozen?_setCell];exact zf j,(b_ (hk w.heap.size (by omega))).trans d0,(b_ (hk w.heap.size (by omega))).trans d1,(hb.setCell (p:=⟨w.heap.size+1,0,none⟩) (by simp) _).setCell (p:=⟨w.heap.size+1,1,none⟩) (by simp) _,vT (aI ho fun k e=>hk k (by have:=(l_ ho k e).1;omega)) (by omega),by omega,fun k e=>by have:=(l_ ho k e).1;omega⟩
theorem zCD {w T2 w6:World} {B wb vb:Nat} {since:Int} {cv rv rv6:Value} {chs:List Chg} {rds:List (ByteArray×ByteArray)} {s:ByteArray×ByteArray} {m cap:Nat} {F:List (ByteArray×ByteArray)} {ao:Option Addr} (h:VW w B wb vb since cv rv chs rds) (hB:B<=w.heap.size) (hb:Below w.heap.size w T2) (hw6:VW w6 B wb vb since cv rv6 chs (gX rds (rdS F s m))) (hb6:Below B T2 w6) (hf6:farW T2 w6 wb cv rv cv rv6)
  (hh:bY T2 ao (F.take m)) (hg:∀ b off,ao=some ⟨b,off,none⟩->w.heap.size<=b/\b<T2.heap.size) (h0:cZ rds (rdS F s m)=0) {e:Ending} (he:e=.returned (.tuple #[.slice ao (F.take m).length cap,.nilIface])) (hcap:(F.take m).length<=cap/\cap<=9223372036854775807):xA w w6 e B wb vb since cv rv chs rds s m F:=by
 have hn:∀ b,w.heap.size<=b->¬inVW wb cv rv b:=fun b hb' hin=>by have:=h.lt hin;omega
 refine⟨fun _=>⟨ao,cap,he,hcap,zC8 hh (fun b off e _=>(hf6 b (hg b off e).2 (hn b (hg b off e).1)).1),rv6,hw6,(hb.mono hB).trans hb6,farW.trans (farW.on hb) hb.size hf6,fun b off e=>⟨(hg b off e).1,Nat.lt_of_lt_of_le (hg b off e).2 hb6.size,(hf6 b (hg b off e).2 (hn b (hg b off e).1)).2⟩⟩,fun h=>absurd h0 h⟩
theorem zBx {w T2 w6:World} {B wb vb:Nat} {since:Int} {cv rv rv6:Value} {chs:List Chg} {rds:List (ByteArray×ByteArray)} {s:ByteArray×ByteArray} {m:Nat} {F:List (ByteArray×ByteArray)} (hB:B<=w.heap.size) (hb:Below w.heap.size w T2) (hw6:VW w6 B wb vb since cv rv6 chs (gX rds (rdS F s m))) (hb6:Below B T2 w6) (hf6:farW T2 w6 wb cv rv cv rv6)
  (h0:cZ rds (rdS F s m)≠0) {e:Ending} (he:e=.returned (.tuple #[.slice none 0 0,errV (cZ rds (rdS F s m))])):xA w w6 e B wb vb since cv rv chs rds s m F:=
 ⟨fun h=>absurd h h0,fun _=>⟨he,rv6,hw6,(hb.mono hB).trans hb6,farW.trans (farW.on hb) hb.size hf6⟩⟩
theorem zMz (s:ByteArray×ByteArray) (m:Nat) {B wb vb:Nat} {since:Int} {cv rv:Value} {chs:List Chg} {rds:List (ByteArray×ByteArray)} {P:List (ByteArray×ByteArray)->Prop} (w:World) (h:VW w B wb vb since cv rv chs rds) (hs:zCE w wb s P) (hP:∀ F,P F->F.length<=1000000/\∀ r∈F,r.1.size<=1000)
  (hB:B<=w.heap.size) (hn:rds.length<=100) (hm:1<=m) (hm2:m<=9223372036854775807):
  Calls p_ 42 #[.pointer (some ⟨wb,0,none⟩),.agg #[.string s.1,.string s.2],.int .i64 m] w fun e w'=>∃ F,P F/\xA w w' e B wb vb since cv rv chs rds s m F:=by
 have HW:=hide h;have HS:=hide hs;have HP:=hide hP;have hB0:=a_ w (o_ #[.string s.1,.string s.2] 80);have a0:(w.alloc (o_ #[.string s.1,.string s.2] 80)).cell? ⟨w.heap.size,0,none⟩=some (.string s.1):=aC _ _ _ 0;have a1:(w.alloc (o_ #[.string s.1,.string s.2] 80)).cell? ⟨w.heap.size,1,none⟩=some (.string s.2):=aC _ _ _ 1;have HB0:=hide hB0;have m1:¬((m:Int)<1):=by omega
 clear h hs hP hB0;go_enter Tryz.func42,Tryz.ntmps42;go_wp2;rename_i Q K hK;have hrest:∀ (T:World) (rb:Nat) (ra:Option Addr) (rcap:Nat) (F:List (ByteArray×ByteArray)),RD w T rb s (.slice ra F.length rcap) F->P F->Exit.then K Q Exit.normal { tmps:=#[Value.pointer (some ⟨wb,0,none⟩),Value.agg #[v_ s.1,v_ s.2],i_ .i64 (m:Int),undef,Value.pointer (some ⟨w.heap.size,0,none⟩),undef,Value.slice none 0 0,Value.nilIface,Value.slice ra F.length rcap,Value.pointer (some ⟨rb,0,none⟩),undef,i_ .i64 (m:Int),Value.bool false,undef,Value.pointer (some ⟨wb,0,none⟩),Value.agg #[v_ s.1,v_ s.2],Value.slice ra F.length rcap,Value.agg #[v_ s.1,v_ s.2],undef,undef,undef,undef,undef,undef,undef,undef,undef,undef,undef,undef,undef,undef,undef,undef,undef,undef,undef,undef,undef,undef,undef,undef],defers:=[] } T:=by
  intro T rb ra rcap F hrd hpf;have HRD:=hide hrd;have HPF:=hide hpf;have hl:=(HP.out F hpf).1;have HLK:=hide (HP.out F hpf).2;have t0:=hrd.t0;have t1:=hrd.t1;have tf:=hrd.fz;have d0:=hrd.d0;have d1:=hrd.d1;clear hrd hpf a0 a1;by_cases hmF:m<=F.length
  ·have hmI:(m:Int)<=(F.length:Int):=by omega
   rcases aX HRD.out.own with⟨_,h0⟩|⟨g,cap',e,hg1,hg2,hc1,hc2⟩
   ·omega
   cases e;have hcI:(m:Int)<=(rcap:Int):=by omega
   have hc3:rcap<=9223372036854775807:=by unfold maxLen at hc2;omega
   have hmc:m<=rcap:=by omega
   have hm1:(0:Int)<=(m:Int):=by omega
   have k1:(m:Int)-1=((m-1:Nat):Int):=by omega
   have k2:((m-1:Nat):Int)<(m:Int):=by omega
   have hm1F:m-1<F.length:=by omega
   have cK:T.cell? ⟨g,(m-1)*2,none⟩=some (.string F[m-1].1):=(dU gQ HRD.out.own (m-1) 0 hm1F (by omega)).1;have hks:=HLK.out _ (List.getElem_mem hm1F);have hgr:g≠rb:=HRD.out.off g rfl;go_wp2_with (first
    | (go_at_call 99;refine(zJP ⟨g,0,none⟩ m rcap _ hmc hc3).mono ?_;rintro e w3 ⟨rfl,hb3⟩;have HB3:=hide hb3;replace t0:=aA hb3 t0;replace t1:=aA hb3 t1;replace d0:=aA hb3 d0;replace d1:=aA hb3 d1;replace cK:=aA hb3 cK))
   have HRS:Hid (rdS F s m=(Lib.maxS s.1 ⟨#[]⟩,endS s.2 (cX F[m-1].1))):=by
    unfold Hid rdS;rw[if_pos hmF,List.getElem?_eq_getElem hm1F];rfl
   have HTK:Hid ((F.take m).length=m/\iO T g 0 (F.take m)):=by
    refine⟨by rw[List.length_take];omega,fun i hi=>?_⟩;have hi2:i<F.length:=by rw[List.length_take] at hi;omega
    have e1:=(dU gQ HRD.out.own i 0 hi2 (by omega)).1;have e2:=(dU gQ HRD.out.own i 1 hi2 (by omega)).1;rw[List.getElem_take,Nat.zero_add];exact⟨e1,e2⟩
   have hrl:rb<w3.heap.size:=World.block_lt_of_cell? _ _ t0;have tf3:∀ j,w3.frozen? ⟨rb,j,none⟩=false:=fun j=>aE hb3 (show rb<T.heap.size from World.block_lt_of_cell? _ _ HRD.out.t0) (tf j);have k3:IntKind.i64.wrap ((m:Int)-1)=((m-1:Nat):Int):=by rw[k1,IntKind.wrap_i64];omega
   have k4:(0:Int)<=((m-1:Nat):Int):=Int.natCast_nonneg _;have k5:IntKind.i64.wrap ((m-1:Nat):Int)=((m-1:Nat):Int):=by rw[IntKind.wrap_i64];omega
   generalize F[m-1].1=k0 at *;generalize m-1=j0 at *;have HU:=fun w=>hide (zJJ k0 w hks);clear tf hb3
   go_region_with (first
    | (go_at_call 101;refine(HU _).out.mono ?_;rintro e w4 ⟨rfl,hb4'⟩;have hb4:Below w3.heap.size w3 w4:=aB (r_ _ _).drew (n_ _) hb4';replace d0:=aA hb4 d0;replace d1:=aA hb4 d1;replace t0:=aA hb4 t0;replace t1:=aA hb4 t1;replace tf3:=fun j=>aE hb4 hrl (tf3 j);replace cK:=aA hb4 cK;clear hb4')
    | (go_at_call 100;refine(zLA s.1 s.2 ⟨#[]⟩ _ _).mono ?_;rintro e w5 ⟨rfl,hb5⟩;have t05:=aA hb5 t0;have t15:=aA hb5 t1;have hrl4:rb<w4.heap.size:=World.block_lt_of_cell? _ _ t0;have tf5:=fun j=>aE hb5 hrl4 (tf3 j)))
   all_goals
    have hb35:=aB (aB HB3.out (n_ _) hb4) (n_ _) hb5;have hkb:∀ k,k≠rb->((w5.setCell ⟨rb,0,none⟩ (.string (Lib.maxS s.1 ⟨#[]⟩))).setCell ⟨rb,1,none⟩ (.string (endS s.2 (cX k0)))).heap[k]?=w5.heap[k]?:=fun k h=>(h_ _ _ _ _ h).trans (h_ _ _ _ _ h);have u0:((w5.setCell ⟨rb,0,none⟩ (.string (Lib.maxS s.1 ⟨#[]⟩))).setCell ⟨rb,1,none⟩ (.string (endS s.2 (cX k0)))).cell? ⟨rb,0,none⟩=some (.string (rdS F s m).1):=by
     rw[HRS.out];exact(t_ _ _ _ _ (by simp)).trans (u_ _ _ _ t05)
    have u1:((w5.setCell ⟨rb,0,none⟩ (.string (Lib.maxS s.1 ⟨#[]⟩))).setCell ⟨rb,1,none⟩ (.string (endS s.2 (cX k0)))).cell? ⟨rb,1,none⟩=some (.string (rdS F s m).2):=by
     rw[HRS.out];exact u_ _ _ _ ((t_ _ _ _ _ (by simp)).trans t15)
    have hlo:=HRD.out.lo;have HB2:Hid (Below w.heap.size w ((w5.setCell ⟨rb,0,none⟩ (.string (Lib.maxS s.1 ⟨#[]⟩))).setCell ⟨rb,1,none⟩ (.string (endS s.2 (cX k0))))):=((aB HRD.out.bel (n_ _) hb35).setCell (p:=⟨rb,0,none⟩) (by simp;omega) _).setCell (p:=⟨rb,1,none⟩) (by simp;omega) _;have hgl2:g<((w5.setCell ⟨rb,0,none⟩ (.string (Lib.maxS s.1 ⟨#[]⟩))).setCell ⟨rb,1,none⟩ (.string (endS s.2 (cX k0)))).heap.size:=by have:=hb35.size;simp only[World.size_setCell];omega
    have HH:Hid (bY ((w5.setCell ⟨rb,0,none⟩ (.string (Lib.maxS s.1 ⟨#[]⟩))).setCell ⟨rb,1,none⟩ (.string (endS s.2 (cX k0)))) (some ⟨g,0,none⟩) (F.take m)):=.inr ⟨g,0,rfl,fun i hi=>by
     obtain⟨e1,e2⟩:=HTK.out.2 i hi;have eb:=(hkb g hgr).trans (hb35.block g hg2);exact⟨(b_ eb).trans e1,(b_ eb).trans e2⟩⟩
    generalize (w5.setCell ⟨rb,0,none⟩ (.string (Lib.maxS s.1 ⟨#[]⟩))).setCell ⟨rb,1,none⟩ (.string (endS s.2 (cX k0)))=T2 at u0 u1 HB2 hgl2 HH ⊢;clear hb35 hkb t05 t15 tf5 hb5 hb4 t0 t1 d0 d1 cK tf3;generalize hrr:rdS F s m=r at *;have HRR:=hide hrr;clear hrr;by_cases hrf:cZ rds r=0
    ·have HRF:=hide hrf;clear hrf;go_wp2_with (first
      | (go_at_call 102;refine(mB r _ (HW.out.on HB2.out) (Nat.le_trans hB HB2.out.size) hn).mono ?_;rintro e w6 ⟨rfl,rv6,hw6,hb6,hf6⟩;rw[HRF.out];simp only[errV];have HW6:=hide hw6;have HB6:=hide hb6;have HF6:=hide hf6;clear hw6 hb6 hf6))
     go_ret2;exact⟨F,HPF.out,zCD HW.out hB HB2.out (by rw[HRR.out];exact HW6.out) HB6.out HF6.out HH.out (fun b off e=>by cases e;exact⟨by omega,hgl2⟩) (by rw[HRR.out];exact HRF.out) (by rw[HTK.out.1];rfl) ⟨by rw[HTK.out.1];exact n_ _,hm2⟩⟩
    ·have HRF:=hide hrf;have he:errV (cZ rds r)=.iface 114 (.int .i64 (cZ rds r)):=by unfold errV;rw[if_neg hrf]
     have HER:=hide he;clear hrf he;go_wp2_with (first
      | (go_at_call 102;refine(mB r _ (HW.out.on HB2.out) (Nat.le_trans hB HB2.out.size) hn).mono ?_;rintro e w6 ⟨rfl,rv6,hw6,hb6,hf6⟩;rw[HER.out];have HW6:=hide hw6;have HB6:=hide hb6;have HF6:=hide hf6;clear hw6 hb6 hf6))
     go_ret2;exact⟨F,HPF.out,zBx hB HB2.out (by rw[HRR.out];exact HW6.out) HB6.out HF6.out (by rw[HRR.out];exact HRF.out) (by rw[HRR.out,HER.out];rfl)⟩
  ·have hmI:¬(m:Int)<=(F.length:Int):=by omega
   have HTF:Hid (F.take m=F):=List.take_of_length_le (by omega);have HB2:=hide HRD.out.bel;have HH:Hid (bY T ra (F.take m)/\∀ b off,ra=some ⟨b,off,none⟩->w.heap.size<=b/\b<T.heap.size):=by
    unfold Hid;rw[HTF.out];refine⟨(zJU HRD.out.own).1,fun b off e=>?_⟩;rcases aX HRD.out.own with⟨e0,_⟩|⟨g,cap',e0,h1,h2,_⟩
    ·rw[e] at e0;simp at e0
    ·rw[e] at e0;simp at e0;obtain⟨⟨rfl,_⟩,_⟩:=e0;exact⟨by omega,h2⟩
   have HCP:Hid ((F.take m).length<=rcap/\rcap<=9223372036854775807):=by
    unfold Hid;rw[HTF.out];rcases aX HRD.out.own with⟨e0,h0⟩|⟨g,cap',e0,h1,h2,h3,h4⟩
    ·rw[h0] at e0;simp at e0;rw[h0,e0.2];exact⟨n_ _,by omega⟩
    ·simp at e0;rw[e0.2];unfold maxLen at h4;exact⟨h3,by omega⟩
   have HRS:Hid (rdS F s m=s):=if_neg hmF;have u0:T.cell? ⟨rb,0,none⟩=some (.string (rdS F s m).1):=by rw[HRS.out];exact t0
   have u1:T.cell? ⟨rb,1,none⟩=some (.string (rdS F s m).2):=by rw[HRS.out];exact t1
   clear t0 t1 HRS;generalize hrr:rdS F s m=r at *;have HRR:=hide hrr;clear hrr;by_cases hrf:cZ rds r=0
   ·have HRF:=hide hrf;clear hrf;go_wp2_with (first
     | (go_at_call 102;refine(mB r _ (HW.out.on HB2.out) (Nat.le_trans hB HB2.out.size) hn).mono ?_;rintro e w6 ⟨rfl,rv6,hw6,hb6,hf6⟩;rw[HRF.out];simp only[errV];have HW6:=hide hw6;have HB6:=hide hb6;have HF6:=hide hf6;clear hw6 hb6 hf6))
    go_ret2;exact⟨F,HPF.out,zCD HW.out hB HB2.out (by rw[HRR.out];exact HW6.out) HB6.out HF6.out HH.out.1 HH.out.2 (by rw[HRR.out];exact HRF.out) (by rw[HTF.out];rfl) HCP.out⟩
   ·have HRF:=hide hrf;have he:errV (cZ rds r)=.iface 114 (.int .i64 (cZ rds r)):=by unfold errV;rw[if_neg hrf]
    have HER:=hide he;clear hrf he;go_wp2_with (first
     | (go_at_call 102;refine(mB r _ (HW.out.on HB2.out) (Nat.le_trans hB HB2.out.size) hn).mono ?_;rintro e w6 ⟨rfl,rv6,hw6,hb6,hf6⟩;rw[HER.out];have HW6:=hide hw6;have HB6:=hide hb6;have HF6:=hide hf6;clear hw6 hb6 hf6))
    go_ret2;exact⟨F,HPF.out,zBx hB HB2.out (by rw[HRR.out];exact HW6.out) HB6.out HF6.out (by rw[HRR.out];exact HRF.out) (by rw[HRR.out,HER.out];rfl)⟩
 have HREST:=hide hrest;clear hrest
 go_region_with (first|(go_at_call 98;refine(HS.out _ ?_).mono ?_;exact aB HB0.out (n_ _) (by first|exact(r_ _ _).drew|exact(r_ _ _).drew.alloc (by simp) _|exact((r_ _ _).alloc (by simp) _).drew);rintro e w2 ⟨v,rfl,hb2',F,ho,hp⟩;have hb2:Below (w.alloc (o_ #[.string s.1,.string s.2] 80)).heap.size (w.alloc (o_ #[.string s.1,.string s.2] 80)) w2:=aB (by first|exact(r_ _ _).drew|exact(r_ _ _).drew.alloc (by simp) _|exact((r_ _ _).alloc (by simp) _).drew) (n_ _) hb2';have d0:=aA hb2 a0;have d1:=aA hb2 a1;have hlt2:w.heap.size<w2.heap.size:=World.block_lt_of_cell? _ _ d0;first|(have _:Below (w.alloc (o_ #[.string s.1,.string s.2] 80)).drew.heap.size (w.alloc (o_ #[.string s.1,.string s.2] 80)).drew w2:=hb2';skip)|(have z0:w2.cell? ⟨w.heap.size+1,0,none⟩=some (.string ⟨#[]⟩):=aA hb2' (by simp);have z1:w2.cell? ⟨w.heap.size+1,1,none⟩=some (.string ⟨#[]⟩):=aA hb2' (by simp);have zl:w.heap.size+1<w2.heap.size:=World.block_lt_of_cell? _ _ z0;have zf:∀ j,w2.frozen? ⟨w.heap.size+1,j,none⟩=false:=fun j=>aE hb2' (by simp) (by simp))))
 all_goals
  have hb02:=aB HB0.out (n_ _) hb2;obtain⟨ra,rcap,rfl⟩:=iQ ho
  first
  | exact HREST.out _ _ ra rcap F (zMV hb02 ho (by simp) d0 d1) hp
  | exact HREST.out _ _ ra rcap F (zM0 hb02 ho (by simp) d0 d1 z0 z1 zf) hp
theorem zKR (s:ByteArray×ByteArray) (m:Int) (wb:Nat) (w:World) (hm:m<1):
  Calls p_ 42 #[.pointer (some ⟨wb,0,none⟩),.agg #[.string s.1,.string s.2],.int .i64 m] w fun e w'=>e=.returned (.tuple #[.slice none 0 0,errV 1])/\Below w.heap.size w w':=by
 have hB0:=a_ w (o_ #[.string s.1,.string s.2] 80);go_enter Tryz.func42,Tryz.ntmps42;go_wp2;go_ret2;exact⟨rfl,hB0⟩
abbrev Rws:=List (ByteArray×ByteArray)
structure OkV (P:Rws) (chs:List Chg) (rds:Rws):Prop where
 rise:bV P
 len:P.length<=50
 keys:∀ r∈P,r.1.size<=60
 cn:chs.length<=12
 ck:∀ c∈chs,c.key.size<=60
 cr:rises chs
 rn:rds.length<=40
structure Sn where
 n:Int
 B0:Nat
 vb:Nat
 mb:Nat
 many:Nat
 now:Int
 D:DataW Value
 g:ByteArray->Value
 R:ByteArray->List Ver
def PV (w:World) (B wb:Nat) (S:Nat->Prop) (P:Rws) (since:Sn) (chs:List Chg) (rds:Rws):Prop:=
 ∃ (cv rv:Value),VS w since.B0 since.vb since.mb since.now since.many since.D since.g since.R/\VW w B wb since.vb since.n cv rv chs rds/\(S=fun k=>inVW wb cv rv k∨inVS since.vb since.mb since.g k)/\(∀ k,inVS since.vb since.mb since.g k->¬inVW wb cv rv k)/\sayR since.R since.n P/\since.many<=1000000/\(∀ key,(since.R key).length<=1000000)/\OkV P chs rds/\B<=w.heap.size
theorem PV.kept {w w':World} {B wb:Nat} {S:Nat->Prop} {P:Rws} {since:Sn} {chs:List Chg} {rds:Rws} (h:PV w B wb S P since chs rds) (hs:w.heap.size<=w'.heap.size) (hk:∀ k,S k->w'.heap[k]?=w.heap[k]?):PV w' B wb S P since chs rds:=by
 obtain⟨cv,rv,h1,h2,rfl,h4,h5,h6,h7,h8,h9⟩:=h;exact⟨cv,rv,h1.kept fun k e=>hk k (.inr e),h2.kept fun k e=>hk k (.inl e),rfl,h4,h5,h6,h7,h8,Nat.le_trans h9 hs⟩
theorem PV.lt {w:World} {B wb:Nat} {S:Nat->Prop} {P:Rws} {since:Sn} {chs:List Chg} {rds:Rws} (h:PV w B wb S P since chs rds) {k:Nat} (hk:S k):k<w.heap.size:=by
 obtain⟨cv,rv,h1,h2,rfl,h4,h5,h6,h7,h8,h9⟩:=h;exact hk.elim (fun e=>h2.lt e) fun e=>h1.lt e
theorem PV.on {w w':World} {B wb:Nat} {S:Nat->Prop} {P:Rws} {since:Sn} {chs:List Chg} {rds:Rws} (h:PV w B wb S P since chs rds) (hb:Below w.heap.size w w'):PV w' B wb S P since chs rds:=
 h.kept hb.size fun k hk=>hb.block k (h.lt hk)
theorem PV.ok {w:World} {B wb:Nat} {S:Nat->Prop} {P:Rws} {since:Sn} {chs:List Chg} {rds:Rws} (h:PV w B wb S P since chs rds):OkV P chs rds:=by
 obtain⟨cv,rv,h1,h2,rfl,h4,h5,h6,h7,h8,h9⟩:=h;exact h8
theorem PV.lo {w:World} {B wb:Nat} {S:Nat->Prop} {P:Rws} {since:Sn} {chs:List Chg} {rds:Rws} (h:PV w B wb S P since chs rds):B<=w.heap.size:=by
 obtain⟨cv,rv,h1,h2,rfl,h4,h5,h6,h7,h8,h9⟩:=h;exact h9
theorem nG {w w':World} {B wb:Nat} {since:Sn} {cv rv cv' rv':Value} {P:Rws} {chs:List Chg} {rds:Rws} (h1:VS w since.B0 since.vb since.mb since.now since.many since.D since.g since.R) (h4:∀ k,inVS since.vb since.mb since.g k->¬inVW wb cv rv k) (h5:sayR since.R since.n P) (h6:since.many<=1000000) (h7:∀ key,(since.R key).length<=1000000) (h9:B<=w.heap.size)
  (hw:VW w' B wb since.vb since.n cv' rv' chs rds) (hb:Below B w w') (hf:farW w w' wb cv rv cv' rv') (ok:OkV P chs rds):
  PV w' B wb (fun k=>inVW wb cv' rv' k∨inVS since.vb since.mb since.g k) P since chs rds/\aG w w' B (fun k=>inVW wb cv rv k∨inVS since.vb since.mb since.g k) (fun k=>inVW wb cv' rv' k∨inVS since.vb since.mb since.g k):=by
 obtain⟨a,b⟩:=zFg h1 hf h4;refine⟨⟨cv',rv',a,hw,rfl,b,h5,h6,h7,ok,Nat.le_trans h9 hb.size⟩,hb,fun j hj hn=>?_⟩;obtain⟨c,d⟩:=hf j hj fun e=>hn (.inl e);exact⟨c,fun e=>e.elim d fun e=>hn (.inr e)⟩
def ActV (w w':World) (B wb:Nat) (S:Nat->Prop) (P:Rws) (since:Sn) (chs:List Chg) (rds:Rws):Prop:=∃ S',PV w' B wb S' P since chs rds/\aG w w' B S S'
theorem xQ {P:Rws} {chs:List Chg} {rds:Rws} {c:Chg} (h:OkV P chs rds) (hc:aD c=0->c.key.size<=60):OkV P (bG chs c) rds:=by
 unfold bG;split
 ·rename_i hf;have hf0:aD c=0:=by
   unfold cH at hf;split at hf
   ·assumption
   ·rename_i h';exact absurd hf h'
  have hl:¬12<(insL chs c).length:=by
   intro hl;unfold cH at hf;rw[if_pos hf0,if_pos hl] at hf;cases hf
  exact { h with cn:=by omega,cr:=zA8 c h.cr,ck:=fun x hx=>(vU hx).elim (fun e=>by rw[e];exact hc hf0) (h.ck x) }
 ·exact h
theorem pZ {l:Rws} {s:ByteArray×ByteArray} (h:l.length<=40):(gX l s).length<=40:=by
 unfold gX;split
 ·exact h
 ·split
  ·exact h
  ·rw[List.length_append,List.length_singleton];omega
theorem zIB (key val:ByteArray) {B wb:Nat} {S:Nat->Prop} {P:Rws} {since:Sn} {chs:List Chg} {rds:Rws} (w:World) (h:PV w B wb S P since chs rds) (hk:key.size<=maxLen) (hf:aD ⟨key,val,false⟩=0->key.size<=60):
  Calls p_ 47 #[.pointer (some ⟨wb,0,none⟩),.string key,.string val] w fun e w'=>e=.returned (errV (cH chs ⟨key,val,false⟩))/\ActV w w' B wb S P since (bG chs ⟨key,val,false⟩) rds:=by
 obtain⟨cv,rv,h1,h2,rfl,h4,h5,h6,h7,h8,h9⟩:=h;refine(zKP key val w h2 h9 (by have:=h8.cn;omega) hk).mono ?_;rintro e w' ⟨rfl,cv',hw,hb,hfar⟩;exact⟨rfl,_,nG h1 h4 h5 h6 h7 h9 hw hb hfar (xQ h8 hf)⟩
theorem zHv (key:ByteArray) {B wb:Nat} {S:Nat->Prop} {P:Rws} {since:Sn} {chs:List Chg} {rds:Rws} (w:World) (h:PV w B wb S P since chs rds) (hk:key.size<=maxLen) (hf:aD ⟨key,⟨#[]⟩,true⟩=0->key.size<=60):
  Calls p_ 86 #[.pointer (some ⟨wb,0,none⟩),.string key] w fun e w'=>e=.returned (errV (cH chs ⟨key,⟨#[]⟩,true⟩))/\ActV w w' B wb S P since (bG chs ⟨key,⟨#[]⟩,true⟩) rds:=by
 obtain⟨cv,rv,h1,h2,rfl,h4,h5,h6,h7,h8,h9⟩:=h;refine(zEO key w h2 h9 (by have:=h8.cn;omega) hk).mono ?_;rintro e w' ⟨rfl,cv',hw,hb,hfar⟩;exact⟨rfl,_,nG h1 h4 h5 h6 h7 h9 hw hb hfar (xQ h8 hf)⟩
theorem zLZ {B2:Nat} {mv:Value} {mk:List Chg} {B wb:Nat} {S:Nat->Prop} {P:Rws} {since:Sn} {chs:List Chg} {rds:Rws} (w:World) (h:PV w B wb S P since chs rds) (hm:bO w B2 mv mk) (hn:mk.length<=12) (hk:∀ c∈mk,c.key.size<=60) (hr:rises mk):
  Calls p_ 174 #[.pointer (some ⟨wb,0,none⟩),mv] w fun e w'=>e=.returned (.tuple #[])/\ActV w w' B wb S P since mk rds:=by
 obtain⟨cv,rv,h1,h2,rfl,h4,h5,h6,h7,h8,h9⟩:=h;refine(zKy w h2 h9 hm (by omega)).mono ?_;rintro e w' ⟨rfl,cv',hw,hb,hfar⟩;exact⟨rfl,_,nG h1 h4 h5 h6 h7 h9 hw hb hfar { h8 with cn:=hn,ck:=hk,cr:=hr }⟩
theorem zFs {B wb:Nat} {S:Nat->Prop} {P:Rws} {since:Sn} {chs:List Chg} {rds:Rws} (w:World) (h:PV w B wb S P since chs rds):
  Calls p_ 173 #[.pointer (some ⟨wb,0,none⟩)] w fun e w'=>∃ v,e=.returned v/\bO w' w.heap.size v chs/\Below w.heap.size w w':=by
 obtain⟨cv,rv,h1,h2,rfl,h4,h5,h6,h7,h8,h9⟩:=h;exact zJQ w h2 (by have:=h8.cn;omega)
def getP (chs:List Chg) (rds P:Rws) (key:ByteArray):ByteArray×Bool×Nat:=
 if keyL key.data.toList then match qB chs key with
  | some c=>(c.val,!c.gone,0)
  | none=>if cZ rds (key,cX key)=0 then ((valR P key).1,(valR P key).2,0) else (⟨#[]⟩,false,cZ rds (key,cX key))
 else (⟨#[]⟩,false,3)
theorem zDB {chs:List Chg} {rds:Rws} {key:ByteArray} (h:rds.length<=40):(getL chs rds key).length<=40:=by
 unfold getL;split
 ·split
  ·exact h
  ·exact pZ h
 ·exact h
theorem zMh {chs:List Chg} {rds P:Rws} {R:ByteArray->List Ver} {since:Int} (h:sayR R since P) (key:ByteArray):getR chs rds R since key=getP chs rds P key:=by
 unfold getR getP;rw[h key]<;>rfl
theorem zMZ (key:ByteArray) {B wb:Nat} {S:Nat->Prop} {P:Rws} {since:Sn} {chs:List Chg} {rds:Rws} (w:World) (h:PV w B wb S P since chs rds) (hk:key.size<=maxLen):
  Calls p_ 44 #[.pointer (some ⟨wb,0,none⟩),.string key] w fun e w'=>e=.returned (.tuple #[.string (getP chs rds P key).1,.bool (getP chs rds P key).2.1,errV (getP chs rds P key).2.2])/\ActV w w' B wb S P since chs (getL chs rds key):=by
 obtain⟨cv,rv,h1,h2,rfl,h4,h5,h6,h7,h8,h9⟩:=h;refine(zLX key w h1 h2 h4 h9 (by have:=h8.rn;omega) (by have:=h8.cn;omega) hk (h7 key)).mono ?_;rintro e w' ⟨rfl,rv',hw,hb,hfar⟩;rw[zMh h5];exact⟨rfl,_,nG h1 h4 h5 h6 h7 h9 hw hb hfar { h8 with rn:=zDB h8.rn }⟩
def aF (P:Rws) (chs:List Chg) (s:ByteArray×ByteArray):Rws:=gP (inR P s) s chs
def dL (L rds:Rws) (s:ByteArray×ByteArray) (m:Int):Nat:=if m<1 then 1 else cZ rds (rdS L s m.toNat)
def eP (L rds:Rws) (s:ByteArray×ByteArray) (m:Int):Rws:=if m<1 then rds else gX rds (rdS L s m.toNat)
theorem zHk {L rds:Rws} {s:ByteArray×ByteArray} {m:Int} (h:rds.length<=40):(eP L rds s m).length<=40:=by
 unfold eP;split
 ·exact h
 ·exact pZ h
def zFy (w w':World) (e:Ending) (B wb:Nat) (S:Nat->Prop) (P:Rws) (since:Sn) (chs:List Chg) (rds:Rws) (s:ByteArray×ByteArray) (m:Int) (L:Rws):Prop:=
 (dL L rds s m=0->∃ ao cap,e=.returned (.tuple #[.slice ao (L.take m.toNat).length cap,.nilIface])/\((L.take m.toNat).length<=cap/\cap<=9223372036854775807)/\bY w' ao (L.take m.toNat)/\∃ S',PV w' B wb S' P since chs (eP L rds s m)/\aG w w' B S S'/\∀ b off,ao=some ⟨b,off,none⟩->w.heap.size<=b/\b<w'.heap.size/\¬S' b)/\
 (dL L rds s m≠0->e=.returned (.tuple #[.slice none 0 0,errV (dL L rds s m)])/\ActV w w' B wb S P since chs (eP L rds s m))
theorem jN {P:Rws} {chs:List Chg} {rds:Rws} (h:OkV P chs rds) (s:ByteArray×ByteArray):(aF P chs s).length<=62/\∀ r∈aF P chs s,r.1.size<=60:=by
 refine⟨?_,zBh chs (fun r hr=>h.keys r (List.mem_filter.1 hr).1) h.ck⟩;have h1:=zBL (inR P s) s chs;have h2:(inR P s).length<=P.length:=List.length_filter_le _ _;have h3:=h.len;have h4:=h.cn;unfold aF;omega
theorem vM (s:ByteArray×ByteArray) (m:Int) {B wb:Nat} {S:Nat->Prop} {P:Rws} {since:Sn} {chs:List Chg} {rds:Rws} (w:World) (h:PV w B wb S P since chs rds) (hm:m<=9223372036854775807):
  Calls p_ 42 #[.pointer (some ⟨wb,0,none⟩),.agg #[.string s.1,.string s.2],.int .i64 m] w fun e w'=>zFy w w' e B wb S P since chs rds s m (aF P chs s):=by
 by_cases h0:m<1
 ·refine(zKR s m wb w h0).mono ?_;rintro e w' ⟨rfl,hb⟩;have e1:dL (aF P chs s) rds s m=1:=if_pos h0;have e2:eP (aF P chs s) rds s m=rds:=if_pos h0;unfold zFy;rw[e1,e2];exact⟨(fun e=>by cases e),fun _=>⟨rfl,S,h.on hb,.on h.lo hb⟩⟩
 ·have ok:=h.ok;obtain⟨cv,rv,h1,h2,rfl,h4,h5,h6,h7,h8,h9⟩:=h;have e0:(m.toNat:Int)=m:=by omega
  have e1:dL (aF P chs s) rds s m=cZ rds (rdS (aF P chs s) s m.toNat):=if_neg h0;have e2:eP (aF P chs s) rds s m=gX rds (rdS (aF P chs s) s m.toNat):=if_neg h0;have hs:zCE w wb s (fun F=>F=aF P chs s):=fun W hb=>(zKo s W (h1.on hb) (h2.on hb) h6 h7 ok.rise (by have:=ok.len;omega) (fun r hr=>by have:=ok.keys r hr;omega) h5 (by have:=ok.cn;omega)).mono (by
   rintro e w' ⟨v,rfl,hb',ho⟩;exact⟨v,rfl,hb',_,ho,rfl⟩)
  have hc:=zMz s m.toNat w h2 hs (fun F hF=>by rw[hF];exact⟨by have:=(jN ok s).1;omega,fun r hr=>by have:=(jN ok s).2 r hr;omega⟩) h9 (by have:=ok.rn;omega) (by omega) (by omega);rw[e0] at hc;refine hc.mono ?_;rintro e w' ⟨F,rfl,hok,hbad⟩;unfold zFy;rw[e1,e2];have ok2:OkV P chs (gX rds (rdS (aF P chs s) s m.toNat)):={ ok with rn:=pZ ok.rn };refine⟨fun hz=>?_,fun hz=>?_⟩
  ·obtain⟨ao,cap,he,hcap,hh,rv',hw,hb,hfar,hnew⟩:=hok hz;obtain⟨q1,q2⟩:=nG h1 h4 h5 h6 h7 h9 hw hb hfar ok2;refine⟨ao,cap,he,hcap,hh,_,q1,q2,fun b off e=>?_⟩;obtain⟨r1,r2,r3⟩:=hnew b off e;exact⟨r1,r2,fun e=>e.elim r3 fun e=>by have:=h1.lt e;omega⟩
  ·obtain⟨he,rv',hw,hb,hfar⟩:=hbad hz;exact⟨he,_,nG h1 h4 h5 h6 h7 h9 hw hb hfar ok2⟩
end
section
open Go.RowKit Go.Joins
theorem oO {c:Chg} (h:aD c=0):keyL c.key.data.toList=true/\c.val.size<=40:=by
 unfold aD at h;split at h
 ·cases h
 ·split at h
  ·cases h
  ·split at h
   ·cases h
   ·rename_i h1 _ h3;exact⟨by simpa using h1,by omega⟩
theorem lD {c:Chg} (h:aD c=0):c.key.size<=60:=by
 have:=zDf (oO h).1;have e:c.key.data.toList.length=c.key.size:=by rw[Array.length_toList];rfl
 omega
structure OkQ (P:Rws) (chs:List Chg):Prop where
 rk:∀ r∈P,keyL r.1.data.toList=true/\r.2.size<=40
 cf:∀ c∈chs,aD c=0
theorem OkQ.ck {P:Rws} {chs:List Chg} (h:OkQ P chs):∀ c∈chs,keyL c.key.data.toList=true/\c.val.size<=40:=fun c hc=>oO (h.cf c hc)
theorem zEL {l:List Chg} {c:Chg} (h:cH l c=0):aD c=0:=by
 unfold cH at h;split at h
 ·assumption
 ·exact h
theorem OkQ.alter {P:Rws} {chs:List Chg} (h:OkQ P chs) (c:Chg):OkQ P (bG chs c):=by
 unfold bG;split
 ·rename_i hf;exact⟨h.rk,fun x hx=>(vU hx).elim (fun e=>by rw[e];exact zEL hf) (h.cf x)⟩
 ·exact h
end
section
open Go.RowKit Go.Joins
attribute [local go_sem ↓] Go.wp_at_zero Go.wp_at_succ
def cO (l:List Chg) (i:Nat):Nat:=match l[i]? with
 | none=>0
 | some c=>if aD c≠0 then aD c else match i with
  | 0=>0
  | j+1=>match l[j]? with
   | some p=>if leS c.key p.key then 3 else 0
   | none=>0
def iT (l:List Chg):Nat:=(((List.range l.length).map (cO l)).find? (· != 0)).getD 0
theorem yJ {l:List Chg} {k:Nat} (hk:k<l.length) (h:∀ i,i<k->cO l i=0) (hf:cO l k≠0):iT l=cO l k:=by
 unfold iT;have:((List.range l.length).map (cO l)).find? (· != 0)=some (cO l k):=by
  rw[List.find?_eq_some_iff_getElem];refine⟨by simpa using hf,k,by simpa using hk,by simp,fun j hj=>?_⟩;have:=h j hj;simp[this]
 rw[this];rfl
theorem zBe {l:List Chg} (h:∀ i,i<l.length->cO l i=0):iT l=0:=by
 unfold iT;have:((List.range l.length).map (cO l)).find? (· != 0)=none:=by
  rw[List.find?_eq_none];intro x hx;obtain⟨i,hi,rfl⟩:=List.mem_map.1 hx;simp[h i (List.mem_range.1 hi)]
 rw[this];rfl
theorem zDz {l:List Chg} {k:Nat} (hk:k<l.length) (h:aD l[k]≠0):cO l k=aD l[k]:=by
 unfold cO;rw[List.getElem?_eq_getElem hk];simp[h]
theorem zHx {l:List Chg} (hk:0<l.length) (h:aD l[0]=0):cO l 0=0:=by
 unfold cO;rw[List.getElem?_eq_getElem hk];simp[h]
theorem zJC {l:List Chg} {j:Nat} (hk:j+1<l.length) (h:aD l[j+1]=0):cO l (j+1)=if leS l[j+1].key l[j].key then 3 else 0:=by
 have h2:l[j]?=some l[j]:=List.getElem?_eq_getElem (by omega);simp[cO,hk,h,h2]
theorem zEW (l:List Chg) (b off cap:Nat) (w:World) (hl:dG w b off l) (hn:l.length<=1000) (hk:∀ c∈l,c.key.size<=1000000):
  Calls p_ 195 #[.slice (some ⟨b,off,none⟩) l.length cap] w fun e w'=>e=.returned (errV (iT l))/\Below w.heap.size w w':=by
 go_enter Tryz.func195,Tryz.ntmps195;go_wp2
 go_loopw [8] (fun i wr=>∃ k:Nat,k<=l.length/\i=.int .i64 k/\(∀ i,i<k->cO l i=0)/\Below w.heap.size w wr) (fun i _=>l.length-(intOf i).toNat)
 case atStart=>exact⟨0,Nat.zero_le _,rfl,by simp,r_ _ _⟩
 case round=>
  obtain⟨k,hkl,rfl,hz,hB⟩:=hrel;have HZ:=hide hz;clear hz;by_cases hlt:k<l.length
  ·obtain⟨c0,c1,c2⟩:=gC hB hl k hlt;have hlt':(k:Int)<(l.length:Int):=by omega
   have hks:=hk _ (List.getElem_mem hlt);have hbA:=a_ wr (o_ #[.string l[k].key,v_ l[k].val,Value.bool l[k].gone] 133);have x0:(wr.alloc (o_ #[.string l[k].key,v_ l[k].val,Value.bool l[k].gone] 133)).cell? ⟨wr.heap.size,0,none⟩=some (.string l[k].key):=aC _ _ _ 0;have x1:(wr.alloc (o_ #[.string l[k].key,v_ l[k].val,Value.bool l[k].gone] 133)).cell? ⟨wr.heap.size,1,none⟩=some (.string l[k].val):=aC _ _ _ 1;have x2:(wr.alloc (o_ #[.string l[k].key,v_ l[k].val,Value.bool l[k].gone] 133)).cell? ⟨wr.heap.size,2,none⟩=some (.bool l[k].gone):=aC _ _ _ 2;have hBA:=aB hB (n_ _) hbA;by_cases hf:aD l[k]=0
   ·have HC:=fun w'=>hide (gB l[k] w' (by unfold maxLen;omega));rw[hf] at HC;by_cases h0:k=0
    ·have HS:Hid (cO l k=0):=by
      subst h0;exact zHx hlt hf
     have hd:decide ((0:Int)<(k:Int))=false:=by simp;omega
     have hd2:decide (0<k)=false:=by simp;omega
     have H0:=hide h0;clear h0;go_wp2_with (go_at_call 170;refine((HC _).out).mono ?_;rintro e w1 ⟨rfl,hb⟩;replace hBA:=aB hBA (n_ _) hb;replace x0:=aA hb x0;simp only[errV])
     go_quiet (fail);go_wp2;go_roundw
     case rel=>exact⟨k+1,by omega,by go_num,fun i hi=>by
      rcases Nat.lt_or_ge i k with h|h
      ·exact HZ.out i h
      ·have e:i=k:=by omega
       rw[e];exact HS.out,hBA.trans ((below_draws _ _ _).mono hBA.size)⟩
     case measure=>simp[intOf];omega
    ·obtain⟨j,hj⟩:∃ j,k=j+1:=⟨k-1,by omega⟩;have hjl:j<l.length:=by omega
     have HS:Hid (cO l k=if leS l[k].key l[j].key then 3 else 0):=by
      subst hj;exact zJC hlt hf
     obtain⟨p0w,_,_⟩:=hl j hjl;have hd:(0:Int)<(k:Int):=by omega
     have k1:(k:Int)-1=(j:Int):=by omega
     have k2:(j:Int)<(l.length:Int):=by omega
     have k3:IntKind.i64.wrap ((k:Int)-1)=(j:Int):=by rw[k1,IntKind.wrap_i64];omega
     have k4:(0:Int)<=(j:Int):=Int.natCast_nonneg _;have hd2:decide (0<k)=true:=by simp;omega
     have hd3:decide ((0:Int)<(k:Int))=true:=by simp;omega
     have HJ:=hide hj;clear hj h0
     cases hle:leS l[k].key l[j].key with
     | true=>
      have HL:Hid (cO l k=3):=by unfold Hid;rw[HS.out,hle];rfl
      have hle':(Op.bytesLess l[k].key.toList l[j].key.toList || l[k].key.toList==l[j].key.toList)=true:=hle;clear hle;go_wp2_with (go_at_call 170;refine((HC _).out).mono ?_;rintro e w1 ⟨rfl,hb⟩;replace hBA:=aB hBA (n_ _) hb;replace x0:=aA hb x0;have p0:=aA hBA p0w;simp only[errV])
      go_quiet (fail);go_wp2;go_ret;exact⟨by rw[yJ hlt HZ.out (by rw[HL.out];omega),HL.out];rfl,hBA.trans ((below_draws _ _ _).mono hBA.size)⟩
     | false=>
      have HL:Hid (cO l k=0):=by unfold Hid;rw[HS.out,hle];rfl
      have hle':(Op.bytesLess l[k].key.toList l[j].key.toList || l[k].key.toList==l[j].key.toList)=false:=hle;clear hle;go_wp2_with (go_at_call 170;refine((HC _).out).mono ?_;rintro e w1 ⟨rfl,hb⟩;replace hBA:=aB hBA (n_ _) hb;replace x0:=aA hb x0;have p0:=aA hBA p0w;simp only[errV])
      go_quiet (fail);go_wp2;go_roundw
      case rel=>exact⟨k+1,by omega,by go_num,fun i hi=>by
       rcases Nat.lt_or_ge i k with h|h
       ·exact HZ.out i h
       ·have e:i=k:=by omega
        rw[e];exact HL.out,hBA.trans ((below_draws _ _ _).mono hBA.size)⟩
      case measure=>simp[intOf];omega
   ·have HC:=fun w'=>hide (gB l[k] w' (by unfold maxLen;omega));have HD:=hide (yJ hlt HZ.out (by rw[zDz hlt hf];exact hf));have HS:=hide (zDz hlt hf);generalize hfe:aD l[k]=f at HC HS hf;have HF:=hide hf;clear hfe hf;go_wp2_with (go_at_call 170;refine((HC _).out).mono ?_;rintro e w1 ⟨rfl,hb⟩;replace hBA:=aB hBA (n_ _) hb;rw[errV,if_neg HF.out])
    go_ret;exact⟨by rw[HD.out,HS.out,errV,if_neg HF.out];rfl,hBA⟩
  ·go_wp2;go_ret;exact⟨by rw[zBe fun i hi=>HZ.out i (by omega)];rfl,hB⟩
end
section
open Go.RowKit Go.Joins
structure VwL where
 P:Rws
 n:Nat
 chs:List Chg
 rds:Rws
structure ESt where
 x:SSt
 now:Nat
 R:ByteArray->List Ver
 ds:List aU
 ses:Nat->Option VwL
 c:Nat
def setS (f:Nat->Option VwL) (i:Nat) (v:Option VwL):Nat->Option VwL:=fun j=>if j=i then v else f j
theorem hE (f:Nat->Option VwL) (i:Nat) (v:Option VwL):setS f i v i=v:=if_pos rfl
theorem hU {f:Nat->Option VwL} {i j:Nat} (v:Option VwL) (h:j≠i):setS f i v j=f j:=if_neg h
theorem zBn {f:Nat->Option VwL} {i j:Nat} {v:VwL} (h:setS f i none j=some v):f j=some v:=by
 unfold setS at h;split at h
 ·cases h
 ·exact h
def minS (n:Nat):Option VwL->Nat
 | some v=>min n v.n
 | none=>n
def cI (s:ESt):Nat:=minS (minS (minS (minS s.now (s.ses 0)) (s.ses 1)) (s.ses 2)) (s.ses 3)
theorem lB (n:Nat) (o:Option VwL):minS n o<=n:=by cases o<;>simp only[minS]<;>omega
theorem qC {n:Nat} {o:Option VwL} {v:VwL} (h:o=some v):minS n o<=v.n:=by subst h;simp only[minS];omega
theorem zF7 (s:ESt):cI s<=s.now:=by
 have h1:=lB (minS (minS (minS s.now (s.ses 0)) (s.ses 1)) (s.ses 2)) (s.ses 3);have h2:=lB (minS (minS s.now (s.ses 0)) (s.ses 1)) (s.ses 2);have h3:=lB (minS s.now (s.ses 0)) (s.ses 1);have h4:=lB s.now (s.ses 0);unfold cI;omega
theorem yI {s:ESt} {i:Nat} {v:VwL} (hi:i<4) (h:s.ses i=some v):cI s<=v.n:=by
 have h1:=lB (minS (minS (minS s.now (s.ses 0)) (s.ses 1)) (s.ses 2)) (s.ses 3);have h2:=lB (minS (minS s.now (s.ses 0)) (s.ses 1)) (s.ses 2);have h3:=lB (minS s.now (s.ses 0)) (s.ses 1);have h4:=lB s.now (s.ses 0);unfold cI;have hc:i=0∨i=1∨i=2∨i=3:=by omega
 rcases hc with rfl|rfl|rfl|rfl
 ·have:=qC (n:=s.now) h;omega
 ·have:=qC (n:=minS s.now (s.ses 0)) h;omega
 ·have:=qC (n:=minS (minS s.now (s.ses 0)) (s.ses 1)) h;omega
 ·exact qC h
def nU (s:ESt) (i:Nat):ESt:={ s with ses:=setS s.ses i none }
def endE (s:ESt) (i:Nat):ESt:={ nU s i with ds:=s.ds.drop (cR s.ds (cI (nU s i))) }
def dX (s:ESt) (i:Nat):ESt:={ s with ses:=setS s.ses i (some ⟨aS s.x.rows,s.now,[],[]⟩) }
def jU (s:ESt) (i:Nat) (v:VwL) (chs:List Chg) (rds:Rws):ESt:={ s with ses:=setS s.ses i (some ⟨v.P,v.n,chs,rds⟩) }
def addE (s:ESt) (chs:List Chg):ESt:={ s with x:=(comR s.x chs).2,now:=s.now+1,R:=cW s.R ((s.now:Int)+1) chs,ds:=s.ds++[⟨(s.now:Int)+1,chs.map (·.key)⟩],c:=s.c+1 }
def comE (s:ESt) (i:Nat):(Nat×Nat)×ESt:=match s.ses i with
 | none=>((0,7),s)
 | some v=>if v.chs=[] then ((v.n,0),endE s i)
  else if lC s.ds v.rds v.n=false then ((0,9),endE s i)
  else if (comR s.x v.chs).1≠0 then ((0,(comR s.x v.chs).1),{ s with x:=(comR s.x v.chs).2 })
  else ((s.now+1,0),endE (addE s v.chs) i)
def dS (s:ESt) (i:Nat):Nat×ESt:=match s.ses i with
 | none=>(7,s)
 | some _=>(0,endE s i)
def vacC (R:ByteArray->List Ver) (n:Int):ByteArray->List Ver:=fun key=>if key.size<=maxLen then dN (R key) n else R key
theorem zMn {R:ByteArray->List Ver} {n:Int} {K:List ByteArray} (h:keysV R K):vacR R n K=vacC R n:=by
 funext key;unfold vacC;by_cases hin:key∈K
 ·rw[vJ hin,if_pos ((h.2 key).1 hin).1]
 ·rw[pV hin];split
  ·rename_i hs;by_cases e:R key=[]
   ·rw[e,uN]
   ·exact absurd ((h.2 key).2 ⟨hs,e⟩) hin
  ·rfl
theorem vZ {R:ByteArray->List Ver} {n m:Int} (hm:n<=m) (key:ByteArray):bE (vacC R n key) m=bE (R key) m:=by
 unfold vacC;split
 ·exact zC0 hm
 ·rfl
def vacE (s:ESt):ESt:={ s with R:=vacC s.R (cI s),c:=s.c+1 }
def chkE (s:ESt):ESt:={ s with x:=(chkR s.x).2 }
def newE (d:DSt) (area first u:Nat) (rows:List Chg):ESt:=⟨⟨d,area,first,u,rows⟩,0,jS (aS rows),[],fun _=>none,0⟩
structure VOk (s:ESt) (v:VwL):Prop where
 lo:v.n<=s.now
 say:sayR s.R v.n v.P
 ov:OkV v.P v.chs v.rds
 oq:OkQ v.P v.chs
 sem:∀ key,(∀ d∈s.ds,(v.n:Int)<d.n->key∉d.keys)->valR (aS s.x.rows) key=valR v.P key
structure EOk (s:ESt):Prop where
 g:fA s.x
 say:sayR s.R s.now (aS s.x.rows)
 up:nC s.R s.now
 rd:gS s.ds
 dn:∀ d∈s.ds,d.n<=s.now
 dl:s.ds.length<=s.now
 dk:∀ d∈s.ds,d.keys.length<=12
 kl:∃ L:List ByteArray,L.length<=50+12*s.now/\∀ key,s.R key≠[]->key∈L
 rl:∀ key,(s.R key).length<=1+12*s.now
 nc:s.now<=s.c
 ses:∀ i v,s.ses i=some v->VOk s v
theorem yA {rows:List Chg} (h:fH rows) (hn:rows.length<=40):OkV (aS rows) [] [] where
 rise:=oY h.2
 len:=by unfold aS;rw[List.length_map];omega
 keys:=fun r hr=>by
  obtain⟨c,hc,rfl⟩:=List.mem_map.1 hr;exact lD (h.1 c hc).1
 cn:=by simp
 ck:=by simp
 cr:=List.Pairwise.nil
 rn:=by simp
theorem zKG {rows:List Chg} (h:fH rows):OkQ (aS rows) [] where
 rk:=fun r hr=>by
  obtain⟨c,hc,rfl⟩:=List.mem_map.1 hr;exact oO (h.1 c hc).1
 cf:=by simp
theorem zLq {R:ByteArray->List Ver} {a n:Int} {P:Rws} (hu:nC R a) (han:a<=n) (h:sayR R a P):sayR R n P:=fun key=>by
 have e:dZ (R key) n=dZ (R key) a:=by
  unfold dZ;have hf:∀ (l:List Ver),(∀ x∈l,x.deed<=a)->l.find? (fun x=>decide (x.deed<=n))=l.find? (fun x=>decide (x.deed<=a)):=by
   intro l hl
   cases l with
   | nil=>rfl
   | cons x l=>
    have:=hl x (List.mem_cons_self ..);rw[List.find?_cons_of_pos (by simp;omega),List.find?_cons_of_pos (by simpa using this)]
  exact hf _ fun x hx=>hu key x (List.mem_reverse.1 hx)
 have h1:=h key;unfold bE at h1 ⊢;rw[e];exact h1
theorem zCb {P:Rws} (hP:bV P) {key:ByteArray}:∀ (cs:List Chg),key∉cs.map (·.key)->valR (iB P cs) key=valR P key:=by
 intro cs
 induction cs generalizing P with
 | nil=>intro _;rfl
 | cons c cs ih=>
  intro h;rw[List.map_cons,List.mem_cons,not_or] at h;have e:iB P (c::cs)=iB (apply1 P c) cs:=rfl;rw[e,ih (jO hP c) h.2];exact uJ hP h.1
theorem yU (d:Int) (key:ByteArray):∀ (l:List Chg) (R:ByteArray->List Ver),cW R d l key≠[]->R key≠[]∨key∈l.map (·.key)
 | [],R,h=>.inl h
 | c::l,R,h=>by
  have e:cW R d (c::l)=cW (putG R c.key (R c.key++[⟨d,c.val,c.gone⟩])) d l:=rfl;rw[e] at h;rcases yU d key l _ h with h1|h1
  ·by_cases hk:key=c.key
   ·exact .inr (by rw[List.map_cons,hk];exact List.mem_cons_self ..)
   ·rw[aW _ _ hk] at h1;exact .inl h1
  ·exact .inr (by rw[List.map_cons];exact List.mem_cons_of_mem _ h1)
theorem zIy {l:Rws} {key:ByteArray} (h:jS l key≠[]):key∈l.map (·.1):=by
 have aux:∀ (l:Rws) (R:ByteArray->List Ver),(l.foldl (fun R r=>putG R r.1 [⟨0,r.2,false⟩]) R) key≠[]->R key≠[]∨key∈l.map (·.1):=by
  intro l
  induction l with
  | nil=>intro R h;exact .inl h
  | cons r l ih=>
   intro R h;rcases ih _ h with h1|h1
   ·by_cases hk:key=r.1
    ·exact .inr (by rw[List.map_cons,hk];exact List.mem_cons_self ..)
    ·dsimp only at h1;rw[aW _ _ hk] at h1;exact .inl h1
   ·exact .inr (by rw[List.map_cons];exact List.mem_cons_of_mem _ h1)
 rcases aux l _ h with h1|h1
 ·exact absurd rfl h1
 ·exact h1
theorem zBQ:∀ {K KS:List ByteArray},K.Nodup->(∀ k∈K,k∈KS)->K.length<=KS.length
 | [],_,_,_=>Nat.zero_le _
 | k::K,KS,h,hs=>by
  rw[List.nodup_cons] at h;have h1:(KS.filter fun x=>!eqS x k).length<KS.length:=by
   rw[List.length_filter_lt_length_iff_exists];exact⟨k,hs k (by simp),by simp[pG]⟩
  have h2:=zBQ (KS:=KS.filter fun x=>!eqS x k) h.2 fun x hx=>by
   rw[List.mem_filter];exact⟨hs x (by simp[hx]),by simp[rH (show x≠k from fun e=>h.1 (by rw[<-e];exact hx))]⟩
  rw[List.length_cons];omega
theorem zEX {l:List Chg} (h:∀ c∈l,aD c=0) (hr:rises l):iT l=0:=by
 refine zBe fun i hi=>?_;unfold cO;rw[List.getElem?_eq_getElem hi];dsimp only;rw[if_neg (by rw[h _ (List.getElem_mem hi)];decide)]
 cases i with
 | zero=>rfl
 | succ j=>
  dsimp only;rw[List.getElem?_eq_getElem (by omega)];dsimp only;have:=List.pairwise_iff_getElem.1 hr j (j+1) (by omega) hi (by omega);rw[if_neg (by rw[mA,this];decide)]
section
variable {s:ESt}
theorem EOk.fine (h:EOk s):fH s.x.rows:=cQ.fine h.g
theorem EOk.few (h:EOk s):s.x.rows.length<=40:=cQ.few h.g
theorem EOk.begin (h:EOk s) (i:Nat):EOk (dX s i):={ h with
 ses:=fun j v hj=>by
  have hj':setS s.ses i (some ⟨aS s.x.rows,s.now,[],[]⟩) j=some v:=hj;unfold setS at hj';split at hj'
  ·cases hj';exact⟨n_ _,h.say,yA h.fine h.few,zKG h.fine,fun _ _=>rfl⟩
  ·have:=h.ses j v hj';exact⟨this.lo,this.say,this.ov,this.oq,this.sem⟩ }
theorem EOk.drop (h:EOk s) (i:Nat):EOk (nU s i):={ h with
 ses:=fun j v hj=>by
  have:=h.ses j v (zBn hj);exact⟨this.lo,this.say,this.ov,this.oq,this.sem⟩ }
theorem EOk.forget (h:EOk s) (hs:∀ i,4<=i->s.ses i=none):EOk { s with ds:=s.ds.drop (cR s.ds (cI s)) }:={ h with
 rd:=zFu h.rd _
 dn:=fun d hd=>h.dn d (List.mem_of_mem_drop hd)
 dl:=by show(s.ds.drop _).length<=s.now;rw[List.length_drop];have:=h.dl;omega
 dk:=fun d hd=>h.dk d (List.mem_of_mem_drop hd)
 ses:=fun j v hj=>by
  have hj':s.ses j=some v:=hj;have hi:j<4:=by
   rcases Nat.lt_or_ge j 4 with h4|h4
   ·exact h4
   ·rw[hs j h4] at hj';cases hj'
  have hv:=h.ses j v hj';refine⟨hv.lo,hv.say,hv.ov,hv.oq,fun key hk=>hv.sem key fun d hd hn=>hk d ?_ hn⟩;show d∈s.ds.drop (cR s.ds (cI s));rw[zFJ h.rd,List.mem_filter];have:=yI hi hj';exact⟨hd,by simp;omega⟩ }
theorem EOk.ended (h:EOk s) (hs:∀ i,4<=i->s.ses i=none) (i:Nat):EOk (endE s i):=(h.drop i).forget fun j hj=>by
 show setS s.ses i none j=none;unfold setS;split
 ·rfl
 ·exact hs j hj
theorem EOk.view (h:EOk s) {i:Nat} {v:VwL} (hv:s.ses i=some v) {chs:List Chg} {rds:Rws} (h1:OkV v.P chs rds) (h2:OkQ v.P chs):EOk (jU s i v chs rds):={ h with
 ses:=fun j u hj=>by
  have hj':setS s.ses i (some ⟨v.P,v.n,chs,rds⟩) j=some u:=hj;unfold setS at hj';have hvo:=h.ses i v hv;split at hj'
  ·cases hj';exact⟨hvo.lo,hvo.say,h1,h2,hvo.sem⟩
  ·have:=h.ses j u hj';exact⟨this.lo,this.say,this.ov,this.oq,this.sem⟩ }
theorem EOk.add (h:EOk s) {chs:List Chg} (h0:(comR s.x chs).1=0):EOk (addE s chs):=by
 obtain⟨_,hc⟩:=h.g.commit chs;have hc2:comF s.x chs=0/\fA (comR s.x chs).2/\(comR s.x chs).2.rows=aK s.x.rows chs:=by
  rcases hc with⟨_,a,b,c,_⟩|⟨a,b,_⟩|⟨a,_⟩
  ·exact⟨a,b,c⟩
  ·rw[h0] at a;exact absurd a.symm b
  ·rw[h0] at a;cases a
 obtain⟨q1,q2,q3⟩:=hc2;obtain⟨z1,z2,z3,z4⟩:=tU q1;have hrows:aS (comR s.x chs).2.rows=iB (aS s.x.rows) chs:=by rw[q3,zBY h.fine]
 have hri:=oY h.fine.2;have hnew:∀ key,key∉chs.map (·.key)->valR (aS (comR s.x chs).2.rows) key=valR (aS s.x.rows) key:=fun key hk=>by
  rw[hrows];exact zCb hri chs hk
 exact {
  g:=q2
  say:=by
   show sayR (cW s.R ((s.now:Int)+1) chs) ((s.now+1:Nat):Int) (aS (comR s.x chs).2.rows);rw[hrows];have e:((s.now+1:Nat):Int)=(s.now:Int)+1:=by omega
   rw[e];exact zJs (Int.le_refl _) hri (zLq h.up (by omega) h.say) chs
  up:=by
   show nC (cW s.R ((s.now:Int)+1) chs) ((s.now+1:Nat):Int);have e:((s.now+1:Nat):Int)=(s.now:Int)+1:=by omega
   rw[e];exact zG4 (zHH h.up (by omega)) chs
  rd:=by
   show(s.ds++[_]).Pairwise _;rw[List.pairwise_append];refine⟨h.rd,List.pairwise_singleton _ _,fun a ha b hb=>?_⟩;rw[List.mem_singleton.1 hb];have:=h.dn a ha;show a.n<(s.now:Int)+1;omega
  dn:=fun d hd=>by
   show d.n<=((s.now+1:Nat):Int);rcases List.mem_append.1 hd with hd|hd
   ·have:=h.dn d hd;omega
   ·rw[List.mem_singleton.1 hd];show(s.now:Int)+1<=_;omega
  dl:=by show(s.ds++[_]).length<=s.now+1;rw[List.length_append];have:=h.dl;simp;omega
  dk:=fun d hd=>by
   rcases List.mem_append.1 hd with hd|hd
   ·exact h.dk d hd
   ·rw[List.mem_singleton.1 hd];show(chs.map (·.key)).length<=12;rw[List.length_map];exact z1
  kl:=by
   obtain⟨L,hL1,hL2⟩:=h.kl;refine⟨L++chs.map (·.key),?_,fun key hk=>?_⟩
   ·show _<=50+12*(s.now+1);rw[List.length_append,List.length_map];omega
   ·rcases yU _ key chs s.R hk with h1|h1
    ·exact List.mem_append_left _ (hL2 key h1)
    ·exact List.mem_append_right _ h1
  rl:=fun key=>by
   have h1:=sF ((s.now:Int)+1) key chs s.R;have h2:=h.rl key;show(cW s.R ((s.now:Int)+1) chs key).length<=1+12*(s.now+1);omega
  nc:=by show s.now+1<=s.c+1;have:=h.nc;omega
  ses:=fun j v hj=>by
   have hv:=h.ses j v hj;have hlo:=hv.lo;refine⟨by show v.n<=s.now+1;omega,fun key=>?_,hv.ov,hv.oq,fun key hk=>?_⟩
   ·show bE (cW s.R ((s.now:Int)+1) chs key) v.n=_;rw[tQ (by omega)];exact hv.say key
   ·have hk':∀ d∈s.ds++[⟨(s.now:Int)+1,chs.map (·.key)⟩],(v.n:Int)<d.n->key∉d.keys:=hk;have h1:=hk' ⟨(s.now:Int)+1,chs.map (·.key)⟩ (List.mem_append_right _ (List.mem_singleton.2 rfl)) (by show(v.n:Int)<(s.now:Int)+1;omega);show valR (aS (comR s.x chs).2.rows) key=_;rw[hnew key h1];exact hv.sem key fun d hd hn=>hk' d (List.mem_append_left _ hd) hn }
theorem EOk.vac (h:EOk s) (hs:∀ i,4<=i->s.ses i=none):EOk (vacE s):={ h with
 say:=fun key=>by
  show bE (vacC s.R (cI s) key) s.now=_;rw[vZ (by have:=zF7 s;omega)];exact h.say key
 up:=fun key x hx=>by
  have hx':x∈vacC s.R (cI s) key:=hx;unfold vacC at hx';split at hx'
  ·exact h.up key x (zJr hx')
  ·exact h.up key x hx'
 kl:=by
  obtain⟨L,hL1,hL2⟩:=h.kl;refine⟨L,hL1,fun key hk=>hL2 key fun e=>hk ?_⟩;show vacC s.R (cI s) key=[];unfold vacC;rw[e];split
  ·exact uN _
  ·rfl
 rl:=fun key=>by
  show(vacC s.R (cI s) key).length<=1+12*s.now;unfold vacC;split
  ·exact Nat.le_trans (zIE _ _) (h.rl key)
  ·exact h.rl key
 nc:=by show s.now<=s.c+1;have:=h.nc;omega
 ses:=fun j v hj=>by
  have hi:j<4:=by
   rcases Nat.lt_or_ge j 4 with h4|h4
   ·exact h4
   ·have:s.ses j=some v:=hj;rw[hs j h4] at this;cases this
  have hv:=h.ses j v hj;refine⟨hv.lo,fun key=>?_,hv.ov,hv.oq,hv.sem⟩;show bE (vacC s.R (cI s) key) v.n=_;have hj':s.ses j=some v:=hj;rw[vZ (by have:=yI hi hj';omega)];exact hv.say key }
theorem EOk.store (h:EOk s) {x:SSt} (hg:fA x) (hr:x.rows=s.x.rows):EOk { s with x:=x }:={ h with
 g:=hg
 say:=by show sayR s.R s.now (aS x.rows);rw[hr];exact h.say
 ses:=fun j v hj=>by
  have hv:=h.ses j v hj;exact⟨hv.lo,hv.say,hv.ov,hv.oq,fun key hk=>by show valR (aS x.rows) key=_;rw[hr];exact hv.sem key hk⟩ }
theorem EOk.chk (h:EOk s) (h0:(chkR s.x).1=0):EOk (chkE s):=by
 obtain⟨_,k2,k3⟩:=h.g.chk;rcases k3 with⟨_,k4,_⟩|⟨k4,_⟩
 ·exact h.store k4 k2
 ·rw[h0] at k4;cases k4
end
theorem EOk.new {d:DSt} {area first u:Nat} {rows:List Chg} (h:cQ d area first u rows):EOk (newE d area first u rows) where
 g:=h
 say:=zLo (oY h.fine.2)
 up:=zH2 _
 rd:=List.Pairwise.nil
 dn:=fun d hd=>absurd hd List.not_mem_nil
 dl:=Nat.zero_le _
 dk:=fun d hd=>absurd hd List.not_mem_nil
 kl:=⟨(aS rows).map (·.1),by
  have:=h.few;unfold aS;show _<=50+12*0;rw[List.length_map,List.length_map];omega,fun key hk=>zIy hk⟩
 rl:=fun key=>zI8 _ _
 nc:=n_ _
 ses:=fun i v hv=>by cases hv
def S4 (s:ESt):Prop:=∀ i,4<=i->s.ses i=none
theorem S4.set {s:ESt} (h:S4 s) {i:Nat} (hi:i<4) (v:Option VwL):∀ j,4<=j->setS s.ses i v j=none:=fun j hj=>by
 rw[hU v (by omega)];exact h j hj
end
def dgt (n i:Nat):UInt8:=UInt8.ofNat (48+n / 10 ^ i % 10)
def six (n:Nat):List UInt8:=[dgt n 5,dgt n 4,dgt n 3,dgt n 2,dgt n 1,dgt n 0]
theorem iU (n i:Nat):(dgt n i).toNat=48+n / 10 ^ i % 10:=by
 have:n / 10 ^ i % 10<10:=Nat.mod_lt _ (by omega);simp[dgt];omega
theorem zMs (n i:Nat):eZ (dgt n i)=true:=by
 have:n / 10 ^ i % 10<10:=Nat.mod_lt _ (by omega);simp only[eZ,iU,Bool.and_eq_true,decide_eq_true_eq];omega
theorem zAT (n:Nat) (h:n<=999999):List.replicate (6-(Lib.decDigits n).length) 48++Lib.decDigits n=six n:=by
 have z:∀ i,n / 10 ^ i=0->dgt n i=48:=fun i hi=>by simp[dgt,hi]
 have e:=Lib.decDigits_eq n;have hd:∀ t,Lib.dg n t=dgt n t:=fun _=>rfl;by_cases h1:n<10
 ·have k:Lib.nDigits n=1:=by rw[Lib.nDigits,dif_pos h1]
  rw[e,k];simp[six,hd,List.range_succ,z 5 (by omega),z 4 (by omega),z 3 (by omega),z 2 (by omega),z 1 (by omega),List.replicate_succ]
 ·by_cases h2:n<100
  ·have k:Lib.nDigits n=2:=by rw[Lib.nDigits,dif_neg h1,Lib.nDigits,dif_pos (by omega)]
   rw[e,k];simp[six,hd,List.range_succ,z 5 (by omega),z 4 (by omega),z 3 (by omega),z 2 (by omega),List.replicate_succ]
  ·by_cases h3:n<1000
   ·have k:Lib.nDigits n=3:=by rw[Lib.nDigits,dif_neg h1,Lib.nDigits,dif_neg (by omega),Lib.nDigits,dif_pos (by omega)]
    rw[e,k];simp[six,hd,List.range_succ,z 5 (by omega),z 4 (by omega),z 3 (by omega),List.replicate_succ]
   ·by_cases h4:n<10000
    ·have k:Lib.nDigits n=4:=by rw[Lib.nDigits,dif_neg h1,Lib.nDigits,dif_neg (by omega),Lib.nDigits,dif_neg (by omega),Lib.nDigits,dif_pos (by omega)]
     rw[e,k];simp[six,hd,List.range_succ,z 5 (by omega),z 4 (by omega),List.replicate_succ]
    ·by_cases h5:n<100000
     ·have k:Lib.nDigits n=5:=by rw[Lib.nDigits,dif_neg h1,Lib.nDigits,dif_neg (by omega),Lib.nDigits,dif_neg (by omega),Lib.nDigits,dif_neg (by omega),Lib.nDigits,dif_pos (by omega)]
      rw[e,k];simp[six,hd,List.range_succ,z 5 (by omega)]
     ·have k:Lib.nDigits n=6:=by rw[Lib.nDigits,dif_neg h1,Lib.nDigits,dif_neg (by omega),Lib.nDigits,dif_neg (by omega),Lib.nDigits,dif_neg (by omega),Lib.nDigits,dif_neg (by omega),Lib.nDigits,dif_pos (by omega)]
      rw[e,k];simp[six,hd,List.range_succ]
theorem zL9 (n:Nat) (h:n<=999999):(Lib.decDigits n).length<=6:=by
 have:=congrArg List.length (zAT n h);rw[List.length_append,List.length_replicate] at this;have h6:(six n).length=6:=rfl;omega
theorem split6 (n:Nat) (h:n<=999999):n=100000*(n / 100000 % 10)+10000*(n / 10000 % 10)+1000*(n / 1000 % 10)+100*(n / 100 % 10)+10*(n / 10 % 10)+n % 10:=by omega
theorem zM6 (n m i:Nat):(dgt n i<dgt m i)↔n / 10 ^ i % 10<m / 10 ^ i % 10:=by
 rw[UInt8.lt_iff_toNat_lt,iU,iU];omega
theorem zM5 (n m i:Nat):(dgt n i=dgt m i)↔n / 10 ^ i % 10=m / 10 ^ i % 10:=by
 rw[<-UInt8.toNat_inj,iU,iU];omega
theorem zMS (n m:Nat) (hn:n<=999999) (hm:m<=999999):Op.bytesLess (six n) (six m)=decide (n<m):=by
 have en:=split6 n hn;have em:=split6 m hm;have b:=fun (x i:Nat)=>Nat.mod_lt (x / 10 ^ i) (show 10 > 0 by omega);have n0:=b n 0;have n1:=b n 1;have n2:=b n 2;have n3:=b n 3;have n4:=b n 4;have n5:=b n 5;have m0:=b m 0;have m1:=b m 1;have m2:=b m 2;have m3:=b m 3;have m4:=b m 4;have m5:=b m 5;rw[Bool.eq_iff_iff];simp only[six,Op.bytesLess,Bool.or_eq_true,Bool.and_eq_true,decide_eq_true_eq,beq_iff_eq,zM6,zM5];simp only[Nat.reducePow,Nat.div_one] at *;generalize n / 100000 % 10=a5 at *;generalize n / 10000 % 10=a4 at *;generalize n / 1000 % 10=a3 at *;generalize n / 100 % 10=a2 at *;generalize n / 10 % 10=a1 at *;generalize n % 10=a0 at *;generalize m / 100000 % 10=b5 at *;generalize m / 10000 % 10=b4 at *;generalize m / 1000 % 10=b3 at *;generalize m / 100 % 10=b2 at *;generalize m / 10 % 10=b1 at *;generalize m % 10=b0 at *;subst en em;simp only[Bool.false_eq_true,and_false,or_false];omega
theorem xC {l:List UInt8} (h:bK l=true):∀ c∈l,c≠47:=by
 intro c hc e;subst e;obtain⟨i,hi,hx⟩:=List.mem_iff_getElem.1 hc;simp only[bK,Bool.and_eq_true] at h;have h2:=h.2;rw[jJ,List.all_eq_true] at h2;have:=h2 i (List.mem_range.2 hi);rw[List.getD_eq_getElem?_getD,List.getElem?_eq_getElem hi,hx] at this;simp[gR,mL,eZ] at this
theorem sM {l:List UInt8} (h:∀ c∈l,c≠47) (r:List UInt8):Lib.indexByte (l++47::r) 47=l.length:=by
 induction l with
 | nil=>simp[Lib.indexByte]
 | cons c l ih=>
  have hc:(c==47)=false:=beq_eq_false_iff_ne.2 (h c (by simp));have i:=ih (fun x hx=>h x (by simp[hx]));simp only[List.cons_append,Lib.indexByte,hc,i];have:((l.length:Int) == -1)=false:=beq_eq_false_iff_ne.2 (by omega);simp[this]
theorem zEy (p k:List UInt8):((Op.bytesLess (p++[47]) k || (p++[47])==k)&&Op.bytesLess k (p++[48]))=(p++[47]).isPrefixOf k:=by
 induction p generalizing k with
 | nil=>
  cases k with
  | nil=>rfl
  | cons d r=>
   rw[Bool.eq_iff_iff];simp only[List.nil_append,Op.bytesLess,List.isPrefixOf,Bool.and_eq_true,Bool.or_eq_true,decide_eq_true_eq,beq_iff_eq,UInt8.lt_iff_toNat_lt];have n47:(47:UInt8).toNat=47:=rfl;have n48:(48:UInt8).toNat=48:=rfl;have hd:(47:UInt8)=d↔d.toNat=47:=⟨fun e=>by rw[<-e];rfl,fun e=>UInt8.toNat_inj.1 (by rw[e];rfl)⟩;rw[n47,n48,hd];simp only[Bool.false_eq_true,and_false,or_false,and_true];constructor
   ·rintro⟨h|h,h2⟩
    ·omega
    ·rw[<-List.cons.inj h |>.1] ; rfl
   ·intro e;refine⟨?_,by omega⟩;have e':=hd.2 e
    cases r with
    | nil=>right;rw[<-e']
    | cons x r=>left;right;exact⟨e,rfl⟩
 | cons c p ih=>
  cases k with
  | nil=>simp[Op.bytesLess]
  | cons d k=>
   have:=ih k;simp only[List.cons_append,Op.bytesLess,List.isPrefixOf,List.cons_beq_cons];by_cases e:c=d
   ·subst e;have n:¬c<c:=by simp
    simp only[n,decide_false,Bool.false_or,beq_self_eq_true,Bool.true_and];exact this
   ·have e1:(c==d)=false:=beq_eq_false_iff_ne.2 e;have e2:(d==c)=false:=beq_eq_false_iff_ne.2 (Ne.symm e);rw[e1,e2];by_cases l:c<d
    ·have n:¬d<c:=by rw[UInt8.lt_iff_toNat_lt] at *;omega
     simp[l,n]
    ·simp[l]
def queB (s:ByteArray):ByteArray:=⟨#[113,47]⟩++s
def aZ (q:ByteArray):ByteArray:=⟨#[109,47]⟩++q++⟨#[47]⟩
def toB (q:ByteArray):ByteArray:=⟨#[109,47]⟩++q++⟨#[48]⟩
def msgB (q:ByteArray) (n:Nat):ByteArray:=aZ q++⟨(six n).toArray⟩
theorem zMT (s:ByteArray):(queB s).data.toList=113::47::s.data.toList:=by simp[queB,ByteArray.data_append]
theorem rI (s:ByteArray):(aZ s).data.toList=109::47::(s.data.toList++[47]):=by simp[aZ,ByteArray.data_append]
theorem zNc (s:ByteArray):(toB s).data.toList=109::47::(s.data.toList++[48]):=by simp[toB,ByteArray.data_append]
theorem mN (s:ByteArray) (n:Nat):(msgB s n).data.toList=109::47::(s.data.toList++47::six n):=by
 simp[msgB,ByteArray.data_append,rI]
theorem kG {a b:ByteArray} (h:a.data.toList=b.data.toList):a=b:=gV (by rw[Lib.toList_data,Lib.toList_data,h])
theorem zGi {a b:List UInt8} (ha:∀ c∈a,c≠47) (hb:∀ c∈b,c≠47) {x y:List UInt8} (h:a++47::x=b++47::y):a=b/\x=y:=by
 have e1:=sM ha x;have e2:=sM hb y;rw[h,e2] at e1;have l:b.length=a.length:=by omega
 exact⟨(List.append_inj h l.symm).1,(List.cons.inj (List.append_inj h l.symm).2).2⟩
theorem zCP (q k:ByteArray):hasS (aZ q) (toB q) k=(aZ q).data.toList.isPrefixOf k.data.toList:=by
 have e:=zEy (109::47::q.data.toList) k.data.toList;unfold hasS leS ltS nilS;simp only[Lib.toList_data];rw[rI,zNc] at *;simp only[List.cons_append] at e;rw[<-e];simp
theorem zKW {a b:ByteArray} (ha:bK a.data.toList=true) (hb:bK b.data.toList=true) (m:Nat):hasS (aZ a) (toB a) (msgB b m)=eqS a b:=by
 rw[zCP,Bool.eq_iff_iff,List.isPrefixOf_iff_prefix,eV,rI,mN];constructor
 ·rintro⟨t,ht⟩;simp only[List.cons_append,List.append_assoc,List.cons.injEq,true_and,List.nil_append] at ht;exact kG (zGi (xC ha) (xC hb) ht).1
 ·rintro rfl;exact⟨six m,by simp⟩
theorem zKp (p x y:List UInt8):Op.bytesLess (p++x) (p++y)=Op.bytesLess x y:=by
 induction p with
 | nil=>rfl
 | cons c p ih=>simp[Op.bytesLess,ih]
theorem zM1 (a:ByteArray) {n m:Nat} (hn:n<=999999) (hm:m<=999999):ltS (msgB a n) (msgB a m)=decide (n<m):=by
 unfold ltS;rw[Lib.toList_data,Lib.toList_data,mN,mN];have:=zKp (109::47::(a.data.toList++[47])) (six n) (six m);simp only[List.cons_append,List.append_assoc,List.nil_append] at this;rw[this,zMS n m hn hm]
theorem zBk {s:ByteArray} (h:bK s.data.toList=true):s.size<=6:=by
 simp only[bK,Bool.and_eq_true,decide_eq_true_eq,fR] at h;omega
theorem pS (q:ByteArray) (n:Nat):(msgB q n).size=q.size+9:=by
 rw[Lib.size_eq,mN,Lib.size_eq];simp[six]
theorem zAv (l r:List UInt8) (acc:Nat):Lib.decFrom acc (l++r)=(Lib.decFrom acc l).bind fun m=>Lib.decFrom m r:=by
 induction l generalizing acc with
 | nil=>simp[Lib.decFrom]
 | cons b l ih=>
  simp only[List.cons_append,Lib.decFrom]
  cases Lib.digitVal b with
  | none=>rfl
  | some d=>exact ih _
theorem wG (d:Nat) (h:d<10):Lib.digitVal (UInt8.ofNat (48+d))=some d:=by
 have:(UInt8.ofNat (48+d)).toNat=48+d:=by simp;omega
 simp only[Lib.digitVal,this];rw[if_pos (by omega)];simp
theorem zDQ (n:Nat):Lib.decFrom 0 (Lib.decDigits n)=some n:=by
 induction n using Nat.strongRecOn with
 | _ n ih=>
  rw[Lib.decDigits];by_cases h:n<10
  ·rw[dif_pos h];simp only[Lib.decFrom,wG n h];simp
  ·rw[dif_neg h,zAv,ih (n / 10) (by omega)];simp only[Option.bind_some,Lib.decFrom,wG (n % 10) (Nat.mod_lt _ (by omega))];congr 1;omega
theorem zAu (n:Nat):∀ c∈Lib.decDigits n,eZ c=true:=by
 have one:∀ d,d<10->eZ (UInt8.ofNat (48+d))=true:=fun d hd=>by
  have:(UInt8.ofNat (48+d)).toNat=48+d:=by simp;omega
  simp only[eZ,this,Bool.and_eq_true,decide_eq_true_eq];omega
 induction n using Nat.strongRecOn with
 | _ n ih=>
  intro c hc;rw[Lib.decDigits] at hc;by_cases h:n<10
  ·rw[dif_pos h] at hc;simp at hc;rw[hc];simpa using one n h
  ·rw[dif_neg h,List.mem_append] at hc;rcases hc with hc|hc
   ·exact ih (n / 10) (by omega) c hc
   ·simp at hc;rw[hc];simpa using one (n % 10) (by omega)
theorem rM {c:UInt8} (h:eZ c=true) (x:UInt8) (hx:eZ x=false):c≠x:=by
 rintro rfl;rw[h] at hx;cases hx
theorem zMO (n:Nat):Lib.decDigits n≠[]:=by
 rw[Lib.decDigits];split<;>simp
theorem zJY (n:Nat):Lib.atoi (Lib.decDigits n)=some (n:Int):=by
 have h:=zDQ n;have hd:=zAu n
 cases e:Lib.decDigits n with
 | nil=>exact absurd e (zMO n)
 | cons b r=>
  rw[e] at h hd;have hb:=hd b (by simp);have n1:(b==45)=false:=beq_eq_false_iff_ne.2 (rM hb 45 (by decide));have n2:(b==43)=false:=beq_eq_false_iff_ne.2 (rM hb 43 (by decide));simp[Lib.atoi,n1,n2,Lib.decNat,h]
theorem eQ (n:Nat) (h:n<=9999999):(Lib.decDigits n).length<=7:=by
 rw[Lib.decDigits_length];have s:∀ m k,m<10 ^ (k+1)->Lib.nDigits m<=k+1:=by
  intro m k
  induction k generalizing m with
  | zero=>intro hm;rw[Lib.nDigits,dif_pos (by simpa using hm)];omega
  | succ k ih=>
   intro hm;rw[Lib.nDigits];split
   ·omega
   ·have:=ih (m / 10) (by rw[Nat.pow_succ] at hm;omega);omega
 exact s n 6 (by omega)
theorem zDE {l:List UInt8} {x:UInt8} (h:∀ c∈l,c≠x) (r:List UInt8):Lib.indexByte (l++x::r) x=l.length:=by
 induction l with
 | nil=>simp[Lib.indexByte]
 | cons c l ih=>
  have hc:(c==x)=false:=beq_eq_false_iff_ne.2 (h c (by simp));have i:=ih (fun y hy=>h y (by simp[hy]));simp only[List.cons_append,Lib.indexByte,hc,i];have:((l.length:Int) == -1)=false:=beq_eq_false_iff_ne.2 (by omega);simp[this]
def decB (n:Nat):ByteArray:=⟨(Lib.decDigits n).toArray⟩
theorem eM (n:Nat):(decB n).data.toList=Lib.decDigits n:=by simp[decB]
def dA (a b:Nat) (r:ByteArray):ByteArray:=decB a++⟨#[32]⟩++decB b++⟨#[32]⟩++r
theorem vQ (a b:Nat) (r:ByteArray):(dA a b r).data.toList=Lib.decDigits a++32::(Lib.decDigits b++32::r.data.toList):=by
 simp[dA,ByteArray.data_append,eM]
theorem zEr (a b:Nat) (r:ByteArray):Lib.indexByte (dA a b r).data.toList 32=(decB a).size:=by
 rw[vQ,zDE (fun c hc=>rM (zAu a c hc) 32 (by decide)),Lib.size_eq,eM]
end Go.Proofs.YtnboipekkahmnaaGreatDoor
