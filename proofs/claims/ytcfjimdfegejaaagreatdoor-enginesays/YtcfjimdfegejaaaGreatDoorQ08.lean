import Derived.Test.YtcfjimdfegejaaaGreatDoorQ07
import Derived.Test.YtcfjimdfegejaaaGreatDoorQ04
set_option maxHeartbeats 8000000
set_option maxRecDepth 100000
namespace Go.Proofs.YtcfjimdfegejaaaGreatDoor
open Nat renaming lt_of_lt_of_le→UY
open Option renaming some→I0
open Value renaming bool→D5,oneCell'→U1,ownBlock→VZ,slice→FZ
open World renaming block_lt_of_cell?→AZ,news_of_block→V2
open Go.Proofs.Tryz
open Obj renaming cells→o_
open World renaming cell?_of_block→b_
open Nat renaming le_refl→n_
open Go.Proofs.Tryz renaming prog→p_
open Value renaming string→v_,int→i_
open Go.Joins renaming below_alloc1→a_
variable {Xc:Nat->Option Value} {w W:World} {ao:Option Addr} {l:List ma} {x y z:String×DataW Unit} {nm:String} {d:DataW Unit} {rest:List (String×DataW Unit)}
section
open Go.RowKit Go.Joins
theorem zOw (ao:Option Addr) (cap:Nat) (c:ma) (w:World):
  Calls p_ 125 #[.slice ao 0 cap,.agg #[.string c.key,.string c.val,.bool c.gone]] w fun e w'=>∃ v,e=.returned v/\bO w' w.heap.size v [c]/\Below w.heap.size w w':=by
 obtain⟨i0,Qb,Xb,We,ze⟩:=OJ;have hB:=a_ w (FX c.key c.val c.gone);have ya:bO (w.alloc (FX c.key c.val c.gone)) w.heap.size (.slice none 0 0) []:=World.ownsRow_nil _ _ _ _;obtain⟨a0,a1,a2,-⟩:=Nf w (FX c.key c.val c.gone) rfl rfl;go_enter func125,ntmps125;go_wp2;generalize (w.alloc (FX c.key c.val c.gone))=W0 at *;refine wp_loop_rounds 1 ?_;rw[rounds_succ];go_wp2_with (at_builtin;refine oS rfl _ _ 36 rfl w.heap.size 99 i0 _ 3 40 underlying36 Qb Xb We ze rfl (by omega) _ (bN c) rfl (iY _) _ 0 (cG []) ya rfl rfl (by omega) (by omega) hB.size ?_;intro v1 w1 mc Ba;replace hB:=Ba w hB;replace ya:bO w1 w.heap.size v1 [c]:=mG (l:=[]) mc;clear mc Ba)
 go_ret;exact⟨_,rfl,ya,hB⟩
end
section
open Go.RowKit Go.Joins
attribute [local go_sem ↓] Go.wp_at_zero Go.wp_at_succ
theorem zHi:(Tryz.prog.info? 163).map (fun i=>(i.zero,i.size,i.bytes))=some (some (.agg #[.int .i64 0,.slice none 0 0]),2,32):=by kernel_rfl
theorem wE:(Tryz.prog.info? 9).map (fun i=>(i.zero,i.size,i.bytes))=some (some (.string ⟨#[]⟩),1,16):=by kernel_rfl
theorem zF8 (dv:List (aU×Value)) (B hb:Nat) (v:Value) (n:Int) (W:World) (x:Nat) (h:bP W B hb Xc v dv) (hx:∀ j u,[i_ .i64 n,FZ none 0 0][j]?=some u->W.cell? ((⟨x,0,none⟩:Addr).add j)=some u) (hB:B<=W.heap.size) (hn:dv.length<=1000000):
  Calls p_ 164 #[v,.int .i64 dv.length,.slice (some ⟨x,0,none⟩) 1 1] W fun e w1=>
   ∃ g cap,e=.returned (.slice (some ⟨g,0,none⟩) (dv.length+1) cap)/\bP (w1.setCell ⟨hb,2,none⟩ (.slice (some ⟨g,0,none⟩) (dv.length+1) cap)) B hb Xc (.slice (some ⟨g,0,none⟩) (dv.length+1) cap) (dv++[(⟨n,[]⟩,.slice none 0 0)])/\Below B W (w1.setCell ⟨hb,2,none⟩ (.slice (some ⟨g,0,none⟩) (dv.length+1) cap))/\w1.cell? ⟨hb,2,none⟩=some v/\w1.frozen? ⟨hb,2,none⟩=false/\(∀ b,b<W.heap.size->b≠hb->some b≠v.ownBlock->b≠g/\(w1.setCell ⟨hb,2,none⟩ (.slice (some ⟨g,0,none⟩) (dv.length+1) cap)).heap[b]?=W.heap[b]?):=by
 obtain⟨i0,Qb,Xb,Yc,te⟩:=info_parts zHi;have HX:=aa hx;have ya:=h.own;have HH:=aa h;clear hx h;rcases HH.out.form with⟨rfl,rfl⟩|⟨g0,a0h,rfl,_,_,il,Aj,_⟩
 ·go_enter func164,ntmps164;go_wp2_with (at_builtin;refine wpList_append_lies _ rfl _ _ _ rfl B 163 i0 _ 2 32 underlying82 Qb Xb Yc te rfl (by omega) _ _ _ rfl ya ⟨x,0,none⟩ 1 1 [.int .i64 n,.slice none 0 0] rfl rfl HX.out (by simp[U1]) (by omega) (by simp[maxLen]) (by simp) hB W.heap.size rfl ?_;intro g cap w1 ho hg Sc Aa)
  go_ret;obtain⟨r1,r2,r3,r4,r5⟩:=zDx (n:=n) HH.out hB hg ho Sc;exact⟨g,cap,rfl,r1,r2,r3,r4,r5⟩
 ·rcases Nat.eq_or_lt_of_le il with Ao|Ao
  all_goals
   first|subst Ao|skip
   go_enter func164,ntmps164;go_wp2_with (at_builtin;refine wpList_append_lies _ rfl _ _ _ rfl B 163 i0 _ 2 32 underlying82 Qb Xb Yc te rfl (by omega) _ _ _ rfl ya ⟨x,0,none⟩ 1 1 [.int .i64 n,.slice none 0 0] rfl rfl HX.out (by simp[U1]) (by omega) (by unfold maxLen;omega) (by omega) hB W.heap.size rfl ?_;intro g cap w1 ho hg Sc Aa)
   go_ret;obtain⟨r1,r2,r3,r4,r5⟩:=zDx (n:=n) HH.out hB hg ho Sc;exact⟨g,cap,rfl,r1,r2,r3,r4,r5⟩
theorem zCH {w':World} (h:bW w ao l) (hk:∀ b off,ao=some ⟨b,off,none⟩->b<w.heap.size->w'.heap[b]?=w.heap[b]?):bW w' ao l:=by
 rcases h with h|⟨b,off,rfl,h⟩
 ·exact .inl h
 ·by_cases h0:l=[]
  ·exact .inl h0
  ·have hl:0<l.length:=List.length_pos_iff.2 h0;have e:=hk b off rfl (AZ w _ (h 0 hl).1);exact .inr ⟨b,off,rfl,fun i hi=>⟨(b_ (w:=w) e).trans (h i hi).1,(b_ (w:=w) e).trans (h i hi).2.1,(b_ (w:=w) e).trans (h i hi).2.2⟩⟩
def fV (l:List ma):List ByteArray:=l.map (·.key)
theorem zJt {wr X w3:World} {B hb g Oi gk ck k:Nat} {v:Value} {dv:List (aU×Value)} {n:Int} {kv:Value}
  (H1:bP wr B hb Xc (.slice (some ⟨g,0,none⟩) (dv.length+1) Oi) (dv++[(⟨n,fV (l.take k)⟩,kv)])) (H2:Below B w wr)
  (H3:∀ j,j<w.heap.size->j≠hb->some j≠v.ownBlock->wr.heap[j]?=w.heap[j]?/\j≠g/\some j≠kv.ownBlock) (Cb:Below wr.heap.size wr X) (xs:X.heap.size=wr.heap.size+1)
  {key:ByteArray} (Oa:(X.alloc (PX key)).drew.grownBy w3 kv.ownBlock)
  (Ae:w3.ownsRow B 9 1 (.slice (some ⟨gk,0,none⟩) ((fV (l.take k)).length+1) ck) ((fV (l.take k)).length+1) ((fV (l.take k)).map v_++[.string key])) (Gg:kv.ownBlock=some gk∨gk=wr.heap.size+2)
  (Aa:k<l.length) (mi:key=l[k].key:=by rfl):
  Hid (bP (w3.setCell ⟨g,dv.length*2+1,none⟩ (.slice (some ⟨gk,0,none⟩) ((fV (l.take k)).length+1) ck)) B hb Xc (.slice (some ⟨g,0,none⟩) (dv.length+1) Oi) (dv++[(⟨n,fV (l.take (k+1))⟩,.slice (some ⟨gk,0,none⟩) ((fV (l.take k)).length+1) ck)]))/\
  Hid (Below B w (w3.setCell ⟨g,dv.length*2+1,none⟩ (.slice (some ⟨gk,0,none⟩) ((fV (l.take k)).length+1) ck)))/\
  Hid (∀ j,j<w.heap.size->j≠hb->some j≠v.ownBlock->(w3.setCell ⟨g,dv.length*2+1,none⟩ (.slice (some ⟨gk,0,none⟩) ((fV (l.take k)).length+1) ck)).heap[j]?=w.heap[j]?/\j≠g/\some j≠(FZ (some ⟨gk,0,none⟩) ((fV (l.take k)).length+1) ck).ownBlock):=by
 subst mi;have Vk:=H1.on Cb;have FC:=(a_ X (o_ #[.string l[k].key] 9)).drew;have hY:=Vk.on FC;have hsY:=FC.size;have a0y:=Vk.lo;have a0B:=Vk.lt;have LN:kv.ownBlock=some gk∨gk=(X.alloc (o_ #[.string l[k].key] 9)).drew.heap.size:=Gg.imp id fun e=>by
  rw[e];simp;omega
 obtain⟨r1,r2,r3⟩:=zJq hY (by omega) Oa Ae LN;have ek:fV (l.take (k+1))=fV (l.take k)++[l[k].key]:=by
  unfold fV;rw[List.take_succ_eq_append_getElem Aa,List.map_append];rfl
 have DQ:Below wr.heap.size wr (X.alloc (o_ #[.string l[k].key] 9)).drew:=aB Cb (n_ _) FC;refine⟨?_,(H2.trans (DQ.mono (by have:=H1.lo;have:=H1.lt;omega))).trans r2,fun j h1 h2 h3=>?_⟩
 ·unfold Hid;rw[ek];exact r1
 ·obtain⟨a1,a2,a3⟩:=H3 j h1 h2 h3;have hj:j<wr.heap.size:=UY h1 H2.size;obtain⟨b1,b2⟩:=r3 j (UY hj DQ.size) a2 a3;exact⟨b2.trans ((DQ.block j hj).trans a1),a2,by simpa[VZ] using b1⟩
theorem zU (h:bW w ao l) (h0:l≠[]):∀ b off,ao=some ⟨b,off,none⟩->b<w.heap.size:=fun b off e=>by
 rcases h with h|⟨b',QF,e',h⟩
 ·exact absurd h h0
 ·rw[e] at e';cases e';exact AZ _ _ (h 0 (List.length_pos_iff.2 h0)).1
theorem zJF (dv:List (aU×Value)) (B hb:Nat) (v:Value) (n:Int) (ao:Option Addr) (cap:Nat) (l:List ma) (w:World) (h:bP w B hb Xc v dv) (hr:gS (xb dv)) (ZE:∀ d∈xb dv,d.n<n) (hB:B<=w.heap.size) (hn:dv.length<=1000)
  (hl:bW w ao l) (Bt:l.length<=1000) (sg:l≠[]->∀ b off,ao=some ⟨b,off,none⟩->b≠hb/\some b≠v.ownBlock):
  Calls p_ 90 #[.pointer (some ⟨hb,2,none⟩),.int .i64 n,.slice ao l.length cap] w fun e w'=>e=.returned (.tuple #[])/\∃ v' Ai,bP w' B hb Xc v' Ai/\xb Ai=xb dv++[⟨n,fV l⟩]/\Below B w w'/\
   (∀ j,j<w.heap.size->¬jn hb v dv j->w'.heap[j]?=w.heap[j]?/\¬jn hb v' Ai j):=by
 obtain⟨e1,e2⟩:=zLC ZE;have LH:Ad (xb dv) n=dv.length:=by rw[e1];simp[xb]
 have HP:=aa LH;have HK:=aa e2;have HH:=aa h;have HR:=aa hr;have c:=h.cell;clear e1 e2 LH h hr ZE;go_enter func90,ntmps90;go_wp2_with (first
  | (go_at_call 154;refine(tP dv B hb v n _ HH.out HR.out (by omega)).mono ?_;rintro e w1 ⟨rfl,Ba⟩;rw[HP.out,HK.out];replace c:=aA Ba c))
 have hX:∀ j u,[i_ .i64 n,FZ none 0 0][j]?=some u->(w1.alloc (JY n)).cell? ((⟨w1.heap.size,0,none⟩:Addr).add j)=some u:=V2 (cs:=#[.int .i64 n,.slice none 0 0]) (t:=163) (fr:=(0,0)) (heap_alloc_new w1 _);have za:=a_ w1 (JY n);have HW:=aa ((HH.out.on Ba).on za);have yu:=aB Ba (n_ _) za;have Zy:B<=(w1.alloc (JY n)).heap.size:=Nat.le_trans hB yu.size;refine(zF8 dv B hb v n _ _ HW.out hX Zy (by omega)).mono ?_;rintro e w2 ⟨g,Oi,rfl,HN,TH,c2,f2,ic⟩;have DV:=aa HN;have bz:Below B w (w2.setCell ⟨hb,2,none⟩ (.slice (some ⟨g,0,none⟩) (dv.length+1) Oi)):=(yu.mono hB).trans TH;have YT:=aa bz;have HF:Hid (∀ j,j<w.heap.size->j≠hb->some j≠v.ownBlock->(w2.setCell ⟨hb,2,none⟩ (.slice (some ⟨g,0,none⟩) (dv.length+1) Oi)).heap[j]?=w.heap[j]?/\j≠g/\some j≠(FZ none 0 0).ownBlock):=fun j h1 h2 h3=>by
  obtain⟨a1,a2⟩:=ic j (UY h1 yu.size) h2 h3;exact⟨a2.trans (yu.block j h1),a1,by simp[VZ]⟩
 have HL:=aa hl;have HO:=aa sg;clear HN TH bz hX c hl ic sg;go_wp2
 go_loopw [32] (fun i wr=>∃ (k:Nat) (kv:Value),k<=l.length/\i=.int .i64 k/\bP wr B hb Xc (.slice (some ⟨g,0,none⟩) (dv.length+1) Oi) (dv++[(⟨n,fV (l.take k)⟩,kv)])/\Below B w wr/\(∀ j,j<w.heap.size->j≠hb->some j≠v.ownBlock->wr.heap[j]?=w.heap[j]?/\j≠g/\some j≠kv.ownBlock)) (fun i _=>l.length-(intOf i).toNat)
 case atStart=>exact⟨0,.slice none 0 0,Nat.zero_le _,rfl,DV.out,YT.out,HF.out⟩
 case round=>
  obtain⟨k,kv,hk,rfl,hH,mj,TC⟩:=hrel;have H1:=aa hH;have H2:=aa mj;have H3:=aa TC;clear hH mj TC DV YT HF c2 f2;by_cases Aa:k<l.length
  ·have La:l≠[]:=fun e=>by rw[e] at Aa;simp at Aa
   rcases HL.out with h0|⟨b,off,lu,Df⟩
   ·exact absurd h0 La
   have ze:=zU HL.out La b off lu;obtain⟨Pu,nb1,nb2⟩:=H3.out b ze (HO.out La b off lu).1 (HO.out La b off lu).2;have hc:dG wr b off l:=fun i hi=>⟨(b_ (w:=w) Pu).trans (Df i hi).1,(b_ (w:=w) Pu).trans (Df i hi).2.1,(b_ (w:=w) Pu).trans (Df i hi).2.2⟩;subst lu;clear Pu nb1 nb2 Df ze;obtain⟨c0,c1,c2⟩:=hc k Aa;have Za:(k:Int)<(l.length:Int):=by omega
   clear hc;have g0:=H1.out.cell;have g0l:=H1.out.lt;have mem:((⟨n,fV (l.take k)⟩:aU),kv)∈dv++[((⟨n,fV (l.take k)⟩:aU),kv)]:=by simp
   have ya:=H1.out.keys _ mem;have hlen:(fV (l.take k)).length=k:=by simp[fV];omega
   have kl:∀ j,kv.ownBlock=some j->j<wr.heap.size:=fun j hj=>(ya.lt j hj).2;have nh:=H1.out.own;have ll:=(nh.lt g rfl).2;obtain⟨g1,g2⟩:wr.cell? ⟨g,dv.length*2+1,none⟩=some kv/\wr.frozen? ⟨g,dv.length*2+1,none⟩=false:=by
    rcases H1.out.form with⟨e,_⟩|⟨g',Pb,e,_,_,_,_,hx⟩
    ·cases e
    ·simp at e;obtain⟨rfl,rfl⟩:=e;have:=(hx dv.length (by simp)).2;simpa using this
   have ag:some g≠kv.ownBlock:=by
    rcases H1.out.apart _ mem with e|e
    ·rw[e];simp
    ·exact Ne.symm e
   have ah:some hb≠kv.ownBlock:=Ne.symm (H1.out.vf _ mem);have ax:some wr.heap.size≠kv.ownBlock:=fun e=>by have:=kl _ e.symm;omega
   have HO:=aa ya;have Qw:=aa hlen;clear nh ya hlen mem;obtain⟨i0,Qb,Xb,Yc,te⟩:=info_parts wE;have LC:(0:Int)<=(dv.length:Int):=Int.natCast_nonneg _;have Np:(dv.length:Int)<((dv.length:Int)+1):=by omega
   go_wp2;obtain⟨x0,-,-,gz,-,-,xs⟩:=Nf wr (o_ #[.string l[k].key,v_ l[k].val,D5 l[k].gone] 99) rfl rfl;replace ⟨g0,g1⟩:=Em gz g0 g1;replace g2:=aE gz ll g2;have Vk:=aa (H1.out.on gz);have Kc:=aa (bQ HO.out gz);have Cb:=aa gz;clear c0 c1 c2;generalize hX:wr.alloc (o_ #[.string l[k].key,v_ l[k].val,D5 l[k].gone] 99)=X at g0 g1 g2 x0 xs Vk Kc Cb ⊢;clear hX gz;have Od:Hid (∀ j u,[v_ l[k].key][j]?=some u->(X.alloc (o_ #[.string l[k].key] 9)).drew.cell? ((⟨wr.heap.size+1,0,none⟩:Addr).add j)=some u):=by
    rw[<-xs];exact V2 (cs:=#[.string l[k].key]) (t:=9) (fr:=(0,0)) (heap_alloc_new X _)
   have Ci:∀ o,(X.alloc o).frozen? ⟨g,dv.length*2+1,none⟩=false:=fun o=>aE (a_ _ _) (by show g<_;omega) g2
   go_region_law ((refine step_append_lies _ (by rfl) _ _ _ (by rfl) B 9 i0 _ 1 16 underlying97 Qb Xb Yc te rfl (by omega) kv _ _ (by rfl) ((Kc.out.alloc _).drew) ⟨wr.heap.size+1,0,none⟩ 1 1 [.string l[k].key] (by rfl) (by rfl) Od.out (by simp[U1]) (by omega) (by rw[Qw.out];unfold maxLen;omega) (by rw[Qw.out];omega) (by have h1:=H1.out.lo;simp;omega) (wr.heap.size+2) (by simp;omega) ?_;intro gk ck w3 Ae Oa Gg mh;have k0:w3.cell? ⟨hb,2,none⟩=some (.slice (some ⟨g,0,none⟩) (dv.length+1) Oi):=Oa.cell (aA (a_ _ _).drew g0) ah;have k1:w3.cell? ⟨g,dv.length*2+1,none⟩=some kv:=Oa.cell (aA (a_ _ _).drew g1) ag;have k2:w3.frozen? ⟨g,dv.length*2+1,none⟩=false:=(Oa.frozen_far _ (by simp;omega) ag).trans (Ci _)))
   all_goals
    obtain⟨R1,R2,R3⟩:=zJt H1.out H2.out H3.out Cb.out xs Oa Ae Gg Aa;clear k0 k1 k2 Ae Oa Gg mh g0 g1 g2 x0 Ci;go_wp2;go_roundw
    case rel=>exact⟨k+1,_,by omega,by go_num,R1.out,R2.out,R3.out⟩
    case measure=>simp[intOf];omega
  ·have e:l.take k=l:=List.take_of_length_le (by omega);have Za:¬(k:Int)<(l.length:Int):=by omega
   rw[e] at H1;clear e;go_wp2;go_end0;refine⟨rfl,_,_,H1.out,by simp[xb],H2.out,fun j h1 h2=>?_⟩;obtain⟨a1,a2,a3⟩:=H3.out j h1 (fun e=>h2 (.inl e)) (fun e=>h2 (.inr (.inl e.symm)));refine⟨a1,?_⟩;rintro(e|e|⟨p,hp,e⟩)
   ·exact h2 (.inl e)
   ·simp[VZ] at e;exact a2 e.symm
   ·rcases List.mem_append.1 hp with hp|hp
    ·exact h2 (.inr (.inr ⟨p,hp,e⟩))
    ·simp only[List.mem_singleton] at hp;subst hp;exact a3 e.symm
end
section
open Go.Lib
theorem zKf:(Tryz.prog.globals[2]?).map (·.type)=some 42:=by kernel_rfl
theorem zK8:(Tryz.prog.globals[1]?).map (·.type)=some 42:=by kernel_rfl
theorem zGo 
  (h:laidMet p_ (x::y::z::("strconv.ErrRange",.iface nm d)::rest) W):NJ W "strconv.ErrRange":=by
 obtain⟨ps,⟨_,_,_,_,_,_,_,_,_,_,⟨_,_,_,_,_,_,_,_,_,_,⟨_,_,_,_,_,_,_,_,_,_,⟨g',t',cs,zj,p,q,VC,Cs,hvar,hd,_,_⟩,_⟩,_⟩,_⟩,_⟩:=h;obtain rfl:=I0.inj (zAY.symm.trans VC);obtain rfl:=I0.inj (zKf.symm.trans Cs);obtain⟨_,u,v,hc,_,_⟩:=iface_of_trod underlying42 hd;have e:cs=#[.iface u v]:=Array.ext' (by simpa using hc);exact⟨u,v,by rw[hvar,e]⟩
theorem zIU {a:String×DataW Unit} 
  (h:laidMet p_ (x::y::z::a::("strconv.ErrSyntax",.iface nm d)::rest) W):NJ W "strconv.ErrSyntax":=by
 obtain⟨ps,⟨_,_,_,_,_,_,_,_,_,_,⟨_,_,_,_,_,_,_,_,_,_,⟨_,_,_,_,_,_,_,_,_,_,⟨_,_,_,_,_,_,_,_,_,_,⟨g',t',cs,zj,p,q,VC,Cs,hvar,hd,_,_⟩,_⟩,_⟩,_⟩,_⟩,_⟩:=h;obtain rfl:=I0.inj (zBP.symm.trans VC);obtain rfl:=I0.inj (zK8.symm.trans Cs);obtain⟨_,u,v,hc,_,_⟩:=iface_of_trod underlying42 hd;have e:cs=#[.iface u v]:=Array.ext' (by simpa using hc);exact⟨u,v,by rw[hvar,e]⟩
end
end Go.Proofs.YtcfjimdfegejaaaGreatDoor
