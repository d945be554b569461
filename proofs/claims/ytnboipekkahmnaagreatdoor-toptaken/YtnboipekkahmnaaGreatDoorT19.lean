import Derived.Test.YtnboipekkahmnaaGreatDoorT18
import Derived.Shelf.SlIter.Stops
set_option maxHeartbeats 8000000
set_option maxRecDepth 100000
namespace Go.Proofs.YtnboipekkahmnaaGreatDoor
section
open Go.RowKit Go.Joins
attribute [local go_sem ↓] Go.wp_at_zero Go.wp_at_succ
theorem zHi:(Tryz.prog.info? 207).map (fun i=>(i.zero,i.size,i.bytes))=some (some (.agg #[.int .i64 0,.slice none 0 0]),2,32):=by kernel_rfl
theorem wE:(Tryz.prog.info? 9).map (fun i=>(i.zero,i.size,i.bytes))=some (some (.string ⟨#[]⟩),1,16):=by kernel_rfl
theorem zF8 (dv:List (aU×Value)) (B hb:Nat) {Xc:Nat->Option Value} (v:Value) (n:Int) (W:World) (x:Nat) (h:bP W B hb Xc v dv) (hx:∀ j u,[Value.int .i64 n,Value.slice none 0 0][j]?=some u->W.cell? ((⟨x,0,none⟩:Addr).add j)=some u) (hB:B<=W.heap.size) (hn:dv.length<=1000000):
  Calls Tryz.prog 196 #[v,.int .i64 dv.length,.slice (some ⟨x,0,none⟩) 1 1] W fun e w1=>
   ∃ g cap,e=.returned (.slice (some ⟨g,0,none⟩) (dv.length+1) cap)/\bP (w1.setCell ⟨hb,2,none⟩ (.slice (some ⟨g,0,none⟩) (dv.length+1) cap)) B hb Xc (.slice (some ⟨g,0,none⟩) (dv.length+1) cap) (dv++[(⟨n,[]⟩,.slice none 0 0)])/\Below B W (w1.setCell ⟨hb,2,none⟩ (.slice (some ⟨g,0,none⟩) (dv.length+1) cap))/\w1.cell? ⟨hb,2,none⟩=some v/\w1.frozen? ⟨hb,2,none⟩=false/\(∀ b,b<W.heap.size->b≠hb->some b≠v.ownBlock->b≠g/\(w1.setCell ⟨hb,2,none⟩ (.slice (some ⟨g,0,none⟩) (dv.length+1) cap)).heap[b]?=W.heap[b]?):=by
 obtain⟨i0,hi0,hz0,hz1,hz2⟩:=info_parts zHi;have HX:=hide hx;have hown:=h.own;have HH:=hide h;clear hx h;rcases HH.out.form with⟨rfl,rfl⟩|⟨g0,cap0,rfl,_,_,hc1,hc2,_⟩
 ·go_enter Tryz.func196,Tryz.ntmps196;go_wp2_with (at_builtin;refine wpList_append_lies _ rfl _ _ _ rfl B 207 i0 _ 2 32 Tryz.underlying119 hi0 hz0 hz1 hz2 rfl (by omega) _ _ _ rfl hown ⟨x,0,none⟩ 1 1 [.int .i64 n,.slice none 0 0] rfl rfl HX.out (by simp[Value.oneCell']) (by omega) (by simp[maxLen]) (by simp) hB W.heap.size rfl ?_;intro g cap w1 ho hg hat hlt)
  go_ret;obtain⟨r1,r2,r3,r4,r5⟩:=zDx (n:=n) HH.out hB hg ho hat;exact⟨g,cap,rfl,r1,r2,r3,r4,r5⟩
 ·rcases Nat.eq_or_lt_of_le hc1 with hcc|hcc
  all_goals
   first|subst hcc|skip
   go_enter Tryz.func196,Tryz.ntmps196;go_wp2_with (at_builtin;refine wpList_append_lies _ rfl _ _ _ rfl B 207 i0 _ 2 32 Tryz.underlying119 hi0 hz0 hz1 hz2 rfl (by omega) _ _ _ rfl hown ⟨x,0,none⟩ 1 1 [.int .i64 n,.slice none 0 0] rfl rfl HX.out (by simp[Value.oneCell']) (by omega) (by unfold maxLen;omega) (by omega) hB W.heap.size rfl ?_;intro g cap w1 ho hg hat hlt)
   go_ret;obtain⟨r1,r2,r3,r4,r5⟩:=zDx (n:=n) HH.out hB hg ho hat;exact⟨g,cap,rfl,r1,r2,r3,r4,r5⟩
theorem zCH {w w':World} {ao:Option Addr} {l:List Chg} (h:bW w ao l) (hk:∀ b off,ao=some ⟨b,off,none⟩->b<w.heap.size->w'.heap[b]?=w.heap[b]?):bW w' ao l:=by
 rcases h with h|⟨b,off,rfl,h⟩
 ·exact .inl h
 ·by_cases h0:l=[]
  ·exact .inl h0
  ·have hl:0<l.length:=List.length_pos_iff.2 h0;have e:=hk b off rfl (World.block_lt_of_cell? w _ (h 0 hl).1);exact .inr ⟨b,off,rfl,fun i hi=>⟨(World.cell?_of_block (w:=w) e).trans (h i hi).1,(World.cell?_of_block (w:=w) e).trans (h i hi).2.1,(World.cell?_of_block (w:=w) e).trans (h i hi).2.2⟩⟩
def fV (l:List Chg):List ByteArray:=l.map (·.key)
theorem zJt {w wr X w3:World} {B hb g gcap gk ck k:Nat} {Xc:Nat->Option Value} {v:Value} {dv:List (aU×Value)} {n:Int} {l:List Chg} {kv:Value}
  (H1:bP wr B hb Xc (.slice (some ⟨g,0,none⟩) (dv.length+1) gcap) (dv++[(⟨n,fV (l.take k)⟩,kv)])) (H2:Below B w wr)
  (H3:∀ j,j<w.heap.size->j≠hb->some j≠v.ownBlock->wr.heap[j]?=w.heap[j]?/\j≠g/\some j≠kv.ownBlock) (HB2:Below wr.heap.size wr X) (xs:X.heap.size=wr.heap.size+1)
  {key:ByteArray} (hgrow:(X.alloc (Obj.cells #[.string key] 9)).drew.grownBy w3 kv.ownBlock)
  (ho3:w3.ownsRow B 9 1 (.slice (some ⟨gk,0,none⟩) ((fV (l.take k)).length+1) ck) ((fV (l.take k)).length+1) ((fV (l.take k)).map Value.string++[.string key])) (hat3:kv.ownBlock=some gk∨gk=wr.heap.size+2)
  (hlt:k<l.length) (hkey:key=l[k].key:=by rfl):
  Hid (bP (w3.setCell ⟨g,dv.length*2+1,none⟩ (.slice (some ⟨gk,0,none⟩) ((fV (l.take k)).length+1) ck)) B hb Xc (.slice (some ⟨g,0,none⟩) (dv.length+1) gcap) (dv++[(⟨n,fV (l.take (k+1))⟩,.slice (some ⟨gk,0,none⟩) ((fV (l.take k)).length+1) ck)]))/\
  Hid (Below B w (w3.setCell ⟨g,dv.length*2+1,none⟩ (.slice (some ⟨gk,0,none⟩) ((fV (l.take k)).length+1) ck)))/\
  Hid (∀ j,j<w.heap.size->j≠hb->some j≠v.ownBlock->(w3.setCell ⟨g,dv.length*2+1,none⟩ (.slice (some ⟨gk,0,none⟩) ((fV (l.take k)).length+1) ck)).heap[j]?=w.heap[j]?/\j≠g/\some j≠(Value.slice (some ⟨gk,0,none⟩) ((fV (l.take k)).length+1) ck).ownBlock):=by
 subst hkey;have HH2:=H1.on HB2;have hbY:=(below_alloc1 X (Obj.cells #[.string l[k].key] 9)).drew;have hY:=HH2.on hbY;have hsY:=hbY.size;have hloY:=HH2.lo;have hltY:=HH2.lt;have hat4:kv.ownBlock=some gk∨gk=(X.alloc (Obj.cells #[.string l[k].key] 9)).drew.heap.size:=hat3.imp id fun e=>by
  rw[e];simp;omega
 obtain⟨r1,r2,r3⟩:=zJq hY (by omega) hgrow ho3 hat4;have ek:fV (l.take (k+1))=fV (l.take k)++[l[k].key]:=by
  unfold fV;rw[List.take_succ_eq_append_getElem hlt,List.map_append];rfl
 have hwY:Below wr.heap.size wr (X.alloc (Obj.cells #[.string l[k].key] 9)).drew:=aB HB2 (Nat.le_refl _) hbY;refine⟨?_,(H2.trans (hwY.mono (by have:=H1.lo;have:=H1.lt;omega))).trans r2,fun j h1 h2 h3=>?_⟩
 ·unfold Hid;rw[ek];exact r1
 ·obtain⟨a1,a2,a3⟩:=H3 j h1 h2 h3;have hj:j<wr.heap.size:=Nat.lt_of_lt_of_le h1 H2.size;obtain⟨b1,b2⟩:=r3 j (Nat.lt_of_lt_of_le hj hwY.size) a2 a3;exact⟨b2.trans ((hwY.block j hj).trans a1),a2,by simpa[Value.ownBlock] using b1⟩
theorem zU {w:World} {ao:Option Addr} {l:List Chg} (h:bW w ao l) (h0:l≠[]):∀ b off,ao=some ⟨b,off,none⟩->b<w.heap.size:=fun b off e=>by
 rcases h with h|⟨b',off',e',h⟩
 ·exact absurd h h0
 ·rw[e] at e';cases e';exact World.block_lt_of_cell? _ _ (h 0 (List.length_pos_iff.2 h0)).1
theorem zJF (dv:List (aU×Value)) (B hb:Nat) {Xc:Nat->Option Value} (v:Value) (n:Int) (ao:Option Addr) (cap:Nat) (l:List Chg) (w:World) (h:bP w B hb Xc v dv) (hr:gS (ofDV dv)) (htop:∀ d∈ofDV dv,d.n<n) (hB:B<=w.heap.size) (hn:dv.length<=1000)
  (hl:bW w ao l) (hll:l.length<=1000) (hoff:l≠[]->∀ b off,ao=some ⟨b,off,none⟩->b≠hb/\some b≠v.ownBlock):
  Calls Tryz.prog 133 #[.pointer (some ⟨hb,2,none⟩),.int .i64 n,.slice ao l.length cap] w fun e w'=>e=.returned (.tuple #[])/\∃ v' dv',bP w' B hb Xc v' dv'/\ofDV dv'=ofDV dv++[⟨n,fV l⟩]/\Below B w w'/\
   (∀ j,j<w.heap.size->¬inH hb v dv j->w'.heap[j]?=w.heap[j]?/\¬inH hb v' dv' j):=by
 obtain⟨e1,e2⟩:=zLC htop;have e1':posD (ofDV dv) n=dv.length:=by rw[e1];simp[ofDV]
 have HP:=hide e1';have HK:=hide e2;have HH:=hide h;have HR:=hide hr;have c:=h.cell;clear e1 e2 e1' h hr htop;go_enter Tryz.func133,Tryz.ntmps133;go_wp2_with (first
  | (go_at_call 187;refine(tP dv B hb v n _ HH.out HR.out (by omega)).mono ?_;rintro e w1 ⟨rfl,hb1⟩;rw[HP.out,HK.out];replace c:=aA hb1 c))
 have hX:∀ j u,[Value.int .i64 n,Value.slice none 0 0][j]?=some u->(w1.alloc (Obj.cells #[.int .i64 n,.slice none 0 0] 207)).cell? ((⟨w1.heap.size,0,none⟩:Addr).add j)=some u:=World.news_of_block (cs:=#[.int .i64 n,.slice none 0 0]) (t:=207) (fr:=(0,0)) (heap_alloc_new w1 _);have hb2:=below_alloc1 w1 (Obj.cells #[.int .i64 n,.slice none 0 0] 207);have HW:=hide ((HH.out.on hb1).on hb2);have hb12:=aB hb1 (Nat.le_refl _) hb2;have hBW:B<=(w1.alloc (Obj.cells #[.int .i64 n,.slice none 0 0] 207)).heap.size:=Nat.le_trans hB hb12.size;refine(zF8 dv B hb v n _ _ HW.out hX hBW (by omega)).mono ?_;rintro e w2 ⟨g,gcap,rfl,HN,hbn,c2,f2,hfar⟩;have HN':=hide HN;have hBn:Below B w (w2.setCell ⟨hb,2,none⟩ (.slice (some ⟨g,0,none⟩) (dv.length+1) gcap)):=(hb12.mono hB).trans hbn;have HBn:=hide hBn;have HF:Hid (∀ j,j<w.heap.size->j≠hb->some j≠v.ownBlock->(w2.setCell ⟨hb,2,none⟩ (.slice (some ⟨g,0,none⟩) (dv.length+1) gcap)).heap[j]?=w.heap[j]?/\j≠g/\some j≠(Value.slice none 0 0).ownBlock):=fun j h1 h2 h3=>by
  obtain⟨a1,a2⟩:=hfar j (Nat.lt_of_lt_of_le h1 hb12.size) h2 h3;exact⟨a2.trans (hb12.block j h1),a1,by simp[Value.ownBlock]⟩
 have HL:=hide hl;have HO:=hide hoff;clear HN hbn hBn hX c hl hfar hoff;go_wp2
 go_loopw [32] (fun i wr=>∃ (k:Nat) (kv:Value),k<=l.length/\i=.int .i64 k/\bP wr B hb Xc (.slice (some ⟨g,0,none⟩) (dv.length+1) gcap) (dv++[(⟨n,fV (l.take k)⟩,kv)])/\Below B w wr/\(∀ j,j<w.heap.size->j≠hb->some j≠v.ownBlock->wr.heap[j]?=w.heap[j]?/\j≠g/\some j≠kv.ownBlock)) (fun i _=>l.length-(intOf i).toNat)
 case atStart=>exact⟨0,.slice none 0 0,Nat.zero_le _,rfl,HN'.out,HBn.out,HF.out⟩
 case round=>
  obtain⟨k,kv,hk,rfl,hH,hBr,hfr0⟩:=hrel;have H1:=hide hH;have H2:=hide hBr;have H3:=hide hfr0;clear hH hBr hfr0 HN' HBn HF c2 f2;by_cases hlt:k<l.length
  ·have hne:l≠[]:=fun e=>by rw[e] at hlt;simp at hlt
   rcases HL.out with h0|⟨b,off,eao,hc0⟩
   ·exact absurd h0 hne
   have hb0:=zU HL.out hne b off eao;obtain⟨nb0,nb1,nb2⟩:=H3.out b hb0 (HO.out hne b off eao).1 (HO.out hne b off eao).2;have hc:dG wr b off l:=fun i hi=>⟨(World.cell?_of_block (w:=w) nb0).trans (hc0 i hi).1,(World.cell?_of_block (w:=w) nb0).trans (hc0 i hi).2.1,(World.cell?_of_block (w:=w) nb0).trans (hc0 i hi).2.2⟩;subst eao;clear nb0 nb1 nb2 hc0 hb0;obtain⟨c0,c1,c2⟩:=hc k hlt;have hlt':(k:Int)<(l.length:Int):=by omega
   clear hc;have g0:=H1.out.cell;have g0l:=H1.out.lt;have mem:((⟨n,fV (l.take k)⟩:aU),kv)∈dv++[((⟨n,fV (l.take k)⟩:aU),kv)]:=by simp
   have hown:=H1.out.keys _ mem;have hlen:(fV (l.take k)).length=k:=by simp[fV];omega
   have kl:∀ j,kv.ownBlock=some j->j<wr.heap.size:=fun j hj=>(hown.lt j hj).2;have hrow:=H1.out.own;have hgl:=(hrow.lt g rfl).2;obtain⟨g1,g2⟩:wr.cell? ⟨g,dv.length*2+1,none⟩=some kv/\wr.frozen? ⟨g,dv.length*2+1,none⟩=false:=by
    rcases H1.out.form with⟨e,_⟩|⟨g',cap',e,_,_,_,_,hx⟩
    ·cases e
    ·simp at e;obtain⟨rfl,rfl⟩:=e;have:=(hx dv.length (by simp)).2;simpa using this
   have ag:some g≠kv.ownBlock:=by
    rcases H1.out.apart _ mem with e|e
    ·rw[e];simp
    ·exact Ne.symm e
   have ah:some hb≠kv.ownBlock:=Ne.symm (H1.out.offk _ mem);have ax:some wr.heap.size≠kv.ownBlock:=fun e=>by have:=kl _ e.symm;omega
   have HO:=hide hown;have HL2:=hide hlen;clear hrow hown hlen mem;obtain⟨i0,hi0,hz0,hz1,hz2⟩:=info_parts wE;have hd0:(0:Int)<=(dv.length:Int):=Int.natCast_nonneg _;have hd1:(dv.length:Int)<((dv.length:Int)+1):=by omega
   go_wp2;have hbX:=below_alloc1 wr (Obj.cells #[.string l[k].key,Value.string l[k].val,Value.bool l[k].gone] 133);have x0:(wr.alloc (Obj.cells #[.string l[k].key,Value.string l[k].val,Value.bool l[k].gone] 133)).cell? ⟨wr.heap.size,0,none⟩=some (.string l[k].key):=aC _ _ _ 0;have xs:(wr.alloc (Obj.cells #[.string l[k].key,Value.string l[k].val,Value.bool l[k].gone] 133)).heap.size=wr.heap.size+1:=by simp
   replace g0:=aA hbX g0;replace g1:=aA hbX g1;replace g2:=aE hbX hgl g2;have HH2:=hide (H1.out.on hbX);have HO2:=hide (bQ HO.out hbX);have HB2:=hide hbX;clear c0 c1 c2;generalize hX:wr.alloc (Obj.cells #[.string l[k].key,Value.string l[k].val,Value.bool l[k].gone] 133)=X at g0 g1 g2 x0 xs HH2 HO2 HB2 ⊢;clear hX hbX;have HNW:Hid (∀ j u,[Value.string l[k].key][j]?=some u->(X.alloc (Obj.cells #[.string l[k].key] 9)).drew.cell? ((⟨wr.heap.size+1,0,none⟩:Addr).add j)=some u):=by
    rw[<-xs];exact World.news_of_block (cs:=#[.string l[k].key]) (t:=9) (fr:=(0,0)) (heap_alloc_new X _)
   have hfr:∀ o,(X.alloc o).frozen? ⟨g,dv.length*2+1,none⟩=false:=fun o=>aE (below_alloc1 _ _) (by show g<_;omega) g2
   go_region_law ((refine step_append_lies _ (by rfl) _ _ _ (by rfl) B 9 i0 _ 1 16 Tryz.underlying71 hi0 hz0 hz1 hz2 rfl (by omega) kv _ _ (by rfl) ((HO2.out.alloc _).drew) ⟨wr.heap.size+1,0,none⟩ 1 1 [.string l[k].key] (by rfl) (by rfl) HNW.out (by simp[Value.oneCell']) (by omega) (by rw[HL2.out];unfold maxLen;omega) (by rw[HL2.out];omega) (by have h1:=H1.out.lo;simp;omega) (wr.heap.size+2) (by simp;omega) ?_;intro gk ck w3 ho3 hgrow hat3 hlt3;have k0:w3.cell? ⟨hb,2,none⟩=some (.slice (some ⟨g,0,none⟩) (dv.length+1) gcap):=hgrow.cell (aA (below_alloc1 _ _).drew g0) ah;have k1:w3.cell? ⟨g,dv.length*2+1,none⟩=some kv:=hgrow.cell (aA (below_alloc1 _ _).drew g1) ag;have k2:w3.frozen? ⟨g,dv.length*2+1,none⟩=false:=(hgrow.frozen_far _ (by simp;omega) ag).trans (hfr _)))
   all_goals
    obtain⟨R1,R2,R3⟩:=zJt H1.out H2.out H3.out HB2.out xs hgrow ho3 hat3 hlt;clear k0 k1 k2 ho3 hgrow hat3 hlt3 g0 g1 g2 x0 hfr;go_wp2;go_roundw
    case rel=>exact⟨k+1,_,by omega,by go_num,R1.out,R2.out,R3.out⟩
    case measure=>simp[intOf];omega
  ·have e:l.take k=l:=List.take_of_length_le (by omega);have hlt':¬(k:Int)<(l.length:Int):=by omega
   rw[e] at H1;clear e;go_wp2;go_end0;refine⟨rfl,_,_,H1.out,by simp[ofDV],H2.out,fun j h1 h2=>?_⟩;obtain⟨a1,a2,a3⟩:=H3.out j h1 (fun e=>h2 (.inl e)) (fun e=>h2 (.inr (.inl e.symm)));refine⟨a1,?_⟩;rintro(e|e|⟨p,hp,e⟩)
   ·exact h2 (.inl e)
   ·simp[Value.ownBlock] at e;exact a2 e.symm
   ·rcases List.mem_append.1 hp with hp|hp
    ·exact h2 (.inr (.inr ⟨p,hp,e⟩))
    ·simp only[List.mem_singleton] at hp;subst hp;exact a3 e.symm
theorem zGv (ao:Option Addr) (cap:Nat) (w:World):
  Calls Tryz.prog 195 #[.slice ao 0 cap] w fun e w'=>e=.returned (errV 0)/\Below w.heap.size w w':=by
 go_enter Tryz.func195,Tryz.ntmps195;go_wp2;refine wp_loop_rounds 1 ?_;rw[rounds_succ];go_wp2;go_ret;exact⟨rfl,Below.refl _ _⟩
theorem zDZ (l:List Chg) (ao:Option Addr) (cap:Nat) (w:World) (hl:bW w ao l) (hn:l.length<=1000) (hk:∀ c∈l,c.key.size<=1000000):
  Calls Tryz.prog 195 #[.slice ao l.length cap] w fun e w'=>e=.returned (errV (iT l))/\Below w.heap.size w w':=by
 rcases hl with rfl|⟨b,off,rfl,h⟩
 ·exact zGv _ _ _
 ·exact zEW l b off cap w h hn hk
theorem zLj:(Tryz.prog.info? 233).map (fun i=>(i.zero,i.size,i.bytes))=some (some (.agg #[.int .i64 0,.string ⟨#[]⟩,.bool false]),3,32):=by kernel_rfl
theorem VS.tick {W:World} {B vb mb n:Nat} {now now':Int} {D:DataW Value} {g:ByteArray->Value} {R:ByteArray->List Ver} (h:VS W B vb mb now n D g R):VS (W.setCell ⟨vb,0,none⟩ (.int .i64 now')) B vb mb now' n D g R where
 num:=World.cell?_setCell_same _ _ _ h.num
 soft:=by simpa using h.soft
 mp:=(World.cell?_setCell_other _ _ _ _ (by simp)).trans h.mp
 own:=tZ h.own (Below.heap_setCell _ _ _ _ (Ne.symm h.ne))
 look:=h.look
 has:=h.has
 rows:=fun key=>aI (h.rows key) fun k e=>Below.heap_setCell _ _ _ _ (fun e'=>h.offv key (by rw[e,e']))
 lov:=h.lov
 lom:=h.lom
 ne:=h.ne
 offv:=h.offv
 offm:=h.offm
 apart:=h.apart
theorem zEq {w wr Y w3 w4:World} {B vb mb n gk ck:Nat} {now:Int} {D:DataW Value} {g g0:ByteArray->Value} {R:ByteArray->List Ver} {x:Chg} {gv:Value} (h:VS Y B vb mb (now+1) n D g R) (hbY:Below wr.heap.size wr Y) (xs:Y.heap.size=wr.heap.size+1) (hk:x.key.size<=maxLen) (hB:B<=Y.heap.size) (hBr:B<=wr.heap.size) (hgv:g x.key=gv)
  (hg:(Y.alloc (Obj.cells #[.int .i64 (now+1),.string x.val,.bool x.gone] 233)).drew.grownBy w3 gv.ownBlock)
  (ho:w3.ownsRow B 233 3 (.slice (some ⟨gk,0,none⟩) ((R x.key).length+1) ck) ((R x.key).length+1) ((R x.key).flatMap nO++[.int .i64 (now+1),.string x.val,.bool x.gone])) (hat:gv.ownBlock=some gk∨gk=wr.heap.size+2)
  (hm:w4.ownsMap Tryz.prog 9 RV mb (n+1) (D.put (kL x.key) (.held (.slice (some ⟨gk,0,none⟩) ((R x.key).length+1) ck)))) (hg4:w3.grownBy w4 (some mb))
  (H2:Below B w wr) (H3:∀ j,j<w.heap.size->¬inVS vb mb g0 j->wr.heap[j]?=w.heap[j]?/\¬inVS vb mb g j):
  Hid (VS w4 B vb mb (now+1) (n+1) (D.put (kL x.key) (.held (.slice (some ⟨gk,0,none⟩) ((R x.key).length+1) ck))) (putG g x.key (.slice (some ⟨gk,0,none⟩) ((R x.key).length+1) ck)) (putG R x.key (R x.key++[⟨now+1,x.val,x.gone⟩])))/\Hid (Below B w w4)/\
  Hid (∀ j,j<w.heap.size->¬inVS vb mb g0 j->w4.heap[j]?=w.heap[j]?/\¬inVS vb mb (putG g x.key (.slice (some ⟨gk,0,none⟩) ((R x.key).length+1) ck)) j):=by
 subst hgv;have hbZ:=(below_alloc1 Y (Obj.cells #[.int .i64 (now+1),.string x.val,.bool x.gone] 233)).drew;have hs:=hbZ.size;have hZ:(Y.alloc (Obj.cells #[.int .i64 (now+1),.string x.val,.bool x.gone] 233)).drew.heap.size=wr.heap.size+2:=by
  show(Y.alloc _).heap.size=_;rw[World.size_alloc,xs]
 have ho':ownV w3 B (.slice (some ⟨gk,0,none⟩) ((R x.key).length+1) ck) (R x.key++[⟨now+1,x.val,x.gone⟩]):=by
  unfold ownV;rw[List.length_append,List.flatMap_append];exact ho
 obtain⟨r1,r2,r3⟩:=(h.on hbZ).put (x:=⟨now+1,x.val,x.gone⟩) hk (Nat.le_trans hB hs) hg ho' (hat.imp id fun e=>by rw[e,hZ]) hm hg4;have hwZ:=aB hbY (Nat.le_refl _) hbZ;refine⟨r1,(H2.trans (hwZ.mono hBr)).trans r2,fun j h1 h2=>?_⟩;obtain⟨a1,a2⟩:=H3 j h1 h2;have hj:j<wr.heap.size:=Nat.lt_of_lt_of_le h1 H2.size;obtain⟨b1,b2⟩:=r3 j (Nat.lt_of_lt_of_le hj hwZ.size) a2;exact⟨b1.trans ((hwZ.block j hj).trans a1),b2⟩
theorem zEa (l:List Chg) (ao:Option Addr) (cap:Nat) {B vb mb n:Nat} {now:Int} {D:DataW Value} {g:ByteArray->Value} {R:ByteArray->List Ver} (w:World) (h:VS w B vb mb now n D g R) (hB:B<=w.heap.size)
  (hl:bW w ao l) (hn:l.length<=1000) (hk:∀ c∈l,c.key.size<=1000000) (hoff:l≠[]->∀ b off,ao=some ⟨b,off,none⟩->¬inVS vb mb g b) (h0:0<=now) (h1:now<=1000000) (hn2:n<=1000000) (hR:∀ key,(R key).length<=1000000) (hf:iT l=0):
  Calls Tryz.prog 132 #[.pointer (some ⟨vb,0,none⟩),.slice ao l.length cap] w fun e w'=>e=.returned (.tuple #[.int .i64 (now+1),.nilIface])/\∃ D' g',VS w' B vb mb (now+1) (n+l.length) D' g' (cW R (now+1) l)/\Below B w w'/\
   (∀ j,j<w.heap.size->¬inVS vb mb g j->w'.heap[j]?=w.heap[j]?/\¬inVS vb mb g' j):=by
 have HV:=hide h;have HL:=hide hl;have HF:=hide hf;have HO:=hide hoff;have HK:=hide hk;have HRR:=hide hR;have c0:=h.num;have f0:=h.soft;clear h hl hf hoff hk hR;go_enter Tryz.func132,Tryz.ntmps132;go_wp2_with (go_at_call 195;refine(zDZ l ao cap _ HL.out hn HK.out).mono ?_;rintro e w1 ⟨rfl,hb1⟩;rw[HF.out];simp only[errV];replace c0:=aA hb1 c0;replace f0:=aE hb1 (HV.out.lt (.inl rfl)) f0)
 have HV1:=hide (VS.tick (now':=now+1) (HV.out.on hb1));have hvl:=HV.out.lt (k:=vb) (.inl rfl);have HF1:Hid (∀ j,j<w.heap.size->¬inVS vb mb g j->(w1.setCell ⟨vb,0,none⟩ (.int .i64 (now+1))).heap[j]?=w.heap[j]?/\¬inVS vb mb g j):=fun j h1 h2=>⟨(Below.heap_setCell _ _ _ _ (fun e=>h2 (.inl e))).trans (hb1.block j h1),h2⟩;have HB1:Hid (Below B w (w1.setCell ⟨vb,0,none⟩ (.int .i64 (now+1)))):=(hb1.mono hB).setCell HV.out.lov _;clear c0 f0
 go_loopw [23] (fun i wr=>∃ (k:Nat) (D':DataW Value) (g':ByteArray->Value),k<=l.length/\i=.int .i64 k/\VS wr B vb mb (now+1) (n+k) D' g' (cW R (now+1) (l.take k))/\Below B w wr/\(∀ j,j<w.heap.size->¬inVS vb mb g j->wr.heap[j]?=w.heap[j]?/\¬inVS vb mb g' j)) (fun i _=>l.length-(intOf i).toNat)
 case atStart=>exact⟨0,D,g,Nat.zero_le _,rfl,HV1.out,HB1.out,HF1.out⟩
 case round=>
  obtain⟨k,D',g',hkl,rfl,hV,hBr,hfar⟩:=hrel;have H1:=hide hV;have H2:=hide hBr;have H3:=hide hfar;clear hV hBr hfar HV1 HF1 HB1 hb1;by_cases hlt:k<l.length
  ·have hne:l≠[]:=fun e=>by rw[e] at hlt;simp at hlt
   rcases HL.out with e|⟨b,off,eao,hc0⟩
   ·exact absurd e hne
   have hb0:b<w.heap.size:=World.block_lt_of_cell? _ _ (hc0 k hlt).1;obtain⟨nb0,_⟩:=H3.out b hb0 (HO.out hne b off eao);subst eao;have c0:=(World.cell?_of_block (w:=w) nb0).trans (hc0 k hlt).1;have c1:=(World.cell?_of_block (w:=w) nb0).trans (hc0 k hlt).2.1;have c2:=(World.cell?_of_block (w:=w) nb0).trans (hc0 k hlt).2.2;have hlt':(k:Int)<(l.length:Int):=by omega
   have hks:=HK.out _ (List.getElem_mem hlt);have hkm:l[k].key.size<=maxLen:=by unfold maxLen;omega
   have eT:l.take (k+1)=l.take k++[l[k]]:=List.take_succ_eq_append_getElem hlt;have hRl:(cW R (now+1) (l.take k) l[k].key).length<=1002000:=by
    have a1:=sF (now+1) l[k].key (l.take k) R;have a2:=HRR.out l[k].key;have a3:=List.length_take_le k l;omega
   generalize hR1:cW R (now+1) (l.take k)=R1 at H1 hRl;have HT:Hid (cW R (now+1) (l.take (k+1))=putG R1 l[k].key (R1 l[k].key++[⟨now+1,l[k].val,l[k].gone⟩])):=by
    unfold Hid;rw[eT,zEl,hR1]
   clear hc0 nb0 eT hR1;generalize l[k]=x at *;clear hks;have hbA:=below_alloc1 wr (Obj.cells #[.string x.key,.string x.val,.bool x.gone] 133);have x0:(wr.alloc (Obj.cells #[.string x.key,.string x.val,.bool x.gone] 133)).cell? ⟨wr.heap.size,0,none⟩=some (.string x.key):=aC _ _ _ 0;have x1:(wr.alloc (Obj.cells #[.string x.key,.string x.val,.bool x.gone] 133)).cell? ⟨wr.heap.size,1,none⟩=some (.string x.val):=aC _ _ _ 1;have x2:(wr.alloc (Obj.cells #[.string x.key,.string x.val,.bool x.gone] 133)).cell? ⟨wr.heap.size,2,none⟩=some (.bool x.gone):=aC _ _ _ 2;have xs:(wr.alloc (Obj.cells #[.string x.key,.string x.val,.bool x.gone] 133)).heap.size=wr.heap.size+1:=by simp
   have HVY:=hide (H1.out.on hbA);have HBY:=hide hbA;have hnv:¬inVS vb mb g' wr.heap.size:=fun e=>by have:=H1.out.lt e;omega
   go_wp2;generalize hY:wr.alloc (Obj.cells #[.string x.key,.string x.val,.bool x.gone] 133)=Y at x0 x1 x2 xs HVY HBY ⊢;clear hY hbA c0 c1 c2;have v0:=HVY.out.num;have v1:=HVY.out.mp;have hvY:=HVY.out.lt (k:=vb) (.inl rfl);have hmY:=HVY.out.lt (k:=mb) (.inr (.inl rfl));have hl1:=(HVY.out.on (Below.refl _ Y).drew).looked hkm;have hbZ:=(below_alloc1 Y (Obj.cells #[.int .i64 (now+1),.string x.val,.bool x.gone] 233)).drew;have HVZ:=hide (HVY.out.on hbZ);have hl2:=HVZ.out.looked hkm;have hrow:=HVZ.out.rows x.key;have hov:=HVZ.out.offv x.key;have hom:=HVZ.out.offm x.key;have hoX:(g' x.key).ownBlock≠some wr.heap.size:=fun e=>hnv (.inr (.inr ⟨x.key,e⟩));generalize hgv:g' x.key=gv at hl1 hl2 hrow hov hom hoX;have HGV:=hide hgv;have HRW:=hide hrow;have HNW:Hid (∀ j u,[Value.int .i64 (now+1),Value.string x.val,Value.bool x.gone][j]?=some u->(Y.alloc (Obj.cells #[.int .i64 (now+1),.string x.val,.bool x.gone] 233)).drew.cell? ((⟨wr.heap.size+1,0,none⟩:Addr).add j)=some u):=by
    rw[<-xs];exact World.news_of_block (cs:=#[.int .i64 (now+1),.string x.val,.bool x.gone]) (t:=233) (fr:=(0,0)) (heap_alloc_new Y _)
   have hBY:B<=Y.heap.size:=by have a:=HVY.out.lov;omega
   have hBr:B<=wr.heap.size:=by have a:=H1.out.lov;have b:=H1.out.lt (k:=vb) (.inl rfl);omega
   obtain⟨i0,hi0,hz0,hz1,hz2⟩:=info_parts zLj;have nvm:(some vb:Option Nat)≠some mb:=fun e=>HVY.out.ne (by cases e;rfl);have nxm:(some wr.heap.size:Option Nat)≠some mb:=fun e=>hnv (.inr (.inl (by cases e;rfl)));clear hgv hrow
   go_region_held3 (fun w'=>w'.cell? ⟨vb,0,none⟩=some (.int .i64 (now+1))/\w'.cell? ⟨vb,1,none⟩=some (.map (some mb))/\w'.cell? ⟨wr.heap.size,0,none⟩=some (.string x.key)/\w'.cell? ⟨wr.heap.size,1,none⟩=some (.string x.val)/\w'.cell? ⟨wr.heap.size,2,none⟩=some (.bool x.gone))
    (first|go_keep|exact⟨j0,j1,j2,j3,j4⟩|exact⟨q0,q1,q2,q3,q4⟩)
    ((refine step_append_lies _ (by rfl) _ _ _ (by rfl) B 233 i0 _ 3 32 Tryz.underlying218 hi0 hz0 hz1 hz2 rfl (by omega) gv _ _ (by rfl) HRW.out ⟨wr.heap.size+1,0,none⟩ 1 1 [.int .i64 (now+1),.string x.val,.bool x.gone] (by rfl) (by rfl) HNW.out (by simp[Value.oneCell']) (by omega) (by unfold maxLen;omega) (by omega) (by simp;omega) (wr.heap.size+2) (by simp;omega) ?_;intro gk ck w3 ho3 hgrow hat3 hlt3;obtain⟨w4,hrun4,hm4,hg4⟩:=(tZ HVZ.out.own (hgrow.block mb (by simp;omega) (Ne.symm hom))).update eX Tryz.underlying217 (by unfold maxLen;omega) (uH hkm) (show RV (.slice (some ⟨gk,0,none⟩) ((R1 x.key).length+1) ck)=_ from rfl);have j0:=hgrow.cell (aA hbZ v0) (Ne.symm hov);have j1:=hgrow.cell (aA hbZ v1) (Ne.symm hov);have j2:=hgrow.cell (aA hbZ x0) (Ne.symm hoX);have j3:=hgrow.cell (aA hbZ x1) (Ne.symm hoX);have j4:=hgrow.cell (aA hbZ x2) (Ne.symm hoX);have q0:=hg4.cell j0 nvm;have q1:=hg4.cell j1 nvm;have q2:=hg4.cell j2 nxm;have q3:=hg4.cell j3 nxm;have q4:=hg4.cell j4 nxm))
   all_goals
    obtain⟨R1',R2',R3'⟩:=zEq HVY.out HBY.out xs hkm hBY hBr HGV.out hgrow ho3 hat3 hm4 hg4 H2.out H3.out;clear j0 j1 j2 j3 j4 q0 q1 q2 q3 q4 hrun4 hm4 hg4 ho3 hgrow hat3 hlt3 hl1 hl2 v0 v1 x0 x1 x2;go_wp2;go_roundw
    case rel=>exact⟨k+1,_,_,by omega,by go_num,by rw[HT.out];exact R1'.out,R2'.out,R3'.out⟩
    case measure=>simp[intOf];omega
  ·have ek:k=l.length:=by omega
   subst ek;have hlt':¬(l.length:Int)<(l.length:Int):=by omega
   rw[List.take_length] at H1;have v0:=H1.out.num;go_wp2;go_ret2;exact⟨rfl,_,_,H1.out,H2.out,H3.out⟩
def zI (s:ESt) (l:List Chg):ESt:=if (comR s.x l).1=0 then addE s l else { s with x:=(comR s.x l).2 }
section
variable {B:Nat} {m:EMem} {s:ESt}
theorem vY {w w':World} {ao:Option Addr} {l:List Chg} (h:bW w ao l) (hk:l≠[]->∀ b off,ao=some ⟨b,off,none⟩->w'.heap[b]?=w.heap[b]?):bW w' ao l:=by
 by_cases h0:l=[]
 ·exact .inl h0
 ·exact zCH h fun b off e _=>hk h0 b off e
theorem zLc (l:List Chg) (ao:Option Addr) (cap:Nat) (w:World) (h:EK w B m s) (ok:EOk s) (hc:s.c<=190) (hl:bW w ao l) (hoff:l≠[]->∀ b off,ao=some ⟨b,off,none⟩->¬allF m s.ses b) (hcf:∀ c∈l,aD c=0) (hcr:rises l) (hn:l.length<=12):
  Calls Tryz.prog 67 #[.pointer (some ⟨m.eb,0,none⟩),.slice ao l.length cap] w fun e w'=>e=.returned (.tuple #[.int .i64 (if (comR s.x l).1=0 then ((s.now+1:Nat):Int) else 0),errV (comR s.x l).1])/\ActE w w' B m s (zI s l):=by
 have c0:=h.cell0;have c1:=h.cell1;have hkey:∀ c∈l,c.key.size<=60:=fun c hc=>lD (hcf c hc);have hval:∀ c∈l,c.val.size<=40:=fun c hc=>(oO (hcf c hc)).2;have hnc:=ok.nc;have hap:apart m.Ts ao l:=by
  by_cases h0:l=[]
  ·exact .inl h0
  ·rcases hl with e|⟨b,off,e,_⟩
   ·exact absurd e h0
   ·refine .inr fun a ea=>?_;rw[e] at ea;cases ea;exact fun hT=>hoff h0 b off e ⟨1,hT⟩
 have hblt:l≠[]->∀ b off,ao=some ⟨b,off,none⟩->b<w.heap.size:=fun h0=>zU hl h0;have HS:=hide (zEV l ao cap w h.sa ok.g hl hap (by omega) fun c hc=>⟨by have:=hkey c hc;omega,by have:=hval c hc;omega⟩);have HK:=hide h;clear h;unfold zI;by_cases h0:(comR s.x l).1=0
 ·rw[h0,if_pos rfl,aR];rw[h0,aR] at HS;have HD:=hide (zEX hcf hcr);have HV:Hid (∀ w1,ActS w w1 B m.sb m.db m.Ts (comR s.x l).2->w1.cell? ⟨m.eb,1,none⟩=some (.pointer (some ⟨m.vb,0,none⟩))/\Calls Tryz.prog 132 #[.pointer (some ⟨m.vb,0,none⟩),.slice ao l.length cap] w1 fun e w2=>e=.returned (.tuple #[.int .i64 ((s.now:Int)+1),.nilIface])/\Calls Tryz.prog 133 #[.pointer (some ⟨m.eb,2,none⟩),.int .i64 ((s.now:Int)+1),.slice ao l.length cap] w2 fun e w3=>e=.returned (.tuple #[])/\ActE w w3 B m s (addE s l)):=fun w1 ha=>by
   obtain⟨T',k1,k2,k3⟩:=HK.out.store ha;have hoff1:l≠[]->∀ b off,ao=some ⟨b,off,none⟩->¬allF { m with Ts:=T' } s.ses b:=fun h0 b off e=>(k2.far b (hblt h0 b off e) (hoff h0 b off e)).2;have hl1:bW w1 ao l:=vY hl fun h0 b off e=>(k2.far b (hblt h0 b off e) (hoff h0 b off e)).1;refine⟨k1.cell1,(zEa l ao cap w1 k1.vs k1.blo hl1 (by omega) (fun c hc=>by have:=hkey c hc;omega) (fun h0 b off e hin=>hoff1 h0 b off e ⟨2,hin⟩) (by show(0:Int)<=(s.now:Int);omega) (by show(s.now:Int)<=1000000;omega) (by have:=HK.out.mn;show m.many<=1000000;omega) (fun key=>by have:=ok.rl key;show(s.R key).length<=1000000;omega) HD.out).mono ?_⟩;rintro e w2 ⟨rfl,D',g',hv2,hb2,hf2⟩;refine⟨rfl,?_⟩;have hv2':VS w2 B m.vb m.mb ((s.now+1:Nat):Int) (m.many+l.length) D' g' (cW s.R ((s.now:Int)+1) l):=hv2;obtain⟨p1,p2,p3⟩:=k1.vers (c':=s.c+1) hv2' hb2 hf2 (by have:=HK.out.mn;show m.many+l.length<=2000*(s.c+1+1);omega);have hs12:=k2.bel.size;have hoff2:l≠[]->∀ b off,ao=some ⟨b,off,none⟩->¬allF { m with Ts:=T',many:=m.many+l.length,D:=D',g:=g' } s.ses b:=fun h0 b off e=>(p2.far b (Nat.lt_of_lt_of_le (hblt h0 b off e) hs12) (hoff1 h0 b off e)).2;have hl2:bW w2 ao l:=vY hl1 fun h0 b off e=>(p2.far b (Nat.lt_of_lt_of_le (hblt h0 b off e) hs12) (hoff1 h0 b off e)).1;have hds:ofDV m.dv=s.ds:=HK.out.ds;have hlen:m.dv.length<=1000:=by
    have e1:=congrArg List.length hds;have e2:=ok.dl;unfold ofDV at e1;rw[List.length_map] at e1;omega
   refine(zJF m.dv B m.eb m.hv ((s.now:Int)+1) ao cap l w2 p1.hi (by rw[hds];exact ok.rd) (by rw[hds];intro d hd;have:=ok.dn d hd;omega) p1.blo hlen hl2 (by omega) fun h0 b off e=>⟨fun e2=>hoff2 h0 b off e ⟨0,.inl e2⟩,fun e2=>hoff2 h0 b off e ⟨0,.inr (.inl e2.symm)⟩⟩).mono ?_;rintro e w3 ⟨rfl,v',dv',hH,hdv,hb3,hf3⟩;obtain⟨r1,r2,_⟩:=p1.hist hH hb3 hf3 (ds':=s.ds++[⟨(s.now:Int)+1,l.map (·.key)⟩]) (by rw[hdv,hds];rfl);exact⟨rfl,_,r1,rfl,⟨rfl,fun _ _=>rfl⟩,(k2.trans p2).trans r2⟩
  have hw:wrap64 ((s.now:Int)+1)=((s.now+1:Nat):Int):=by unfold wrap64;omega
  have e1:((s.now:Int)+1)=((s.now+1:Nat):Int):=by omega
  rw[e1] at HV;clear HK hl hoff hap hblt hcf hcr HD hkey hval;generalize (s.now+1:Nat)=nn at *;generalize comR s.x l=R at *;generalize m.eb=eb at *;generalize m.vb=vb at *;go_enter Tryz.func67,Tryz.ntmps67;go_wp2_with fail;refine HS.out.mono ?_;rintro e w1 ⟨rfl,ha⟩;obtain⟨c1',hvc⟩:=HV.out w1 ha;have HVC:=hide hvc;clear HV HS ha hvc c0 c1;go_wp2_with fail;refine HVC.out.mono ?_;rintro e w2 ⟨rfl,hnote⟩;have HNC:=hide hnote;clear hnote HVC c1';go_wp2_with fail;refine HNC.out.mono ?_;rintro e w3 ⟨rfl,ha⟩;have HR:=hide ha;clear ha HNC;go_wp2;go_ret2;exact⟨rfl,HR.out⟩
 ·rw[if_neg h0,if_neg h0,aP h0];rw[aP h0] at HS;have HR:Hid (∀ w1,ActS w w1 B m.sb m.db m.Ts (comR s.x l).2->ActE w w1 B m s { s with x:=(comR s.x l).2 }):=fun w1 ha=>by
   obtain⟨T',k1,k2,k3⟩:=HK.out.store ha;exact⟨_,k1,rfl,⟨rfl,fun _ _=>rfl⟩,k2⟩
  clear HK hl hoff hap hblt hcf hcr hkey hval;generalize comR s.x l=R at *;go_enter Tryz.func67,Tryz.ntmps67;go_wp2_with fail;refine HS.out.mono ?_;rintro e w1 ⟨rfl,ha⟩;have HQ:=hide (HR.out w1 ha);clear HR HS ha c0 c1;go_wp2;go_ret2;exact⟨rfl,HQ.out⟩
end
end
section
open Go.RowKit Go.Joins
theorem wF (f t key:ByteArray) (kb:Nat) (w:World) (hk:w.cell? ⟨kb,0,none⟩=some (.string key)):
  Calls Tryz.prog 190 #[.agg #[.string f,.string t],.pointer (some ⟨kb,0,none⟩)] w fun e w'=>e=.returned (.bool (hasS f t key))/\Below w.heap.size w w':=by
 have hB:=below_alloc1 w (Obj.cells #[.string f,.string t] 80);have ck:=aA hB hk;go_enter Tryz.func190,Tryz.ntmps190;go_wp2_with (go_at_call 162;refine(pH _ _ _ _).mono ?_;rintro e w1 ⟨rfl,hb⟩;replace hB:=aB hB (Nat.le_refl _) hb)
 go_ret;exact⟨rfl,hB⟩
theorem zB1 (l:List (ByteArray×ByteArray)) (b off cap kb:Nat) (key:ByteArray) (w:World) (hl:iO w b off l) (hk:w.cell? ⟨kb,0,none⟩=some (.string key)) (hn:l.length<=maxLen):
  Calls Tryz.prog 246 #[.slice (some ⟨b,off,none⟩) l.length cap,.func (Fn.func 190) #[] #[.pointer (some ⟨kb,0,none⟩)]] w
   fun e w'=>(∃ i:Int,e=.returned (.int .i64 i)/\decide (0<=i)=l.any fun s=>hasS s.1 s.2 key)/\Below w.heap.size w w':=by
 unfold maxLen at hn;go_enter Tryz.func246,Tryz.ntmps246;go_wp2
 go_loopw [8] (fun i wr=>∃ k:Nat,k<=l.length/\i=.int .i64 k/\(l.take k).any (fun s=>hasS s.1 s.2 key)=false/\Below w.heap.size w wr) (fun i _=>l.length-(intOf i).toNat)
 case atStart=>exact⟨0,Nat.zero_le _,rfl,by simp,Below.refl _ _⟩
 case round=>
  obtain⟨k,hk1,rfl,hno,hB⟩:=hrel;have HA:=hide hno;clear hno;by_cases hlt:k<l.length
  ·obtain⟨c0,c1⟩:=gW hB hl k hlt;have ck:=aA hB hk
   cases hh:hasS l[k].1 l[k].2 key with
   | true=>
    go_wp2_with (go_at_call 190;refine(wF _ _ key _ _ ck).mono ?_;rintro e w1 ⟨rfl,hb⟩;replace hB:=aB hB (Nat.le_refl _) hb;clear hb)
    go_ret;exact⟨⟨k,rfl,by rw[zLU hlt hh];simp⟩,hB⟩
   | false=>
    go_wp2_with (go_at_call 190;refine(wF _ _ key _ _ ck).mono ?_;rintro e w1 ⟨rfl,hb⟩;replace hB:=aB hB (Nat.le_refl _) hb;clear hb)
    go_roundw
    case rel=>exact⟨k+1,by omega,by go_num,zKD hlt HA.out hh,hB⟩
    case measure=>simp[intOf];omega
  ·go_wp2;go_ret;refine⟨⟨-1,rfl,?_⟩,hB⟩;have e:l.take k=l:=List.take_of_length_le (by omega);have:=HA.out;rw[e] at this;rw[this];rfl
theorem zB6 (ao:Option Addr) (cap kb:Nat) (w:World):
  Calls Tryz.prog 246 #[.slice ao 0 cap,.func (Fn.func 190) #[] #[.pointer (some ⟨kb,0,none⟩)]] w
   fun e w'=>e=.returned (.int .i64 (-1))/\w'=w:=by
 go_enter Tryz.func246,Tryz.ntmps246;go_wp2;refine wp_loop_rounds 1 ?_;rw[rounds_succ];go_wp2;go_ret;exact⟨rfl,rfl⟩
theorem xM (l:List (ByteArray×ByteArray)) (b off cap kb:Nat) (key:ByteArray) (w:World) (hl:iO w b off l) (hk:w.cell? ⟨kb,0,none⟩=some (.string key)) (hn:l.length<=maxLen):
  Calls Tryz.prog 189 #[.slice (some ⟨b,off,none⟩) l.length cap,.func (Fn.func 190) #[] #[.pointer (some ⟨kb,0,none⟩)]] w
   fun e w'=>e=.returned (.bool (l.any fun s=>hasS s.1 s.2 key))/\Below w.heap.size w w':=by
 go_enter Tryz.func189,Tryz.ntmps189;go_wp2_with (go_at_call 246;refine(zB1 l _ _ _ _ key _ hl hk hn).mono ?_;rintro e w1 ⟨⟨i,rfl,hi⟩,hb⟩)
 go_ret;exact⟨rfl,hb⟩
theorem wU (ao:Option Addr) (cap kb:Nat) (w:World):
  Calls Tryz.prog 189 #[.slice ao 0 cap,.func (Fn.func 190) #[] #[.pointer (some ⟨kb,0,none⟩)]] w
   fun e w'=>e=.returned (.bool false)/\w'=w:=by
 go_enter Tryz.func189,Tryz.ntmps189;go_wp2_with (go_at_call 246;refine(zB6 _ _ _ _).mono ?_;rintro e w1 ⟨rfl,rfl⟩)
 go_ret;exact⟨rfl,rfl⟩
theorem zMA (l:List (ByteArray×ByteArray)) (b off cap:Nat) (key:ByteArray) (w:World) (hl:iO w b off l) (hn:l.length<=maxLen):
  Calls Tryz.prog 129 #[.slice (some ⟨b,off,none⟩) l.length cap,.string key] w fun e w'=>e=.returned (.bool (l.any fun s=>hasS s.1 s.2 key))/\Below w.heap.size w w':=by
 have hB:=below_alloc1 w (Obj.cells #[.string key] 9);have hk:(w.alloc (Obj.cells #[.string key] 9)).cell? ⟨w.heap.size,0,none⟩=some (.string key):=by simp
 have hl':=gW hB hl;go_enter Tryz.func129,Tryz.ntmps129;go_wp2_with (go_at_call 189;refine(xM l _ _ _ _ key _ hl' hk hn).mono ?_;rintro e w1 ⟨rfl,hb⟩;replace hB:=aB hB (Nat.le_refl _) hb;clear hb)
 go_ret;exact⟨rfl,hB⟩
theorem zMM (ao:Option Addr) (cap:Nat) (key:ByteArray) (w:World):
  Calls Tryz.prog 129 #[.slice ao 0 cap,.string key] w fun e w'=>e=.returned (.bool false)/\Below w.heap.size w w':=by
 go_enter Tryz.func129,Tryz.ntmps129;go_wp2_with (go_at_call 189;refine(wU _ _ _ _).mono ?_;rintro e w1 ⟨rfl,rfl⟩)
 go_ret;exact⟨rfl,below_alloc1 _ _⟩
theorem zKe (l:List (ByteArray×ByteArray)) (ao:Option Addr) (cap:Nat) (key:ByteArray) (w:World) (hl:bY w ao l) (hn:l.length<=maxLen):
  Calls Tryz.prog 129 #[.slice ao l.length cap,.string key] w fun e w'=>e=.returned (.bool (l.any fun s=>hasS s.1 s.2 key))/\Below w.heap.size w w':=by
 rcases hl with rfl|⟨b,off,rfl,h⟩
 ·exact zMM _ _ _ _
 ·exact zMA l b off cap key w h hn
theorem wO (l:List (ByteArray×ByteArray)) (ao:Option Addr) (cap rb:Nat) (key:ByteArray) (w:World) (hc:w.cell? ⟨rb,0,none⟩=some (.slice ao l.length cap)) (hl:bY w ao l) (hn:l.length<=maxLen):
  Calls Tryz.prog 128 #[.string key,.pointer (some ⟨rb,0,none⟩)] w fun e w'=>e=.returned (.bool (l.any fun s=>hasS s.1 s.2 key))/\Below w.heap.size w w':=by
 go_enter Tryz.func128,Tryz.ntmps128;go_wp2_with (go_at_call 129;refine(zKe l _ _ _ _ hl hn).mono ?_;rintro e w1 ⟨rfl,hb⟩)
 go_ret;exact⟨rfl,hb⟩
def zAI (w:World) (g:Nat) (ks:List ByteArray):Prop:=∀ i (hi:i<ks.length),w.cell? ⟨g,i,none⟩=some (.string ks[i])
theorem zG7 {w w':World} {g:Nat} {ks:List ByteArray} (hb:Below w.heap.size w w') (h:zAI w g ks):zAI w' g ks:=fun i hi=>aA hb (h i hi)
theorem zJn {ks:List ByteArray} {f:ByteArray->Bool} {k:Nat} (hk:k<ks.length) (h:(ks.take k).any f=false) (h2:f ks[k]=false):(ks.take (k+1)).any f=false:=by
 rw[List.take_succ_eq_append_getElem hk,List.any_append,h];simp[h2]
theorem zKz {ks:List ByteArray} {f:ByteArray->Bool} {k:Nat} (hk:k<ks.length) (h:f ks[k]=true):ks.any f=true:=by
 rw[List.any_eq_true];exact⟨ks[k],List.getElem_mem hk,h⟩
theorem zAr (ks:List ByteArray) (g kc:Nat) (l:List (ByteArray×ByteArray)) (ao:Option Addr) (cap rb:Nat) (w:World) (hk:zAI w g ks) (hkn:ks.length<=1000000) (hc:w.cell? ⟨rb,0,none⟩=some (.slice ao l.length cap)) (hl:bY w ao l) (hn:l.length<=maxLen):
  Calls Tryz.prog 188 #[.slice (some ⟨g,0,none⟩) ks.length kc,.func (Fn.func 128) #[] #[.pointer (some ⟨rb,0,none⟩)]] w
   fun e w'=>(∃ i:Int,e=.returned (.int .i64 i)/\decide (0<=i)=ks.any fun k=>l.any fun s=>hasS s.1 s.2 k)/\Below w.heap.size w w':=by
 go_enter Tryz.func188,Tryz.ntmps188;go_wp2
 go_loopw [8] (fun i wr=>∃ k:Nat,k<=ks.length/\i=.int .i64 k/\(ks.take k).any (fun k=>l.any fun s=>hasS s.1 s.2 k)=false/\Below w.heap.size w wr) (fun i _=>ks.length-(intOf i).toNat)
 case atStart=>exact⟨0,Nat.zero_le _,rfl,by simp,Below.refl _ _⟩
 case round=>
  obtain⟨k,hk1,rfl,hno,hB⟩:=hrel;have HA:=hide hno;clear hno;by_cases hlt:k<ks.length
  ·have c0:=zG7 hB hk k hlt;have cr:=aA hB hc;have HL:=hide (lX hB hl)
   cases hh:l.any fun s=>hasS s.1 s.2 ks[k] with
   | true=>
    have HH:=hide hh;clear hh;go_wp2_with (go_at_call 128;refine(wO l ao cap rb _ _ cr HL.out hn).mono ?_;rintro e w1 ⟨rfl,hb⟩;rw[HH.out];replace hB:=aB hB (Nat.le_refl _) hb;clear hb)
    go_ret;exact⟨⟨k,rfl,by rw[zKz hlt HH.out];simp⟩,hB⟩
   | false=>
    have HH:=hide hh;clear hh;go_wp2_with (go_at_call 128;refine(wO l ao cap rb _ _ cr HL.out hn).mono ?_;rintro e w1 ⟨rfl,hb⟩;rw[HH.out];replace hB:=aB hB (Nat.le_refl _) hb;clear hb)
    go_roundw
    case rel=>exact⟨k+1,by omega,by go_num,zJn hlt HA.out HH.out,hB⟩
    case measure=>simp[intOf];omega
  ·go_wp2;go_ret;refine⟨⟨-1,rfl,?_⟩,hB⟩;have e:ks.take k=ks:=List.take_of_length_le (by omega);have:=HA.out;rw[e] at this;rw[this];rfl
theorem zCg (ao:Option Addr) (kc:Nat) (f:Value) (w:World):
  Calls Tryz.prog 188 #[.slice ao 0 kc,f] w fun e w'=>e=.returned (.int .i64 (-1))/\w'=w:=by
 go_enter Tryz.func188,Tryz.ntmps188;go_wp2;refine wp_loop_rounds 1 ?_;rw[rounds_succ];go_wp2;go_ret;exact⟨rfl,rfl⟩
theorem pR (B:Nat) (v:Value) (ks:List ByteArray) (l:List (ByteArray×ByteArray)) (ao:Option Addr) (cap rb:Nat) (w:World) (hk:w.ownsRow B 9 1 v ks.length (ks.map Value.string)) (hkn:ks.length<=1000000) (hc:w.cell? ⟨rb,0,none⟩=some (.slice ao l.length cap)) (hl:bY w ao l) (hn:l.length<=maxLen):
  Calls Tryz.prog 127 #[v,.func (Fn.func 128) #[] #[.pointer (some ⟨rb,0,none⟩)]] w
   fun e w'=>e=.returned (.bool (ks.any fun k=>l.any fun s=>hasS s.1 s.2 k))/\Below w.heap.size w w':=by
 rcases zHo hk with⟨rfl,rfl⟩|⟨g,kc,rfl,_,_,hk⟩
 ·go_enter Tryz.func127,Tryz.ntmps127;go_wp2_with (go_at_call 188;refine(zCg _ _ _ _).mono ?_;rintro e w1 ⟨rfl,rfl⟩)
  go_ret;exact⟨rfl,Below.refl _ _⟩
 ·go_enter Tryz.func127,Tryz.ntmps127;go_wp2_with (go_at_call 188;refine(zAr ks g kc l ao cap rb _ hk hkn hc hl hn).mono ?_;rintro e w1 ⟨⟨i,rfl,hi⟩,hb⟩)
  go_ret;exact⟨rfl,hb⟩
def zCs (reads:List (ByteArray×ByteArray)) (p:aU×Value):Bool:=zLM reads p.1
theorem zKd (dv:List (aU×Value)) (reads:List (ByteArray×ByteArray)) (n:Int):lC (ofDV dv) reads n=(dv.drop (cR (ofDV dv) n)).all fun p=>!zCs reads p:=by
 unfold lC zCs ofDV;rw[<-List.map_drop,List.all_map];rfl
theorem zIe {l:List (aU×Value)} {f:aU×Value->Bool} {k:Nat} (hk:k<l.length) (h:(l.take k).all f=true) (h2:f l[k]=true):(l.take (k+1)).all f=true:=by
 rw[List.take_succ_eq_append_getElem hk,List.all_append,h];simp[h2]
theorem zJ0 {l:List (aU×Value)} {f:aU×Value->Bool} {k:Nat} (hk:k<l.length) (h:f l[k]=false):l.all f=false:=by
 rw[List.all_eq_false];exact⟨l[k],List.getElem_mem hk,by simp[h]⟩
theorem zIq (dv:List (aU×Value)) (B hb:Nat) {Xc:Nat->Option Value} (v:Value) (n:Int) (l:List (ByteArray×ByteArray)) (ao:Option Addr) (cap:Nat) (w:World) (h:bP w B hb Xc v dv) (hr:gS (ofDV dv)) (hn:dv.length<=1000) (hks:∀ p∈dv,p.1.keys.length<=1000000)
  (hl:bY w ao l) (hln:l.length<=maxLen):
  Calls Tryz.prog 65 #[.pointer (some ⟨hb,2,none⟩),.slice ao l.length cap,.int .i64 n] w fun e w'=>e=.returned (.bool (lC (ofDV dv) l n))/\Below w.heap.size w w':=by
 have HC:=hide (zKd dv l n);have hK:cR (ofDV dv) n<=dv.length:=by have:=zBi (ofDV dv) n;simpa[ofDV] using this
 obtain⟨K,hKe⟩:∃ K,cR (ofDV dv) n=K:=⟨_,rfl⟩;rw[hKe] at HC hK;have HK:=hide hKe;clear hKe;have hb1:=below_alloc1 w (Obj.cells #[.slice ao l.length cap] 37);have HH:=hide (h.on hb1);have HL:=hide (lX hb1 hl);have HR:=hide hr;have cr:(w.alloc (Obj.cells #[.slice ao l.length cap] 37)).cell? ⟨w.heap.size,0,none⟩=some (.slice ao l.length cap):=aC _ _ _ 0;have ch:=HH.out.cell;have HB:=hide hb1;clear h hl hr hb1;rcases HH.out.form with⟨rfl,rfl⟩|⟨g,gcap,rfl,_,_,hc1,hc2,_⟩
 ·have hK0:K=0:=by simpa using hK
  subst hK0;go_enter Tryz.func65,Tryz.ntmps65;go_wp2;generalize hX:w.alloc (Obj.cells #[.slice ao l.length cap] 37)=X at HH HL HB cr ch ⊢;have nS:=OnW.some X;have n0:∀ m:OnW X,m.w.cell? ⟨hb,2,none⟩=some (.slice none 0 0):=fun m=>m.cell ch;refine dE (by kernel_rfl) (by kernel_rfl) ?_
  repeat (go_big_quiet_step ((first
   | (go_at_call 126;rename_i m;exact fF (sD (lY [] B hb _ n _ (HH.out.on m.on) HR.out (by simp)) (show _=Value.int .i64 0 by rw[HK.out];rfl))))))
  refine wpQuiet_nil ?_;intro w3 hw3;replace hw3:=jG hw3;go_wp2;refine wp_loop_rounds 1 ?_;rw[rounds_succ];go_wp2;go_ret;exact⟨bB (by rw[HC.out];rfl),aB HB.out (Nat.le_refl _) hw3⟩
 ·have hcK:K<=gcap:=by omega
  have k0:(0:Int)<=(K:Int):=Int.natCast_nonneg _;have k1:(K:Int)<=(gcap:Int):=by omega
  rcases Nat.eq_or_lt_of_le hcK with hcc|hcc
  ·subst hcc;have hKl:dv.length=K:=by omega
   go_enter Tryz.func65,Tryz.ntmps65;go_wp2;generalize hX:w.alloc (Obj.cells #[.slice ao l.length cap] 37)=X at HH HL HB cr ch ⊢;have nS:=OnW.some X;have n0:∀ m:OnW X,m.w.cell? ⟨hb,2,none⟩=some (.slice (some ⟨g,0,none⟩) dv.length K):=fun m=>m.cell ch;refine dE (by kernel_rfl) (by kernel_rfl) ?_
   repeat (go_big_quiet_step ((first
    | (go_at_call 126;rename_i m;exact fF (sD (lY dv B hb _ n _ (HH.out.on m.on) HR.out (by omega)) (show _=Value.int .i64 K by rw[HK.out]))))))
   refine wpQuiet_nil ?_;intro w3 hw3;replace hw3:=jG hw3;go_wp2;refine wp_loop_rounds 1 ?_;rw[rounds_succ];go_wp2;go_ret;exact⟨bB (by rw[HC.out,List.drop_eq_nil_of_le (by omega)];rfl),aB HB.out (Nat.le_refl _) hw3⟩
  ·go_enter Tryz.func65,Tryz.ntmps65;go_wp2;generalize hX:w.alloc (Obj.cells #[.slice ao l.length cap] 37)=X at HH HL HB cr ch ⊢;have nS:=OnW.some X;have n0:∀ m:OnW X,m.w.cell? ⟨hb,2,none⟩=some (.slice (some ⟨g,0,none⟩) dv.length gcap):=fun m=>m.cell ch;refine dE (by kernel_rfl) (by kernel_rfl) ?_
   repeat (go_big_quiet_step ((first
    | (go_at_call 126;rename_i m;exact fF (sD (lY dv B hb _ n _ (HH.out.on m.on) HR.out (by omega)) (show _=Value.int .i64 K by rw[HK.out]))))))
   refine wpQuiet_nil ?_;intro w3 hw3;replace hw3:=jG hw3;clear n0 nS hX;go_wp2
   go_loopw [18] (fun i wr=>∃ k:Nat,k<=dv.length-K/\i=.int .i64 k/\((dv.drop K).take k).all (fun p=>!zCs l p)=true/\Below X.heap.size X wr) (fun i _=>dv.length-K-(intOf i).toNat)
   case atStart=>exact⟨0,Nat.zero_le _,rfl,by simp,hw3⟩
   case round=>
    obtain⟨k,hk,rfl,hall,hB⟩:=hrel;have HA:=hide hall;clear hall hw3;by_cases hlt:k<dv.length-K
    ·have hlt':(k:Int)<((dv.length-K:Nat):Int):=by omega
     have hld:k<(dv.drop K).length:=by rw[List.length_drop];exact hlt
     have hHr:=HH.out.on hB;obtain⟨c0,c1⟩:=hHr.deeds rfl (K+k) (by omega);have e2:(K+k)*2=K*2+k*2:=by omega
     rw[e2] at c0 c1;have hmem:dv[K+k]∈dv:=List.getElem_mem _;have hkeys:=hHr.keys _ hmem;have hkl:=hks _ hmem;obtain⟨xa,xl,xc,hval⟩:∃ xa xl xc,dv[K+k].2=.slice xa xl xc:=by
      rcases aX hkeys with⟨e,_⟩|⟨g',cap',e,_⟩
      ·exact⟨_,_,_,e⟩
      ·exact⟨_,_,_,e⟩
     rw[hval] at c1 hkeys;clear hval;have HE:Hid ((dv.drop K)[k]=dv[K+k]):=by unfold Hid;rw[List.getElem_drop]
     have crr:=aA hB cr;have HLr:=hide (lX hB HL.out);have hbA:=below_alloc1 wr (Obj.cells #[.int .i64 dv[K+k].1.n,Value.slice xa xl xc] 207);have HOr:=hide (bQ hkeys hbA);have crA:=aA hbA crr;have HLA:=hide (lX hbA HLr.out);have hBA:=aB hB (Nat.le_refl _) hbA;clear hHr hkeys hmem e2 hbA crr
     cases hh:zCs l dv[K+k] with
     | true=>
      have HH2:Hid ((dv[K+k].1.keys.any fun k=>l.any fun s=>hasS s.1 s.2 k)=true):=hh;clear hh;go_wp2_with (go_at_call 127;refine(pR B _ _ l ao cap _ _ HOr.out hkl crA HLA.out hln).mono ?_;rintro e w4 ⟨rfl,hb4⟩;rw[HH2.out];replace hBA:=aB hBA (Nat.le_refl _) hb4;clear hb4)
      go_ret;refine⟨bB ?_,aB HB.out (Nat.le_refl _) hBA⟩;rw[HC.out];exact(zJ0 hld (by rw[HE.out];show(!zCs l dv[K+k])=false;rw[show zCs l dv[K+k]=true from HH2.out];rfl)).symm
     | false=>
      have HH2:Hid ((dv[K+k].1.keys.any fun k=>l.any fun s=>hasS s.1 s.2 k)=false):=hh;clear hh;go_wp2_with (go_at_call 127;refine(pR B _ _ l ao cap _ _ HOr.out hkl crA HLA.out hln).mono ?_;rintro e w4 ⟨rfl,hb4⟩;rw[HH2.out];replace hBA:=aB hBA (Nat.le_refl _) hb4;clear hb4)
      go_roundw
      case rel=>exact⟨k+1,by omega,by go_num,zIe hld HA.out (by rw[HE.out];show(!zCs l dv[K+k])=true;rw[show zCs l dv[K+k]=false from HH2.out];rfl),hBA⟩
      case measure=>simp[intOf];omega
    ·have hlt':¬(k:Int)<((dv.length-K:Nat):Int):=by omega
     go_wp2;go_ret;refine⟨bB ?_,aB HB.out (Nat.le_refl _) hB⟩;have e:(dv.drop K).take k=dv.drop K:=List.take_of_length_le (by rw[List.length_drop];omega);have:=HA.out;rw[e] at this;rw[HC.out,this]
end
section
open Go.RowKit Go.Joins
attribute [local go_sem ↓] Go.wp_at_zero Go.wp_at_succ
theorem pI {w:World} {N:Nat} {v:Value} {l:List Chg} (h:bO w N v l):∃ ao cap,v=.slice ao l.length cap/\bW w ao l/\∀ b off,ao=some ⟨b,off,none⟩->N<=b:=by
 rcases aX h with⟨e,e2⟩|⟨g,cap,e,_⟩
 ·exact⟨none,0,by rw[e,e2],.inl (List.length_eq_zero_iff.1 e2),fun b off e=>by cases e⟩
 ·refine⟨some ⟨g,0,none⟩,cap,e,.inr ⟨g,0,rfl,eW l 0 fun j u hj=>?_⟩,fun b off e'=>?_⟩
  ·have:=World.ownsRow.cells h (g:=g) (by rw[e];rfl) j u hj;rwa [Go.WideShapes.add_plain] at this
  ·cases e';exact(World.ownsRow.lt h g (by rw[e];rfl)).1
section
variable {B:Nat} {m:EMem} {s:ESt}
theorem zC5 (w:World) (h:EK w B m s) (ok:EOk s) {i:Nat} (hi:i<4) (hc:s.c<=150) {v:VwL} (hv:s.ses i=some v):
  Calls Tryz.prog 20 #[.pointer (some ⟨m.eb,0,none⟩),.int .i64 (i:Int)] w fun e w'=>e=.returned (.tuple #[.int .i64 ((comE s i).1.1:Int),errV (comE s i).1.2])/\ActE w w' B m s (comE s i).2:=by
 have nn:=eG;have n1:=bM 114;have hvo:=ok.ses i v hv;have hvw:=h.vw i v hv;have hcn:=hvo.ov.cn;have hrn:=hvo.ov.rn;have HD:=hide (mT w h hi hv);have HCH:=hide (rF w hvw (by omega));have eC:comE s i=if v.chs=[] then ((v.n,0),endE s i) else if lC s.ds v.rds v.n=false then ((0,9),endE s i) else if (comR s.x v.chs).1≠0 then ((0,(comR s.x v.chs).1),{ s with x:=(comR s.x v.chs).2 }) else ((s.now+1,0),endE (addE s v.chs) i):=by
  unfold comE;rw[hv]
 rw[eC];clear eC;have hnc:=ok.nc;by_cases h0:v.chs=[]
 ·rw[if_pos h0];dsimp only;rw[aR];have HEN:Hid (∀ W,Below w.heap.size w W->Calls Tryz.prog 63 #[.pointer (some ⟨m.eb,0,none⟩),.int .i64 (i:Int)] W fun e w'=>e=.returned (.tuple #[])/\ActE w w' B m s (endE s i)/\Calls Tryz.prog 64 #[.pointer (some ⟨(m.W i).1,0,none⟩)] w' fun e w2=>e=.returned (.int .i64 (v.n:Int))/\w2=w'):=fun W hb=>by
   refine(tE W (h.on hb) ok hi (by omega)).mono ?_;rintro e w' ⟨rfl,⟨m',q1,q2,q3,q4⟩,hfar⟩;refine⟨rfl,⟨m',q1,q2,q3,(aG.on h.blo hb).trans q4⟩,xR w' ((hvw.on hb).kept fun k e=>hfar (i+3) k (by omega) ⟨by rw[hv];exact nofun,e⟩)⟩
  rw[h0] at HCH;clear h hvw;go_enter Tryz.func20,Tryz.ntmps20;go_wp2_with fail;refine HD.out.mono ?_;rintro e w1 ⟨rfl,rfl⟩;go_wp2_with fail;refine HCH.out.mono ?_;rintro e w2 ⟨cv,rfl,ho,hb2⟩;obtain⟨ao,cap,rfl,_,_⟩:=pI ho;have HE2:=hide (HEN.out w2 hb2);clear ho hb2 HEN HCH HD;go_wp2_with fail;refine HE2.out.mono ?_;rintro e w3 ⟨rfl,ha,hsi⟩;have HA:=hide ha;have HSI:=hide hsi;clear ha hsi HE2;go_wp2_with fail;refine HSI.out.mono ?_;rintro e w4 ⟨rfl,hw4⟩;rw[hw4];clear hw4;go_wp2;go_ret2;exact⟨rfl,HA.out⟩
 ·rw[if_neg h0];have hlen0:¬(v.chs.length:Int)=0:=fun e=>h0 (List.length_eq_zero_iff.1 (by omega));have hlen1:((v.chs.length:Int)==0)=false:=by simpa using hlen0
  have hds:ofDV m.dv=s.ds:=h.ds;have hdl:m.dv.length<=1000:=by
   have e1:=congrArg List.length hds;have e2:=ok.dl;unfold ofDV at e1;rw[List.length_map] at e1;omega
  have HRD:Hid (∀ W,Below w.heap.size w W->Calls Tryz.prog 66 #[.pointer (some ⟨(m.W i).1,0,none⟩)] W fun e w'=>∃ rv,e=.returned rv/\lL w' W.heap.size rv v.rds/\Below W.heap.size W w'):=fun W hb=>zIP W (hvw.on hb) (by omega);have HSI:Hid (∀ W,Below w.heap.size w W->Calls Tryz.prog 64 #[.pointer (some ⟨(m.W i).1,0,none⟩)] W fun e w'=>e=.returned (.int .i64 (v.n:Int))/\w'=W):=fun W hb=>xR W (hvw.on hb);have HCL:Hid (∀ W ao cap,Below w.heap.size w W->bY W ao v.rds->Calls Tryz.prog 65 #[.pointer (some ⟨m.eb,2,none⟩),.slice ao v.rds.length cap,.int .i64 (v.n:Int)] W fun e w'=>e=.returned (.bool (lC s.ds v.rds v.n))/\Below W.heap.size W w'):=fun W ao cap hb hh=>by
   have:=zIq m.dv B m.eb m.hv (v.n:Int) v.rds ao cap W (h.on hb).hi (by rw[hds];exact ok.rd) hdl (fun p hp=>by
    have:=ok.dk p.1 (by rw[<-hds];exact List.mem_map_of_mem hp);omega) hh (by unfold maxLen;omega)
   rw[hds] at this;exact this
  by_cases hcl:lC s.ds v.rds v.n=false
  ·rw[if_pos hcl];dsimp only;rw[hcl] at HCL;have HE9:Hid (errV 9=.iface 114 (.int .i64 9)):=rfl;rw[HE9.out];have HEN:Hid (∀ W,Below w.heap.size w W->Calls Tryz.prog 63 #[.pointer (some ⟨m.eb,0,none⟩),.int .i64 (i:Int)] W fun e w'=>e=.returned (.tuple #[])/\ActE w w' B m s (endE s i)):=fun W hb=>by
    refine(tE W (h.on hb) ok hi (by omega)).mono ?_;rintro e w' ⟨rfl,⟨m',q1,q2,q3,q4⟩,hfar⟩;exact⟨rfl,m',q1,q2,q3,(aG.on h.blo hb).trans q4⟩
   clear h hvw hds;go_enter Tryz.func20,Tryz.ntmps20;go_wp2_with fail;refine HD.out.mono ?_;rintro e w1 ⟨rfl,rfl⟩;go_wp2_with fail;refine HCH.out.mono ?_;rintro e w2 ⟨cv,rfl,ho,hb2⟩;obtain⟨ao,cap,rfl,_,_⟩:=pI ho;clear ho HCH HD;go_wp2_with fail
   go_region_with (first
    | (go_at_call 66;refine(HRD.out _ ?_).mono ?_;exact hb2.drew;rintro e w3 ⟨rv,rfl,hov,hb3⟩;obtain⟨ra,rc,rfl,hheld,_⟩:=sI hov;have HB3:=hide (aB hb2.drew (Nat.le_refl _) hb3);clear hov hb3)
    | (go_at_call 64;refine(HSI.out _ ?_).mono ?_;(first|exact hb2.drew|exact HB3.out);rintro e w4 ⟨rfl,hw4⟩;subst hw4)
    | (go_at_call 65;refine(HCL.out _ ra rc HB3.out hheld).mono ?_;rintro e w5 ⟨rfl,hb5⟩;have HB5:=hide (aB HB3.out (Nat.le_refl _) hb5);clear hb5)
    | fail)
   all_goals
    have HE2:=hide (HEN.out _ HB5.out);clear HB5;go_wp2_with fail;refine HE2.out.mono ?_;rintro e w6 ⟨rfl,ha⟩;have HA:=hide ha;clear ha HE2;go_wp2;go_ret2;exact⟨rfl,HA.out⟩
  ·rw[if_neg hcl];have hclt:lC s.ds v.rds v.n=true:=by simpa using hcl
   rw[hclt] at HCL;have HAD:Hid (∀ W ao cap,Below w.heap.size w W->bW W ao v.chs->(∀ b off,ao=some ⟨b,off,none⟩->w.heap.size<=b)->Calls Tryz.prog 67 #[.pointer (some ⟨m.eb,0,none⟩),.slice ao v.chs.length cap] W fun e w'=>e=.returned (.tuple #[.int .i64 (if (comR s.x v.chs).1=0 then ((s.now+1:Nat):Int) else 0),errV (comR s.x v.chs).1])/\ActE w w' B m s (zI s v.chs)):=fun W ao cap hb hh hnew=>by
    refine(zLc v.chs ao cap W (h.on hb) ok (by omega) hh (fun _ b off e hin=>by
     obtain⟨a,ha⟩:=hin;have:=h.lt ha;have:=hnew b off e;omega) hvo.oq.cf hvo.ov.cr hcn).mono ?_
    rintro e w' ⟨rfl,m',q1,q2,q3,q4⟩;exact⟨rfl,m',q1,q2,q3,(aG.on h.blo hb).trans q4⟩
   unfold zI at HAD;by_cases hR:(comR s.x v.chs).1≠0
   ·rw[if_pos hR];dsimp only;rw[if_neg hR,if_neg hR] at HAD;rw[aP hR] at HAD ⊢;clear h hvw hds;generalize comR s.x v.chs=R at *;go_enter Tryz.func20,Tryz.ntmps20;go_wp2_with fail;refine HD.out.mono ?_;rintro e w1 ⟨rfl,rfl⟩;go_wp2_with fail;refine HCH.out.mono ?_;rintro e w2 ⟨cv,rfl,ho,hb2⟩;obtain⟨ao,cap,rfl,hch,hnew⟩:=pI ho;clear ho HCH HD;go_wp2_with fail
    go_region_with (first
     | (go_at_call 66;refine(HRD.out _ ?_).mono ?_;exact hb2.drew;rintro e w3 ⟨rv,rfl,hov,hb3⟩;obtain⟨ra,rc,rfl,hheld,_⟩:=sI hov;have HB3:=hide (aB hb2.drew (Nat.le_refl _) hb3);have HC3:=hide (eA (aB (Below.refl _ w2).drew (Nat.le_refl _) hb3) hch);clear hov hb3)
     | (go_at_call 64;refine(HSI.out _ ?_).mono ?_;(first|exact hb2.drew|exact HB3.out);rintro e w4 ⟨rfl,hw4⟩;subst hw4)
     | (go_at_call 65;refine(HCL.out _ ra rc HB3.out hheld).mono ?_;rintro e w5 ⟨rfl,hb5⟩;have HB5:=hide (aB HB3.out (Nat.le_refl _) hb5);have HC5:=hide (eA hb5 HC3.out);clear hb5)
     | fail)
    all_goals
     have HE2:=hide (HAD.out _ ao cap HB5.out HC5.out hnew);clear HB5 HC5;go_wp2_with fail;refine HE2.out.mono ?_;rintro e w6 ⟨rfl,ha⟩;have HA:=hide ha;clear ha HE2;go_wp2;go_ret2;exact⟨rfl,HA.out⟩
   ·rw[if_neg hR];have hR0:(comR s.x v.chs).1=0:=by simpa using hR
    dsimp only;rw[hR0] at HAD;simp only[if_true] at HAD;rw[aR] at HAD ⊢;have ok2:=ok.add hR0;have HEN:Hid (∀ W,ActE w W B m s (addE s v.chs)->Calls Tryz.prog 63 #[.pointer (some ⟨m.eb,0,none⟩),.int .i64 (i:Int)] W fun e w'=>e=.returned (.tuple #[])/\ActE w w' B m s (endE (addE s v.chs) i)):=fun W ha=>by
     obtain⟨m1,p1,p2,p3,p4⟩:=ha;have:=tE W p1 ok2 hi (by show s.c+1<=190;omega);rw[p2] at this;refine this.mono ?_;rintro e w' ⟨rfl,⟨m',q1,q2,q3,q4⟩,hfar⟩;exact⟨rfl,m',q1,q2.trans p2,⟨q3.1.trans p3.1,fun j hj=>(q3.2 j hj).trans (p3.2 j hj)⟩,p4.trans q4⟩
    clear h hvw hds ok2;generalize (s.now+1:Nat)=nn1 at *;go_enter Tryz.func20,Tryz.ntmps20;go_wp2_with fail;refine HD.out.mono ?_;rintro e w1 ⟨rfl,rfl⟩;go_wp2_with fail;refine HCH.out.mono ?_;rintro e w2 ⟨cv,rfl,ho,hb2⟩;obtain⟨ao,cap,rfl,hch,hnew⟩:=pI ho;clear ho HCH HD;go_wp2_with fail
    go_region_with (first
     | (go_at_call 66;refine(HRD.out _ ?_).mono ?_;exact hb2.drew;rintro e w3 ⟨rv,rfl,hov,hb3⟩;obtain⟨ra,rc,rfl,hheld,_⟩:=sI hov;have HB3:=hide (aB hb2.drew (Nat.le_refl _) hb3);have HC3:=hide (eA (aB (Below.refl _ w2).drew (Nat.le_refl _) hb3) hch);clear hov hb3)
     | (go_at_call 64;refine(HSI.out _ ?_).mono ?_;(first|exact hb2.drew|exact HB3.out);rintro e w4 ⟨rfl,hw4⟩;subst hw4)
     | (go_at_call 65;refine(HCL.out _ ra rc HB3.out hheld).mono ?_;rintro e w5 ⟨rfl,hb5⟩;have HB5:=hide (aB HB3.out (Nat.le_refl _) hb5);have HC5:=hide (eA hb5 HC3.out);clear hb5)
     | fail)
    all_goals
     have HE2:=hide (HAD.out _ ao cap HB5.out HC5.out hnew);clear HB5 HC5;go_wp2_with fail;refine HE2.out.mono ?_;rintro e w6 ⟨rfl,ha⟩;have HE3:=hide (HEN.out _ ha);clear ha HE2;go_wp2_with fail;refine HE3.out.mono ?_;rintro e w7 ⟨rfl,ha⟩;have HA:=hide ha;clear ha HE3;go_wp2;go_ret2;exact⟨rfl,HA.out⟩
theorem zCO (w:World) (h:EK w B m s) {i:Nat} (hi:i<4) (hv:s.ses i=none):
  Calls Tryz.prog 20 #[.pointer (some ⟨m.eb,0,none⟩),.int .i64 (i:Int)] w fun e w'=>e=.returned (.tuple #[.int .i64 ((comE s i).1.1:Int),errV (comE s i).1.2])/\ActE w w' B m s (comE s i).2:=by
 have nn:=eG;have n1:=bM 114;have eC:comE s i=((0,7),s):=by unfold comE;rw[hv]
 rw[eC];dsimp only;have HE:Hid (errV 7=.iface 114 (.int .i64 7)):=rfl;have HD:=hide (pC w h hi hv);have HS:=hide (h.stay (Below.refl _ w));rw[HE.out] at HD ⊢;clear h;go_enter Tryz.func20,Tryz.ntmps20;go_wp2_with fail;refine HD.out.mono ?_;rintro e w1 ⟨rfl,rfl⟩;go_wp2;go_ret2;exact⟨rfl,HS.out⟩
theorem vX (w:World) (h:EK w B m s) (ok:EOk s) {i:Nat} (hi:i<4) (hc:s.c<=150):
  Calls Tryz.prog 20 #[.pointer (some ⟨m.eb,0,none⟩),.int .i64 (i:Int)] w fun e w'=>e=.returned (.tuple #[.int .i64 ((comE s i).1.1:Int),errV (comE s i).1.2])/\ActE w w' B m s (comE s i).2:=by
 cases hv:s.ses i with
 | none=>exact zCO w h hi hv
 | some v=>exact zC5 w h ok hi hc hv
end
theorem VS.down {w:World} {B B' vb mb n:Nat} {now:Int} {D:DataW Value} {g:ByteArray->Value} {R:ByteArray->List Ver} (h:VS w B vb mb now n D g R) (hB:B'<=B):VS w B' vb mb now n D g R:=
 { h with rows:=fun key=>ownsRow_le (h.rows key) hB,lov:=Nat.le_trans hB h.lov,lom:=Nat.le_trans hB h.lom }
structure ENew (w w':World) (B eb db:Nat) (S:Nat->Prop) (s:ESt):Prop where
 ex:∃ m,EK w' B m s/\m.eb=eb/\m.db=db/\∀ k,allF m s.ses k->S k∨w.heap.size<=k
 bel:Below w.heap.size w w'
theorem zIf {B db:Nat} {S:Nat->Prop} {d:DSt} {area first u:Nat} {rows:List Chg} (w:World) (hk:DK w B db S d) (hr:cQ d area first u rows):
  Calls Tryz.prog 27 #[.pointer (some ⟨db,0,none⟩)] w fun e w'=>∃ eb,e=.returned (.tuple #[.pointer (some ⟨eb,0,none⟩),.nilIface])/\ENew w w' B eb db S (newE d area first u rows):=by
 have nn:=eG;have hfew:=hr.few;have hfine:=hr.fine;have hBw:=hk.lo;have hSlt:∀ k,S k->k<w.heap.size:=fun k e=>hk.lt e;have HO:=hide (zFO w hk hr);have HRL:Hid ((aS rows).length<=1000/\∀ r∈aS rows,r.1.size<=1000000):=by
  have ov:=yA hfine hfew;have h1:=ov.len;refine⟨by omega,fun r hr=>?_⟩;have:=ov.keys r hr;omega
 clear hk;go_enter Tryz.func27,Tryz.ntmps27;go_wp2_with fail;refine HO.out.mono ?_;rintro e w1 ⟨sb,rfl,hn1⟩;obtain⟨T,hsa,hT⟩:=hn1.sa;have hb1:=hn1.bel;have HRO:=hide (zBm w1 hsa (by show rows.length<=1000;omega));have HSA:=hide hsa;have HT:=hide hT;have HB1:=hide hb1;clear hn1 hsa hT hb1 HO;go_wp2_with fail;refine HRO.out.mono ?_;rintro e w2 ⟨rv,rfl,ho,hb2⟩;obtain⟨ra,rc,rfl,hheld⟩:=lV ho;have HNV:=hide (zMl (aS rows) ra rc w2 hheld HRL.out.1 HRL.out.2);have HB2:=hide hb2;clear ho hb2 hheld HRO;go_wp2_with fail;refine HNV.out.mono ?_;rintro e w3 ⟨vb,rfl,hb3,mb,D,g,hvs⟩;have HV:=hide hvs;have HB3:=hide hb3;clear hvs hb3 HNV;go_wp2;go_ret2;refine⟨_,rfl,?_⟩;have hbA:=below_alloc1 w3 (Obj.cells #[.pointer (some ⟨sb,0,none⟩),.pointer (some ⟨vb,0,none⟩),.slice none 0 0,.pointer none,.pointer none,.pointer none,.pointer none] 124);have s1:=HB1.out.size;have s2:=HB2.out.size;have s3:=HB3.out.size;have hb13:=aB HB2.out (Nat.le_refl _) HB3.out;have hb14:=aB hb13 (Nat.le_refl _) hbA
 let m:EMem:=⟨w3.heap.size,sb,db,vb,mb,(aS rows).length,D,g,.slice none 0 0,[],fun _=>(0,.slice none 0 0,.slice none 0 0),T,fun _=>False⟩
 have hTlt:∀ k,T k->k<w1.heap.size:=fun k e=>HSA.out.lt e;have hVlo:∀ k,inVS vb mb g k->w2.heap.size<=k:=by
  rintro k (rfl|rfl|⟨key,e⟩)
  ·exact HV.out.lov
  ·exact HV.out.lom
  ·exact(World.ownsRow.lt (HV.out.rows key) k e).1
 have hVlt:∀ k,inVS vb mb g k->k<w3.heap.size:=fun k e=>HV.out.lt e;have hH:∀ k,inH w3.heap.size (.slice none 0 0) [] k->k=w3.heap.size:=by
  rintro k (rfl|e|⟨p,hp,_⟩)
  ·rfl
  ·cases e
  ·cases hp
 refine⟨⟨m,⟨?_,(HSA.out.on hb14),?_,(fun i v hv=>by cases hv),rfl,?_,?_,fun _ _=>rfl⟩,rfl,rfl,?_⟩,?_⟩
 ·exact {
   cell:=aC _ _ _ 2
   soft:=aQ _ _ _ 2
   lo:=by show B<=w3.heap.size;omega
   own:=World.ownsRow_nil _ _ _ _
   keys:=by intro p hp;cases hp
   off:=by simp[m,Value.ownBlock]
   offk:=by intro p hp;cases hp
   apart:=by intro p hp;cases hp
   pair:=List.Pairwise.nil
   rest:=fun j=>⟨fun hj=>by
    show(w3.alloc _).cell? ⟨w3.heap.size,j,none⟩=_;rw[aC];have hj':j=0∨j=1∨j=3∨j=4∨j=5∨j=6∨7<=j:=by omega
    rcases hj' with rfl|rfl|rfl|rfl|rfl|rfl|h7
    ·rfl
    ·rfl
    ·rfl
    ·rfl
    ·rfl
    ·rfl
    ·unfold engX;rw[if_neg (by omega),if_neg (by omega),if_neg (by omega)];exact Array.getElem?_eq_none h7,aQ _ _ _ j⟩ }
 ·exact(HV.out.on hbA).down (by omega)
 ·have hlo:∀ i k,engF m (newE d area first u rows).ses i k->(i=0/\k=w3.heap.size)∨(i=1/\k<w1.heap.size)∨(i=2/\w2.heap.size<=k/\k<w3.heap.size):=by
   intro i k hk
   match i,hk with
   | 0,hk=>exact .inl ⟨rfl,hH k hk⟩
   | 1,hk=>exact .inr (.inl ⟨rfl,hTlt k hk⟩)
   | 2,hk=>exact .inr (.inr ⟨rfl,hVlo k hk,hVlt k hk⟩)
   | i+3,hk=>exact absurd rfl hk.1
  intro i j k h1 h2;rcases hlo i k h1 with⟨a,b⟩|⟨a,b⟩|⟨a,b,c⟩<;>rcases hlo j k h2 with⟨a',b'⟩|⟨a',b'⟩|⟨a',b',c'⟩<;>omega
 ·have:=HRL.out.1;show(aS rows).length<=2000*(0+1);omega
 ·rintro k ⟨i,hk⟩
  match i,hk with
  | 0,hk=>have:=hH k hk;exact .inr (by omega)
  | 1,hk=>exact HT.out k hk
  | 2,hk=>have:=hVlo k hk;exact .inr (by omega)
  | i+3,hk=>exact absurd rfl hk.1
 ·exact aB HB1.out (Nat.le_refl _) hb14
theorem pX (W:World):(binOp .eql 42 .nilIface .nilIface).run Tryz.prog W=.ok (.bool true) W:=by kernel_rfl
theorem zGI (f:Nat) (w:World):Calls Tryz.prog 40 #[errV f] w fun e w'=>e=.returned (.int .i64 f)/\w'=w:=by
 have n0:=pX;have n1:=rD 114;by_cases h:f=0
 ·subst h;rw[aR];go_enter Tryz.func40,Tryz.ntmps40;go_wp2;go_ret;exact⟨rfl,rfl⟩
 ·have h1:=zDu (.int .i64 f);rw[aP h];go_enter Tryz.func40,Tryz.ntmps40;go_wp2;go_ret;exact⟨rfl,rfl⟩
end
end Go.Proofs.YtnboipekkahmnaaGreatDoor
