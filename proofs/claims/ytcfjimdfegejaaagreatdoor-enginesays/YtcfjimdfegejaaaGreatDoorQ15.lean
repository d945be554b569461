import Derived.Test.YtcfjimdfegejaaaGreatDoorQ11
set_option maxHeartbeats 8000000
set_option maxRecDepth 100000
namespace Go.Proofs.YtcfjimdfegejaaaGreatDoor
open List renaming length_replicate→L5,length_set→NZ,replicate→WY
open Go.Proofs.Tryz renaming prog→XZ,zeroCells284→B8
open Go.Proofs.Tryz
open World renaming cell?_of_block→b_
open Go.RowKit.Below renaming refl→r_
open Go.Proofs.Tryz renaming prog→p_
open Value renaming int→i_
open Go.Joins renaming below_alloc1→a_
section
open Go.RowKit Go.Joins
attribute [local go_sem ↓] Go.wp_at_zero Go.wp_at_succ
theorem zF5 (w:World) (C D:Array Value) (t:TypeId):(w.alloc (.cells C t)).setRow w.heap.size D=w.alloc (.cells D t):=by
 unfold World.setRow World.alloc
 cases w with
 | mk heap tape XA os output=>
  congr 1;apply Array.ext
  ·simp
  ·intro k h1 h2;simp only[Array.getElem_modify,Array.getElem_push];split
   ·rename_i hk;subst hk;simp
   ·rename_i hk;have Aa:k<heap.size:=by simp at h2;omega
    rw[dif_pos Aa,dif_pos Aa]
section
variable {B db:Nat} {S:Nat->Prop} {s:Bb}
theorem zEP:(B8).toList=WY 96 (.int .u8 0):=by kernel_rfl
theorem zH4:(XZ.info? 5).map (·.size)=some 1:=by kernel_rfl
theorem zLE (d:BA):splice (WY 96 (i_ .u8 0)) 0 (Ka d)=Ka (aH d):=by
 have hl:=cM d;unfold splice;rw[List.take_zero,List.nil_append,Nat.zero_add,hl,List.drop_replicate];unfold Ka aH;simp only[List.map_append,List.map_replicate];rfl
theorem zEu (d:BA) (hd:d.size<=96) (w:World):(Builtin.copy_ #[226,9] 3 #[.slice (some ⟨w.heap.size,0,none⟩) 96 96,.string d]).run p_ (w.alloc (.cells B8 284))=.ok (goInt d.size) (w.alloc (.cells (Ka (aH d)).toArray 284)):=by
 have hz:=zEP;have hC:w.alloc (.cells B8 284)=w.alloc (.cells (WY 96 (i_ .u8 0)).toArray 284):=by rw[<-hz]
 rw[hC];have hg:=Go.heap_alloc_new w (.cells (WY 96 (i_ .u8 0)).toArray 284);have SD:Nat.min d.size 96=d.size:=Nat.min_eq_left hd;have h:=uY (P:=p_) (w.alloc (.cells (WY 96 (i_ .u8 0)).toArray 284)) 226 9 3 5 1 w.heap.size 0 96 96 d.size (.string d) (WY 96 (i_ .u8 0)) 284 (Ka d) underlying226 zH4 hg rfl
  (by
   rw[SD];simp only[Builtin.firstCells];rw[Sem.run_pure];congr 1;apply Array.ext';unfold Ka;simp)
  (by rw[cM,L5];omega) (rV d)
 rw[h,SD,jV w.heap.size _ (0,0) _ 0 _ (WY 96 (i_ .u8 0)) hg (by rw[cM,L5];omega),zLE d,zF5]
theorem zFI (s:Bb):(bR s).now=s.now:=by unfold bR;split;rfl;split<;>rfl
theorem DK.laid {w:World} (h:DK w B db S s) {a:Nat} (ha:a<s.now.length) {d:BA} (hd:d.size=96):∃ nb kb lb n lv Fa L,vi w db nb kb lb n ((s.wait.length % 64:Nat):Int) L s.down/\Tk w B db nb kb lb n lv s.now s.kept Fa/\w.there nb (a*96) 96/\Xa w (w.setCells nb (a*96) (Ka d)) B db S { s with now:=s.now.set a d }/\(w.setCells nb (a*96) (Ka d)).heap[db]?=w.heap[db]?/\(∀ k,k≠nb->(w.setCells nb (a*96) (Ka d)).heap[k]?=w.heap[k]?)/\S nb:=by
 obtain⟨nb,kb,lb,n,lv,Fa,L,h1,h2,hS,h4,h5,h6,h7⟩:=h;have hl:(Ka d).length=96:=(cM d).trans hd;have Dq:(s.now.flatMap Ka).length=s.now.length*96:=cC (z:=96) fun x hx=>(cM x).trans (h2.sn x hx);have jf:=h2.ap;have k1:∀ k,k≠nb->(w.setCells nb (a*96) (Ka d)).heap[k]?=w.heap[k]?:=fun k hk=>cA nb _ _ _ hk;have hb:a*96+(Ka d).length<=(s.now.flatMap Ka).length:=by rw[hl,Dq];omega
 have jh:Below B w (w.setCells nb (a*96) (Ka d)):=dW h2.lo.2.1 _ _ _ (r_ _ _);refine⟨nb,kb,lb,n,lv,Fa,L,h1,h2,rL h2.hn (by rw[Dq];omega),⟨S,⟨nb,kb,lb,n,lv,Fa,L,h1.kept (k1 db jf.1),{ h2 with hn:=?_,hk:=(k1 kb jf.2.2.2.1.symm).trans h2.hk,hl:=(k1 lb jf.2.2.2.2.1.symm).trans h2.hl,nn:=by rw[NZ];exact h2.nn,sn:=fun x hx=>(List.mem_or_eq_of_mem_set hx).elim (h2.sn x) (fun e=>by rw[e];exact hd),own:=fun i hi h'=>gD (h2.own i hi h') fun k e=>k1 k (h2.tq i hi k e).2.1 },hS,h4,h5,h6,Nat.le_trans h7 jh.size⟩,⟨jh,fun k _ hn=>⟨k1 k fun e=>hn (by rw[hS];exact .inr (.inl e)),hn⟩⟩⟩,k1 db jf.1,k1,by rw[hS];exact .inr (.inl rfl)⟩;rw[eY nb _ (0,0) _ _ w _ h2.hn hb,uV (z:=96) (fun x hx=>(cM x).trans (h2.sn x hx)) a ha d hl]
theorem sH (at_:Int) (d:BA) (w:World) (h:DK w B db S s):Calls p_ 151 #[.pointer (some ⟨db,0,none⟩),.int .i64 at_,.string d] w fun e w'=>e=.returned (pa (dO s at_ d))/\Xa w w' B db S (cV s at_ d):=by
 have HH:=aa (zCJ at_ w h);have Ce:=aa (zBt w h);have HW:=aa h;have hn:=h.many;have Ir:(d.size:Int)<=9223372036854775807∨True:=.inr trivial;unfold dO cV;by_cases hr:at_<0∨(s.now.length:Int)<=at_∨96<d.size
 ·rw[if_pos hr,if_pos hr,aP (show(1:Nat)≠0 by decide)];by_cases hq:at_<0∨(s.now.length:Int)<=at_
  ·have hb:fi s at_=false:=by unfold fi;simp;omega
   rw[hb] at HH;clear Ce Ir;go_enter func151,ntmps151;go_wp2_with (go_at_call 210;refine HH.out.mono ?_;rintro e w1 ⟨rfl,rfl⟩)
   go_ret;exact⟨rfl,HW.out.stay (r_ _ _)⟩
  ·have hb:fi s at_=true:=by unfold fi;simp;omega
   rw[hb] at HH;have ru:(96:Int)<(d.size:Int):=by omega
   clear Ce Ir;go_enter func151,ntmps151;go_wp2_with (go_at_call 210;refine HH.out.mono ?_;rintro e w1 ⟨rfl,rfl⟩)
   go_ret;exact⟨rfl,HW.out.stay (r_ _ _)⟩
 ·rw[if_neg hr,if_neg hr];have hb:fi s at_=true:=by unfold fi;simp;omega
  rw[hb] at HH;have ru:¬(96:Int)<(d.size:Int):=by omega
  have NC:d.size<=96:=by omega
  obtain⟨a,rfl⟩:=Int.eq_ofNat_of_zero_le (show 0<=at_ by omega);rw[Int.toNat_natCast];have ha:a<s.now.length:=by omega
  have ZM:=zFI s;have Hh:a<(bR s).now.length:=by rw[ZM];exact ha
  have TG:=aa ZM;clear ZM Ir;generalize bR s=s1 at *;generalize cD s=f at *;by_cases hf:f=0
  ·subst hf;rw[if_pos rfl,aR];rw[aR] at Ce;have Et:=sJ NC;go_enter func151,ntmps151;go_wp2_with (first
    | (go_at_call 210;refine HH.out.mono ?_;rintro e w1 ⟨rfl,rfl⟩)
    | (go_at_call 207;refine Ce.out.mono ?_;rintro e w2 ⟨rfl,al⟩;obtain⟨S2,lf,Ub⟩:=al;have kq:=aa lf;have yf:=aa Ub;have Sm:=zEu d NC w2;clear lf Ub))
   have Bk:=kq.out.on (a_ w2 (.cells (Ka (aH d)).toArray 284)).drew;have Tf:aG _ (w2.alloc (.cells (Ka (aH d)).toArray 284)).drew B S S2:=yf.out.trans (.on kq.out.lo (a_ w2 (.cells (Ka (aH d)).toArray 284)).drew);obtain⟨nb,kb,lb,n,lv,Fa,L,g1,g2,BQ,XB,Tm,KP,hSn⟩:=Bk.laid Hh Et;have hnb:nb<w2.heap.size:=kq.out.lt hSn;have qi:(w2.alloc (.cells (Ka (aH d)).toArray 284)).rangeAt w2.heap.size 0 (Ka (aH d)):=jD (Go.heap_alloc_new w2 _) (fun j _=>by rw[Nat.zero_add]);have Zi:=(World.rangeAt_drew _ _ _ _).2 qi;have hr4:((w2.alloc (.cells (Ka (aH d)).toArray 284)).drew.setCells nb (a*96) (Ka (aH d))).rangeAt w2.heap.size 0 (Ka (aH d)):=World.rangeAt_setCells_apart Zi _ _ _ (.inl (by omega));have c0:=g1.c0;have Qq:Hid (((w2.alloc (.cells (Ka (aH d)).toArray 284)).drew.setCells nb (a*96) (Ka (aH d))).cell? ⟨db,0,none⟩=some (.slice (some ⟨nb,0,none⟩) n n)):=(b_ (a:=⟨db,0,none⟩) Tm).trans c0;have WV:=aa (World.there_setCells BQ nb (a*96) (Ka (aH d)));have OV:=aa hr4;have Yu:=aa XB;have Sh:=aa Tf;have hu:=underlying284;have Yf:(Ka (aH d)).length=96:=(cM _).trans Et;have hi:(XZ.info? 284).map (·.size)=some (Ka (aH d)).length:=by rw[Yf];exact nV
   have h1c:=rV (aH d);have Vp:n=s1.now.length:=g2.nn.symm;have Iu:(a:Int)<(n:Int):=by omega
   have VO:(0:Int)<=(a:Int):=by omega
   have HPS:=aa Et;clear Sm XB Tm KP hSn g1 g2 hr4 Bk Tf qi kq yf Vp
   go_region_held3 (fun w'=>w'.cell? ⟨db,0,none⟩=some (.slice (some ⟨nb,0,none⟩) n n)/\w'.rangeAt w2.heap.size 0 (Ka (aH d))/\w'.there nb (a*96) 96) (first|exact⟨Qq.out,OV.out,WV.out⟩|exact⟨c0,Zi,BQ⟩) (fail)
   clear Zi BQ c0 hi hu;obtain⟨S4,hk4,Po⟩:=Yu.out;have TL:=aa (Sh.out.trans Po);have sj:=aa (zHY a (aH d) _ hk4 (by rw[NZ];exact Hh) HPS.out);clear hk4 Po Yu Qq WV;generalize (w2.alloc (.cells (Ka (aH d)).toArray 284)).drew.setCells nb (a*96) (Ka (aH d))=W4 at *;go_wp2_with (first
    | (refine wpList_load_mid (by rfl) 284 _ (by rfl) w2.heap.size 0 (by rfl) (Ka (aH d)) _ OV.out underlying284 (by rfl) (by rw[Yf];exact nV) ?_)
    | (go_at_call 211;refine sj.out.mono ?_;rintro e w5 ⟨rfl,ha5⟩))
   go_ret;exact⟨rfl,Xa.after TL.out ha5⟩
  ·have Cq:=aP hf;rw[if_neg hf,Cq];rw[Cq] at Ce;go_enter func151,ntmps151;go_wp2_with (first
    | (go_at_call 210;refine HH.out.mono ?_;rintro e w1 ⟨rfl,rfl⟩)
    | (go_at_call 207;refine Ce.out.mono ?_;rintro e w2 ⟨rfl,al⟩))
   go_ret;exact⟨rfl,al⟩
end
end
end Go.Proofs.YtcfjimdfegejaaaGreatDoor
